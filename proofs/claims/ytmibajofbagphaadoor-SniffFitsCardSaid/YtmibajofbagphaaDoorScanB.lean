/-
  Contracts: few, short, piece, Items of layer 1.
-/
import Derived.Test.YtmibajofbagphaaDoorScanA
import Derived.Lib.OthersKept
import Derived.Lib.RuneCount
import Derived.WalkSmall
import Derived.Laws.BytesArg
namespace Go.Proofs.YtmibajofbagphaaDoor
open Go.RowKit

theorem run_str {P : Program} (w : World) (src e dst : TypeId) (hs : P.underlying src = some (.slice e)) (he : P.underlying e = some (.int .u8)) (hd : P.underlying dst = some .string)
    (a : Option Addr) (n cap : Nat) (zs : List Int) (hn : zs.length = n) (hat : AtCells w a (zs.map (Value.int .u8))) :
    Sem.run P (convert src dst (.slice a n cap)) w = .ok (.string (strOfNums zs)) w := by
  rcases zs with _ | ⟨z, zs⟩
  · simp at hn; subst hn
    rw [run_convert_bytes_string w src dst e a _ cap hs he hd]
    cases a with
    | none => rfl
    | some x => rw [run_bytesToString w x 0 cap [] (by rfl)]; rfl
  · obtain ⟨b, off, rfl, _⟩ := hat.int (k := 0) (by simp)
    exact run_convert_bytes_arg w src e hs he b off n cap _ hn (fun i hi => by
      obtain ⟨b', off', hb, hc⟩ := hat.int (k := i) (by omega)
      simp only [Option.some.injEq, Addr.mk.injEq] at hb
      obtain ⟨rfl, rfl, _⟩ := hb
      exact hc) dst hd

/-- Do bytes, at a place, that the library reads as U+FFFD, not have it? -/
def badAt (s : ByteArray) (r : Int) : Bool := decide (r = 65533) && !Lib.hasPrefix s.data.toList [239, 191, 189]
def pieceR (s : ByteArray) (r : Int) : Int := if badAt s r then -1 else r
def pieceN (s : ByteArray) (r : Int) : Int := if badAt s r then 1 else U8.width r

set_option maxHeartbeats 400000 in
theorem piece_any (s : ByteArray) (r : Int) (w : World) :
    Calls Tryd.prog 58 #[.string s, .int .i32 r] w fun e w' => e = .returned (.tuple #[.int .i32 (pieceR s r), .int .i64 (pieceN s r)]) ∧ w = w' := by
  go_enter Tryd.func58, Tryd.ntmps58
  go_wp2_with (first | (go_at_call 72; refine (Tryd.strings_HasPrefix _ _ _).mono ?_; rintro e w' ⟨rfl, rfl⟩) | (go_at_call 47; refine (width_any _ _).mono ?_; rintro e w' ⟨rfl, rfl⟩))
  · have h1 : r = 65533 := by assumption
    have h2 : (!Lib.hasPrefix s.data.toList [239, 191, 189]) = true := by assumption
    have hb : badAt s r = true := by unfold badAt; rw [h2]; simp [h1]
    have HB := Lib.hid hb
    clear h1 h2 hb
    go_ret2
    exact ⟨ret_pair (by rw [pieceR, if_pos HB.out]) (by rw [pieceN, if_pos HB.out]), rfl⟩
  · have h2 : (!Lib.hasPrefix s.data.toList [239, 191, 189]) = false := by assumption
    have hb : badAt s r = false := by unfold badAt; rw [h2]; simp
    have h1 : r = 65533 := by assumption
    have HB := Lib.hid hb
    have H1 := Lib.hid h1
    clear h2 hb h1
    go_ret2
    exact ⟨ret_pair (by rw [pieceR, if_neg (by rw [HB.out]; decide), H1.out]) (by rw [pieceN, if_neg (by rw [HB.out]; decide), H1.out]), rfl⟩
  · have h1 : ¬ r = 65533 := by assumption
    have hb : badAt s r = false := by unfold badAt; simp [h1]
    have HB := Lib.hid hb
    clear h1 hb
    go_ret2
    exact ⟨ret_pair (by rw [pieceR, if_neg (by rw [HB.out]; decide)]) (by rw [pieceN, if_neg (by rw [HB.out]; decide)]), rfl⟩

/-- A piece's three cells; all pieces' cells. -/
def itemCells (x : Int × Int × Int) : List Value := [.int .i32 x.1, .int .i64 x.2.1, .int .i64 x.2.2]
def itemsCells (l : List (Int × Int × Int)) : List Value := l.flatMap itemCells

/-- The piece at a place. -/
def itemAt (s : ByteArray) (pos : Nat) : Int × Int × Int := (pieceR (s.extract pos s.size) (Utf8.decode s pos).1, (pos : Int), pieceN (s.extract pos s.size) (Utf8.decode s pos).1)

/-- The pieces of a string from a place on, by at most so many. -/
def itemsFrom (s : ByteArray) : Nat → Nat → List (Int × Int × Int)
  | 0, _ => []
  | fuel + 1, pos => if pos < s.size then
      itemAt s pos :: itemsFrom s fuel (pos + (Utf8.decode s pos).2)
    else []
def itemsOf (s : ByteArray) : List (Int × Int × Int) := itemsFrom s s.size 0

theorem itemsFrom_end (s : ByteArray) (fuel pos : Nat) (h : ¬ pos < s.size) : itemsFrom s fuel pos = [] := by
  cases fuel with
  | zero => rfl
  | succ f => simp [itemsFrom, h]

theorem itemsCells_length (l : List (Int × Int × Int)) : (itemsCells l).length = l.length * 3 := by
  induction l with
  | nil => rfl
  | cons x l ih => simp only [itemsCells, List.flatMap_cons, List.length_append, List.length_cons] at *; rw [ih]; simp [itemCells]; omega
theorem itemsCells_snoc (l : List (Int × Int × Int)) (x : Int × Int × Int) : itemsCells (l ++ [x]) = itemsCells l ++ itemCells x := by simp [itemsCells]

theorem Tryd.infoItem : (Tryd.prog.info? 52).map (fun i => (i.zero, i.size, i.bytes)) = some (some (.agg #[.int .i32 0, .int .i64 0, .int .i64 0]), 3, 24) := by kernel_rfl

theorem itemCells_one (x : Int × Int × Int) : ∀ u ∈ itemCells x, u.oneCell' = true := by
  intro u hu
  simp only [itemCells, List.mem_cons, List.not_mem_nil, or_false] at hu
  rcases hu with rfl | rfl | rfl <;> rfl

/-- What a call that answers pieces answers. -/
def OwnItems (w : World) (l : List (Int × Int × Int)) (e : Ending) (w' : World) : Prop :=
  ∃ v, e = .returned v ∧ w'.ownsRow w.heap.size 52 3 v l.length (itemsCells l) ∧ Below w.heap.size w w'

set_option maxHeartbeats 1000000 in
theorem items_any (a : Option Addr) (n cap : Nat) (zs : List Int) (w : World) (hn : zs.length = n) (hbig : n ≤ 1099511627776) (hat : AtCells w a (zs.map (.int .u8))) :
    Calls Tryd.prog 41 #[.slice a n cap] w (OwnItems w (itemsOf (strOfNums zs))) := by
  obtain ⟨i0, hi, hz0, hz1, hz2⟩ := info_parts Tryd.infoItem
  have hsize : (strOfNums zs).size = n := by rw [strOfNums_size, hn]
  have hrun := run_str (P := Tryd.prog) w 22 5 9 Tryd.underlying22 Tryd.underlying5 Tryd.underlying9 a n cap zs hn hat
  obtain ⟨s, hs⟩ : ∃ s, s = strOfNums zs := ⟨_, rfl⟩
  rw [← hs] at hrun hsize ⊢
  have HI := Lib.hid (And.intro hi (And.intro hz0 (And.intro hz1 hz2)))
  have HSZ := Lib.hid hsize
  have hrc := Lib.runeCount_le s
  have hcount : s.size < 9223372036854775807 := by omega
  have hb : i0.bytes * Lib.runeCount s ≤ 281474976710656 := by rw [hz2]; omega
  have hb2 : Lib.runeCount s ≤ maxLen := by unfold maxLen; omega
  have HB := Lib.hid (And.intro hb (And.intro hb2 hcount))
  have HIT := Lib.hid (show ∀ p, w.heap.size ≤ (w.iter s p).heap.size from fun p => by simp [World.iter])
  clear hs hn hat hi hz0 hz1 hz2 hsize hb hb2 hcount
  go_enter Tryd.func41, Tryd.ntmps41
  go_wp2_with (first
    | (go_at_call 57; refine (Tryd.utf8_RuneCountInString _ _ HB.out.2.2).mono ?_; rintro e w' ⟨rfl, pos0, rfl⟩)
    | (at_make; refine wpList_make_own _ rfl _ _ 46 rfl w.heap.size 52 i0 _ 3 Tryd.underlying46 HI.out.1 HI.out.2.1 HI.out.2.2.1 .i64 .i64 _ (Lib.runeCount s) rfl rfl rfl HB.out.1 HB.out.2.1 (HIT.out _) ?_; intro w1 hown1 hgrow1))
  have hb1 : Below w.heap.size w w1 := ((Below.refl _ _).alloc (Nat.le_refl _) (.stringIter s pos0)).grown hgrow1 (HIT.out pos0) (fun k hk => by cases hk)
  have hsz1 := hb1.size
  clear hgrow1 hrun
  go_loopw [4] (fun v wr => ∃ (pos fuel : Nat) (acc : List (Int × Int × Int)), wr.ownsRow w.heap.size 52 3 v acc.length (itemsCells acc) ∧ wr.heap[w1.heap.size]? = some (.stringIter s pos) ∧ Below w.heap.size w wr ∧ acc ++ itemsFrom s fuel pos = itemsOf s ∧ s.size ≤ pos + fuel ∧ acc.length ≤ pos)
    (fun _ wr => s.size - wr.iterPos w1.heap.size)
  case atStart => exact ⟨0, s.size, [], hown1.alloc _, World.iter_heap w1 s 0, hb1.alloc hsz1 _, rfl, by omega, by simp⟩
  case round =>
    obtain ⟨pos, fuel, acc, hown, hit, hbl, hacc, hfu, hal⟩ := hrel
    have hsz : w1.heap.size < wr.heap.size := (Array.getElem?_eq_some_iff.1 hit).1
    by_cases hp : pos < s.size
    · have hnx : ∀ ty, (Instr.next (.pointer (some ⟨w1.heap.size, 0, none⟩)) true ty).run Tryd.prog wr = _ := fun ty => Lib.run_next_any_at wr w1.heap.size s pos ty hit hp
      have hwd := Lib.decode_width_pos s pos hp
      have hd1 := decode_le s pos
      have HI2 := Lib.hid (Lib.iterAt_heap wr w1.heap.size s pos (pos + (Utf8.decode s pos).2) hit)
      have HACC := Lib.hid hacc
      have HOWN := Lib.hid (owns_iterAt hown hit (pos + (Utf8.decode s pos).2))
      have HBL := Lib.hid (Lib.below_iterAt hbl (k := w1.heap.size) hsz1 s (pos + (Utf8.decode s pos).2))
      have HS := Lib.hid (Lib.iterAt_size wr w1.heap.size s (pos + (Utf8.decode s pos).2))
      obtain ⟨wi, hwi⟩ : ∃ wi, wi = wr.iterAt w1.heap.size s (pos + (Utf8.decode s pos).2) := ⟨_, rfl⟩
      rw [← hwi] at hnx HI2 HOWN HBL HS
      have hbase : w.heap.size ≤ wi.heap.size := HBL.out.size
      have h63 : acc.length + 1 ≤ maxLen := by have := HSZ.out; unfold maxLen; omega
      have h47 : (acc.length + 1) * 24 ≤ 140737488355328 := by have := HSZ.out; omega
      have HM := Lib.hid (And.intro h63 h47)
      have HB5 := Lib.hid (show ∀ o, w.heap.size ≤ (wi.alloc o).heap.size from fun o => by simp; omega)
      have HP := Lib.hid (iterPos_of hit)
      clear hacc hown hwi h63 h47 hit hbl
      go_wp2_with (first
        | (go_at_call 58; refine (piece_any _ _ _).mono ?_; rintro e w' ⟨rfl, rfl⟩)
        | (at_builtin; refine wpList_append_own _ rfl _ _ 46 rfl w.heap.size 52 i0 _ 3 24 Tryd.underlying46 HI.out.1 HI.out.2.1 HI.out.2.2.1 HI.out.2.2.2 rfl (by decide) _ _ _ rfl (HOWN.out.alloc _) _ _ _ (itemCells (itemAt s pos)) rfl rfl (new_cells _ _ _) (itemCells_one _) HM.out.1 HM.out.2 (HB5.out _) ?_; intro v' w2 hown' hg' _))
      have hit2 := iter_grown HOWN.out HI2.out hg'
      have hb2 := below_grown_alloc HBL.out hbase hg' (fun g hg => (HOWN.out.lt g hg).1)
      clear hg'
      go_roundw
      case rel =>
        refine ⟨pos + (Utf8.decode s pos).2, fuel - 1, acc ++ [itemAt s pos], ?_, hit2, hb2, ?_, by omega, by simp; omega⟩
        · rw [itemsCells_snoc, List.length_append]; exact hown'
        · rw [← HACC.out]
          obtain ⟨f, rfl⟩ : ∃ f, fuel = f + 1 := ⟨fuel - 1, by omega⟩
          simp [itemsFrom, hp]
      case measure =>
        rw [HP.out, iterPos_of hit2]
        omega
    · have hnx : ∀ ty, (Instr.next (.pointer (some ⟨w1.heap.size, 0, none⟩)) true ty).run Tryd.prog wr = _ := fun ty => Lib.run_next_end_at wr w1.heap.size s pos ty hit hp
      have HACC := Lib.hid hacc
      clear hacc
      go_wp2
      go_ret
      have hacc := HACC.out
      rw [itemsFrom_end s fuel pos hp, List.append_nil] at hacc
      subst hacc
      exact ⟨_, rfl, hown, hbl⟩

end Go.Proofs.YtmibajofbagphaaDoor
