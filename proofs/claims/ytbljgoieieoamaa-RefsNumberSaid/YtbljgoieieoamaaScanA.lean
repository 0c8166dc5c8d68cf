/-
  Contracts: Width, few, Bytes, and the reference's, of layer 1.
-/
import Derived.Test.YtbljgoieieoamaaRows
import Derived.Test.YtbljgoieieoamaaShelf
import Derived.Test.YtbljgoieieoamaaU8
import Derived.Test.YtbljgoieieoamaaRows0
import Derived.WalkKit
import Derived.WalkSpells
import Derived.WalkLawsBesides
import Derived.Lib.Hide
import Derived.Laws.AppendOwnNone
namespace Go.Proofs.Ytbljgoieieoamaa
open Go.RowKit

theorem ret_int {k : IntKind} {a b : Int} (h : a = b) : Ending.returned (.int k a) = .returned (.int k b) := by rw [h]

theorem ret_pair {k k' : IntKind} {a b c d : Int} (h : a = b) (h' : c = d) : Ending.returned (.tuple #[.int k a, .int k' c]) = .returned (.tuple #[.int k b, .int k' d]) := by rw [h, h']

set_option maxHeartbeats 400000 in
theorem width_any (r : Int) (w : World) :
    Calls Try.prog 79 #[.int .i32 r] w fun e w' => e = .returned (.int .i64 (U8.width r)) ∧ w = w' := by
  go_enter Try.func79, Try.ntmps79
  go_wp2_with (go_at_call 100; refine (Try.utf8_RuneLen _ _).mono ?_; rintro e w' ⟨rfl, rfl⟩)
  go_ret
  exact ⟨ret_int (U8.width_max r), rfl⟩

set_option maxHeartbeats 400000 in
theorem refWidth_any (r : Int) (w : World) :
    Calls Try.prog 87 #[.int .i32 r] w fun e w' => e = .returned (.int .i64 (U8.width r)) ∧ w = w' := by
  go_enter Try.func87, Try.ntmps87
  go_wp2
  all_goals
    go_ret
    exact ⟨ret_int (by unfold U8.width; repeat' split
                       all_goals omega), rfl⟩

theorem ret_lit {w : World} {e : TypeId} {cs : Array Value} {n : Nat} {xs : List Value} (h : cs.toList = xs) (hn : cs.size = n) (hm : n ≤ maxLen) :
    (w.alloc (.cells cs e)).ownsRow w.heap.size e 1 (.slice (some ⟨w.heap.size, 0, none⟩) n n) n xs ∧ Below w.heap.size w (w.alloc (.cells cs e)) := by
  subst h
  exact ⟨World.ownsRow_lit w cs n (Nat.le_refl _) hm (by omega), (Below.refl _ _).alloc (Nat.le_refl _) _⟩

/-- The bytes of a rune as a value that owns them. -/
def OwnBytes (w : World) (xs : List Int) (e : Ending) (w' : World) : Prop :=
  ∃ v, e = .returned v ∧ w'.ownsRow w.heap.size 5 1 v xs.length (xs.map (Value.int .u8)) ∧ Below w.heap.size w w'

set_option maxHeartbeats 400000 in
theorem refRune_none (r : Int) (w : World) (h : U8.width r = 0) :
    Calls Try.prog 68 #[.int .i32 r] w fun e w' => e = .returned (.slice none 0 0) ∧ w = w' := by
  have b1 : (U8.width r == 1) = false := by simp [h]
  have b2 : (U8.width r == 2) = false := by simp [h]
  have b3 : (U8.width r == 3) = false := by simp [h]
  have b4 : (U8.width r == 4) = false := by simp [h]
  clear h
  go_enter Try.func68, Try.ntmps68
  go_wp2_with (go_at_call 87; refine (refWidth_any _ _).mono ?_; rintro e w' ⟨rfl, rfl⟩)
  go_ret
  exact ⟨rfl, rfl⟩

/-- The block of a rune's bytes. -/
def runeBlock (r : Int) : Obj := .cells ((U8.enc r).map (Value.int .u8)).toArray 5

set_option maxHeartbeats 400000 in
theorem refRune_some (r : Int) (w : World) (h : 0 < U8.width r) :
    Calls Try.prog 68 #[.int .i32 r] w fun e w' => e = .returned (.slice (some ⟨w.heap.size, 0, none⟩) (U8.enc r).length (U8.enc r).length) ∧ w.alloc (runeBlock r) = w' := by
  rcases U8.width_cases r with h' | h' | h' | h' | h'
  · omega
  · have b1 : (U8.width r == 1) = true := by simp [h']
    have hr : 0 ≤ r ∧ r < 128 := U8.range_one h'
    obtain ⟨hr0, hr1⟩ := hr
    have H := Lib.hid h'
    clear h' h
    go_enter Try.func68, Try.ntmps68
    go_wp2_with (go_at_call 87; refine (refWidth_any _ _).mono ?_; rintro e w' ⟨rfl, rfl⟩)
    go_ret
    rw [runeBlock, U8.enc_one H.out]
    exact ⟨rfl, congrArg (fun c => w.alloc (.cells c 5)) (by simp)⟩
  · have b1 : (U8.width r == 1) = false := by simp [h']
    have b2 : (U8.width r == 2) = true := by simp [h']
    obtain ⟨hr0, hr1⟩ := U8.range_two h'
    have H := Lib.hid h'
    clear h' h
    go_enter Try.func68, Try.ntmps68
    go_wp2_with (go_at_call 87; refine (refWidth_any _ _).mono ?_; rintro e w' ⟨rfl, rfl⟩)
    go_ret
    rw [runeBlock, U8.enc_two H.out]
    exact ⟨rfl, congrArg (fun c => w.alloc (.cells c 5)) (by simp)⟩
  · have b1 : (U8.width r == 1) = false := by simp [h']
    have b2 : (U8.width r == 2) = false := by simp [h']
    have b3 : (U8.width r == 3) = true := by simp [h']
    obtain ⟨hr0, hr1⟩ := U8.range_three h'
    have H := Lib.hid h'
    clear h' h
    go_enter Try.func68, Try.ntmps68
    go_wp2_with (go_at_call 87; refine (refWidth_any _ _).mono ?_; rintro e w' ⟨rfl, rfl⟩)
    go_ret
    rw [runeBlock, U8.enc_three H.out]
    exact ⟨rfl, congrArg (fun c => w.alloc (.cells c 5)) (by simp)⟩
  · have b1 : (U8.width r == 1) = false := by simp [h']
    have b2 : (U8.width r == 2) = false := by simp [h']
    have b3 : (U8.width r == 3) = false := by simp [h']
    have b4 : (U8.width r == 4) = true := by simp [h']
    obtain ⟨hr0, hr1⟩ := U8.range_four h'
    have H := Lib.hid h'
    clear h' h
    go_enter Try.func68, Try.ntmps68
    go_wp2_with (go_at_call 87; refine (refWidth_any _ _).mono ?_; rintro e w' ⟨rfl, rfl⟩)
    go_ret
    rw [runeBlock, U8.enc_four H.out]
    exact ⟨rfl, congrArg (fun c => w.alloc (.cells c 5)) (by simp)⟩

theorem Try.infoU8 : (Try.prog.info? 5).map (fun i => (i.zero, i.size, i.bytes)) = some (some (.int .u8 0), 1, 1) := by kernel_rfl

def Runes (l : List Int) : Prop := ∀ z ∈ l, -2147483648 ≤ z ∧ z ≤ 2147483647

theorem Runes.at {l : List Int} (h : Runes l) {k : Nat} (hk : k < l.length) : -2147483648 ≤ l.getD k 0 ∧ l.getD k 0 ≤ 2147483647 := by
  have : l.getD k 0 ∈ l := by simp [hk]
  exact h _ this

theorem bytes_step_none {z : Int} (h : ¬ 0 < U8.width z) : U8.enc z = [] := U8.enc_zero (by have := U8.width_bd z; omega)
theorem runeCells_enc {z : Int} (h : 0 < U8.width z) : Lib.runeCells z = (U8.enc z).map (Value.int .u8) := by
  rw [U8.enc, if_neg (by omega)]; rfl

theorem bytes_step {w wr w' : World} {v v' : Value} {zs : List Int} {k : Nat} {z : Int} {o : Obj} (hw : 0 < U8.width z) (hz : z = zs.getD k 0) (hts : zs.take (k + 1) = zs.take k ++ [zs.getD k 0])
    (hown' : w'.ownsRow w.heap.size 5 1 v' ((U8.encs (zs.take k)).length + (Lib.runeCells z).length) ((U8.encs (zs.take k)).map (Value.int .u8) ++ Lib.runeCells z))
    (hown : wr.ownsRow w.heap.size 5 1 v (U8.encs (zs.take k)).length ((U8.encs (zs.take k)).map (Value.int .u8)))
    (hg : (wr.alloc o).grownBy w' v.ownBlock) (hbl : Below w.heap.size w wr) :
    w'.ownsRow w.heap.size 5 1 v' (U8.encs (zs.take (k + 1))).length ((U8.encs (zs.take (k + 1))).map (Value.int .u8)) ∧ Below w.heap.size w w' := by
  rw [hts, ← hz, U8.encs_snoc, List.map_append, List.length_append]
  rw [runeCells_enc hw] at hown'
  refine ⟨by simpa using hown', below_grown_alloc hbl hbl.size hg (fun g hg => (hown.lt g hg).1)⟩

theorem bytes_step_same {w wr : World} {v : Value} {zs : List Int} {k : Nat} {z : Int} (he : U8.enc z = []) (hz : z = zs.getD k 0) (hts : zs.take (k + 1) = zs.take k ++ [zs.getD k 0])
    (hown : wr.ownsRow w.heap.size 5 1 v (U8.encs (zs.take k)).length ((U8.encs (zs.take k)).map (Value.int .u8))) :
    wr.ownsRow w.heap.size 5 1 v (U8.encs (zs.take (k + 1))).length ((U8.encs (zs.take (k + 1))).map (Value.int .u8)) := by
  rw [hts, ← hz, U8.encs_snoc, he, List.append_nil]
  exact hown

set_option maxHeartbeats 1000000 in
theorem bytes_any (a : Option Addr) (n cap : Nat) (zs : List Int) (w : World) (hn : zs.length = n) (hbig : n ≤ 1099511627776) (hat : AtCells w a (zs.map (.int .i32))) (hz : Runes zs) :
    Calls Try.prog 60 #[.slice a n cap] w (OwnBytes w (U8.encs zs)) := by
  obtain ⟨i0, hi, hz0, hz1, hz2⟩ := info_parts Try.infoU8
  have HN := Lib.hid hn
  have HAT := Lib.hid hat
  have HZ := Lib.hid hz
  have HI := Lib.hid (And.intro hi (And.intro hz0 (And.intro hz1 hz2)))
  clear hn hat hz hi hz0 hz1 hz2
  go_enter Try.func60, Try.ntmps60
  have hm1 : i0.bytes * n ≤ 281474976710656 := by rw [HI.out.2.2.2]; omega
  have hm2 : n ≤ maxLen := by unfold maxLen; omega
  have HM := Lib.hid (And.intro hm1 hm2)
  clear hm1 hm2
  go_wp2_with (at_make; refine wpList_make_own _ rfl _ _ 22 rfl w.heap.size 5 i0 (.int .u8 0) 1 Try.underlying22 HI.out.1 HI.out.2.1 HI.out.2.2.1 .i64 .i64 n n rfl rfl rfl HM.out.1 HM.out.2 (Nat.le_refl _) ?_; intro w1 hown1 hgrow1)
  have hb1 : Below w.heap.size w w1 := (Below.refl _ _).grown hgrow1 (Nat.le_refl _) (fun k hk => by cases hk)
  clear hgrow1
  go_loopw [3, 11] (fun v i wr => ∃ k : Nat, k ≤ n ∧ i = .int .i64 k ∧ wr.ownsRow w.heap.size 5 1 v (U8.encs (zs.take k)).length ((U8.encs (zs.take k)).map (Value.int .u8)) ∧ Below w.heap.size w wr)
    (fun _ i _ => n - (intOf i).toNat)
  case atStart => exact ⟨0, Nat.zero_le _, rfl, hown1, hb1⟩
  case round =>
    obtain ⟨k, hk, rfl, hown, hbl⟩ := hrel
    by_cases hlt : k < n
    · obtain ⟨b, off, rfl, hc⟩ := (HAT.out.below hbl).int (k := k) (by rw [HN.out]; exact hlt)
      obtain ⟨z, hz⟩ : ∃ z, z = zs.getD k 0 := ⟨_, rfl⟩
      rw [← hz] at hc
      have hzr := HZ.out.at (k := k) (by rw [HN.out]; exact hlt)
      rw [← hz] at hzr
      obtain ⟨hz0, hz1⟩ := hzr
      have HZZ := Lib.hid hz
      have HTS := Lib.hid (U8.take_succ zs k (by rw [HN.out]; exact hlt))
      have hsz := hbl.size
      have hln : (U8.encs (zs.take k)).length + 4 ≤ 140737488355328 := by
        have h1 := U8.encs_length_le (zs.take k); have h2 := HN.out; simp only [List.length_take] at h1; omega
      have HLN := Lib.hid hln
      clear hz hln
      by_cases hw : 0 < U8.width z
      · go_wp2_with (first
          | (go_at_call 79; refine (width_any _ _).mono ?_; rintro e w' ⟨rfl, rfl⟩)
          | (go_at_call 80; refine (Try.utf8_AppendRune_plain w.heap.size _ _ _ _ hz0 hz1 _ hown HLN.out hsz).mono ?_; rintro e w' ⟨v', rfl, hown', o, hg'⟩))
        have HO := Lib.hid (bytes_step hw HZZ.out HTS.out hown' hown hg' hbl)
        clear hown' hg' hown hc
        go_roundw
        case rel => exact ⟨k + 1, by omega, by go_num, HO.out.1, HO.out.2⟩
        case measure => simp [intOf]; omega
      · have hw' : U8.width z ≤ 0 := by omega
        have HE := Lib.hid (bytes_step_none hw)
        clear hw
        go_wp2_with (go_at_call 79; refine (width_any _ _).mono ?_; rintro e w' ⟨rfl, rfl⟩)
        have HO := Lib.hid (bytes_step_same HE.out HZZ.out HTS.out hown)
        clear hown hc
        go_roundw
        case rel => exact ⟨k + 1, by omega, by go_num, HO.out, hbl⟩
        case measure => simp [intOf]; omega
    · obtain rfl : k = n := by omega
      have HT := Lib.hid (show zs.take k = zs from List.take_of_length_le (by have := HN.out; omega))
      clear hk hlt
      go_wp2
      go_ret
      rw [HT.out] at hown
      exact ⟨_, rfl, hown, hbl⟩

end Go.Proofs.Ytbljgoieieoamaa
