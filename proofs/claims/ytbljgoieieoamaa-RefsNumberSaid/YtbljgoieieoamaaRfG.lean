/-
  Layer 14's law: few, runes, same, the chapter's example; refs' calls at any row.
-/
import Derived.Test.YtbljgoieieoamaaRfF
import Derived.Laws.Cover4
import Derived.Lib.RuneCount
import Derived.Lib.OthersKept
namespace Go.Proofs.Ytbljgoieieoamaa
open Go.RowKit
set_option linter.unusedVariables false

/-- A row of runes, which may be nil. -/
structure NRw (w : World) (a : Option Addr) (n cap : Nat) (l : List Int) : Prop where
  len : l.length = n
  le : n ≤ cap
  max : cap ≤ maxLen
  cells : AtCells w a (l.map (.int .i32))
  wf : Runes l
theorem NRw.below {w w' : World} {a : Option Addr} {n cap : Nat} {l : List Int} (h : NRw w a n cap l) (hb : Below w.heap.size w w') : NRw w' a n cap l := ⟨h.len, h.le, h.max, h.cells.below hb, h.wf⟩
theorem NRw.some_ {w : World} {a : Option Addr} {n cap : Nat} {l : List Int} (h : NRw w a n cap l) (h0 : 0 < n) : ∃ b off, a = some ⟨b, off, none⟩ ∧ RRow w b off n cap l := by
  obtain ⟨b, off, rfl, _⟩ := h.cells.int (k := 0) (by rw [h.len]; exact h0)
  exact ⟨b, off, rfl, h.len, h.le, h.max, h.cells⟩
theorem NRw.nil_ {w : World} {a : Option Addr} {n cap : Nat} {l : List Int} (h : NRw w a n cap l) (h0 : ¬ 0 < n) : n = 0 ∧ l = [] := by
  have : n = 0 := by omega
  exact ⟨this, List.eq_nil_of_length_eq_zero (by rw [h.len]; exact this)⟩

theorem pieces_any {w : World} {a : Option Addr} {n cap : Nat} {l : List Int} (R : NRw w a n cap l) (hn : n ≤ 1000) : Calls Try.prog 21 #[.slice a n cap] w (OwnPcs w (pcs l)) := by
  by_cases h0 : 0 < n
  · obtain ⟨b, off, rfl, R'⟩ := R.some_ h0
    exact pieces_some R' hn R.wf
  · obtain ⟨rfl, rfl⟩ := R.nil_ h0
    exact pieces_nil _ _ _
theorem number_gen {w : World} {a : Option Addr} {n cap : Nat} {l : List Int} (R : NRw w a n cap l) (hn : n ≤ 1000) : Says 24 #[.slice a n cap] (numR (numV l)) w w := by
  by_cases h0 : 0 < n
  · obtain ⟨b, off, rfl, R'⟩ := R.some_ h0
    exact number_any R' hn h0
  · obtain ⟨rfl, rfl⟩ := R.nil_ h0
    exact number_nil _ _ _

set_option maxHeartbeats 1000000 in
theorem put_nil (a : Option Addr) (cap : Nat) (q : Int) (w : World) : Calls Try.prog 28 #[.slice a 0 cap, .int .i32 q] w (OwnRunes w (putP [] q)) := by
  obtain ⟨i0, hi, hz0, hz1, hz2⟩ := info_parts Try.infoI32
  have HI := Lib.hid (And.intro hi (And.intro hz0 (And.intro hz1 hz2)))
  have HM0 := Lib.hid (And.intro (show i0.bytes * 0 ≤ 281474976710656 by rw [hz2]; omega) (show 0 ≤ maxLen by unfold maxLen; omega))
  clear hi hz0 hz1 hz2
  go_enter Try.func28, Try.ntmps28
  go_wp2_with (at_make; refine wpList_make_own _ rfl _ _ 43 rfl w.heap.size 21 i0 (.int .i32 0) 1 Try.underlying43 HI.out.1 HI.out.2.1 HI.out.2.2.1 .i64 .i64 0 0 rfl rfl rfl HM0.out.1 HM0.out.2 (Nat.le_refl _) ?_; intro w1 hown1 hgrow1)
  have HO1 := Lib.hid (And.intro hown1 (show Below w.heap.size w w1 from (Below.refl _ _).grown hgrow1 (Nat.le_refl _) (fun k hk => by cases hk)))
  clear hown1 hgrow1
  go_loopw [5, 16] (fun v iv wr => v = .slice (some ⟨w.heap.size, 0, none⟩) 0 0 ∧ iv = .int .i64 0 ∧ wr = w1) (fun _ _ _ => 0)
  case atStart => exact ⟨rfl, rfl, rfl⟩
  case round =>
    obtain ⟨rfl, rfl, rfl⟩ := hrel
    go_wp2
    go_ret
    exact ⟨_, rfl, HO1.out.1, HO1.out.2⟩
theorem put_any {w : World} {a : Option Addr} {n cap : Nat} {l : List Int} (R : NRw w a n cap l) (hn : n ≤ 1000) (q : Int) : Calls Try.prog 28 #[.slice a n cap, .int .i32 q] w (OwnRunes w (putP l q)) := by
  by_cases h0 : 0 < n
  · obtain ⟨b, off, rfl, R'⟩ := R.some_ h0
    exact put_some R' hn q
  · obtain ⟨rfl, rfl⟩ := R.nil_ h0
    exact put_nil _ _ _ _

/-- A row of runes that a call answered. -/
theorem nrw_own {w : World} {base n : Nat} {v : Value} {l : List Int} (h : w.ownsRow base 21 1 v n (l.map (Value.int .i32))) (hwf : Runes l) : ∃ a c, v = .slice a n c ∧ NRw w a n c l := by
  have hlen : l.length = n := by have := h.1; simpa using this
  obtain ⟨a, c, rfl, hc⟩ := owns_slice h
  exact ⟨a, c, rfl, hlen, hc, owns_cap h, AtCells.of_owns h, hwf⟩

theorem run_runes {P : Program} (w : World) (src e dst : TypeId) (hs : P.underlying src = some (.slice e)) (he : P.underlying e = some (.int .i32)) (hd : P.underlying dst = some .string)
    (a : Option Addr) (n cap : Nat) (zs : List Int) (hn : zs.length = n) (hat : AtCells w a (zs.map (Value.int .i32))) (h0 : 0 < n) :
    Sem.run P (convert src dst (.slice a n cap)) w = .ok (.string (runesBytes zs)) w := by
  obtain ⟨b, off, rfl, _⟩ := hat.int (k := 0) (by omega)
  have := run_convert_runes w src dst e ⟨b, off, none⟩ n cap zs (by omega) hs he hd (fun j hj => by
    obtain ⟨b', off', hb, hc⟩ := hat.int (k := j) hj
    simp only [Option.some.injEq, Addr.mk.injEq] at hb
    obtain ⟨rfl, rfl, _⟩ := hb
    by_cases hz : j = 0
    · subst hz; simpa [Addr.add] using hc
    · simpa [Addr.add, hz] using hc)
  rw [this, List.take_of_length_le (by omega)]

set_option maxHeartbeats 400000 in
theorem few14_any (a : Option Addr) (n cap : Nat) (w : World) (hc : n ≤ cap) (hm : cap ≤ maxLen) :
    Calls Try.prog 20 #[.slice a n cap] w fun e w' => e = .returned (.slice a (min n 100) cap) ∧ w = w' := by
  unfold maxLen at hm
  by_cases h : 100 < n
  · have HM := Lib.hid (show min n 100 = 100 by omega)
    go_enter Try.func20, Try.ntmps20
    go_wp2
    go_ret
    rw [HM.out]
    exact ⟨rfl, rfl⟩
  · have HM := Lib.hid (show min n 100 = n by omega)
    go_enter Try.func20, Try.ntmps20
    go_wp2
    go_ret
    rw [HM.out]
    exact ⟨rfl, rfl⟩

theorem Try.infoRuneD : (Try.prog.info? 21).map (fun i => (i.zero, i.size, i.bytes)) = some (some (.int .i32 0), 1, 4) := by kernel_rfl
theorem iterPosG {w : World} {k p : Nat} {s : ByteArray} (h : w.heap[k]? = some (.stringIter s p)) : w.iterPos k = p := by simp [World.iterPos, h]
theorem runes_snoc {L : List Int} {p : Nat} (hp : p < L.length) (h0 : 0 ≤ L.getD p 0) : (L.take p).map (Value.int .i32) ++ [Value.int .i32 ((L.getD p 0).toNat : Nat)] = (L.take (p + 1)).map (Value.int .i32) := by
  have h : ((L.getD p 0).toNat : Int) = L.getD p 0 := by omega
  rw [h, List.take_succ_eq_append_getElem hp, List.map_append, List.getD_eq_getElem?_getD, List.getElem?_eq_getElem hp]
  rfl

set_option maxRecDepth 20000 in
set_option maxHeartbeats 2000000 in
theorem runes14_any (s : ByteArray) (N : Nat) (L : List Int) (hsz : s.size = N) (hN : N ≤ 200) (hL : L.length = N) (hnn : ∀ p, p < N → 0 ≤ L.getD p 0) (hdc : ∀ p, p < N → Utf8.decode s p = ((L.getD p 0).toNat, 1)) (w : World) :
    Calls Try.prog 42 #[.string s] w fun e w' => ∃ v, e = .returned v ∧ w'.ownsRow w.heap.size 21 1 v N (L.map (Value.int .i32)) ∧ Below w.heap.size w w' := by
  obtain ⟨i0, hi, hz0, hz1, hz2⟩ := info_parts Try.infoRuneD
  have HI := Lib.hid (And.intro hi (And.intro hz0 (And.intro hz1 hz2)))
  have HD := Lib.hid hdc
  have HNN := Lib.hid hnn
  have HL := Lib.hid hL
  have HSZ := Lib.hid hsz
  have hsz1 : s.size ≤ N := by omega
  have hsz2 : N ≤ s.size := by omega
  clear hi hz0 hz1 hz2 hdc hnn hL hsz
  go_enter Try.func42, Try.ntmps42
  go_wp2
  go_loopw [3] (fun v wr => ∃ (pos : Nat) (v' : Value), v' = v ∧ pos ≤ N ∧ wr.ownsRow w.heap.size 21 1 v' (L.take pos).length ((L.take pos).map (Value.int .i32)) ∧ wr.heap[w.heap.size]? = some (.stringIter s pos) ∧ Below w.heap.size w wr) (fun _ wr => N - wr.iterPos w.heap.size)
  case atStart => exact ⟨0, _, rfl, by omega, World.ownsRow_nil _ _ _ _, World.iter_heap w s 0, (Below.refl _ _).alloc (Nat.le_refl _) _⟩
  case round =>
    obtain ⟨pos, v0, rfl, hpos, hown, hit, hbl⟩ := hrel
    have hgz : w.heap.size < wr.heap.size := (Array.getElem?_eq_some_iff.1 hit).1
    by_cases hp : pos < N
    · have hp' : pos < s.size := by omega
      have hnx : ∀ ty, (Instr.next (.pointer (some ⟨w.heap.size, 0, none⟩)) true ty).run Try.prog wr = _ := fun ty => Lib.run_next_any_at wr w.heap.size s pos ty hit hp'
      have hdec := HD.out pos hp
      simp only [hdec] at hnx
      obtain ⟨z, hz⟩ : ∃ z, z = (L.getD pos 0).toNat := ⟨_, rfl⟩
      rw [← hz] at hnx
      have HZ := Lib.hid (show (L.take pos).map (Value.int .i32) ++ [Value.int .i32 (z : Nat)] = (L.take (pos + 1)).map (Value.int .i32) by rw [hz]; exact runes_snoc (by rw [HL.out]; exact hp) (HNN.out pos hp))
      have hlen : (L.take pos).length = pos := by rw [List.length_take, HL.out]; omega
      have hlen2 : (L.take (pos + 1)).length = pos + 1 := by rw [List.length_take, HL.out]; omega
      rw [hlen] at hown
      have HI2 := Lib.hid (Lib.iterAt_heap wr w.heap.size s pos (pos + 1) hit)
      have HOWN := Lib.hid (owns_iterAt hown hit (pos + 1))
      have HBL := Lib.hid (Lib.below_iterAt hbl (k := w.heap.size) (Nat.le_refl _) s (pos + 1))
      have HS := Lib.hid (Lib.iterAt_size wr w.heap.size s (pos + 1))
      have HPOS := Lib.hid (iterPosG hit)
      have HL2 := Lib.hid hlen2
      obtain ⟨wi, hwi⟩ : ∃ wi, wi = wr.iterAt w.heap.size s (pos + 1) := ⟨_, rfl⟩
      rw [← hwi] at hnx HI2 HOWN HBL HS
      have hbase : w.heap.size ≤ wi.heap.size := HBL.out.size
      have HM := Lib.hid (And.intro (show pos + 1 ≤ maxLen by unfold maxLen; omega) (And.intro (show (pos + 1) * 4 ≤ 140737488355328 by omega) (show ∀ o, w.heap.size ≤ (wi.alloc o).heap.size from fun o => by simp; omega)))
      clear hown hwi hit hbl hlen hlen2 hdec hz
      go_wp2_with (first
        | (at_builtin; refine wpList_append_own _ rfl _ _ 43 rfl w.heap.size 21 i0 _ 1 4 Try.underlying43 HI.out.1 HI.out.2.1 HI.out.2.2.1 HI.out.2.2.2 rfl (by decide) _ _ _ rfl (HOWN.out.alloc _) _ _ _ [.int .i32 (z : Nat)] rfl rfl (new_cells _ _ _) (by simp [Value.oneCell']) HM.out.1 HM.out.2.1 (HM.out.2.2 _) ?_; intro v' w2 hown' hg' _))
      have hit2 := iter_grown HOWN.out HI2.out hg'
      have hb2 := below_grown_alloc HBL.out hbase hg' (fun g hg => (HOWN.out.lt g hg).1)
      clear hg'
      go_roundw
      case rel => exact ⟨pos + 1, _, rfl, by omega, by rw [HL2.out, ← HZ.out]; exact hown', hit2, hb2⟩
      case measure => rw [HPOS.out, iterPosG hit2]; omega
    · obtain rfl : pos = N := by omega
      have hnx : ∀ ty, (Instr.next (.pointer (some ⟨w.heap.size, 0, none⟩)) true ty).run Try.prog wr = _ := fun ty => Lib.run_next_end_at wr w.heap.size s pos ty hit (by omega)
      have hown10 : wr.ownsRow w.heap.size 21 1 v0 pos (L.map (Value.int .i32)) := by
        have h := hown
        rw [List.take_of_length_le (by rw [HL.out]; exact Nat.le_refl _), HL.out] at h
        exact h
      have HW := Lib.hid hown10
      have HBW := Lib.hid hbl
      clear hown hown10 hit hbl
      go_wp2
      go_ret
      exact ⟨_, rfl, HW.out, HBW.out⟩


set_option maxRecDepth 20000 in
set_option maxHeartbeats 2000000 in
theorem same14_true {w : World} {a a' : Option Addr} {n c c' : Nat} {l : List Int} (R : NRw w a n c l) (R' : NRw w a' n c' l) (hn : n ≤ 100000) :
    Says 30 #[.slice a n c, .slice a' n c'] (.bool true) w w := by
  have HR := Lib.hid (And.intro R R')
  clear R R'
  go_enter Try.func30, Try.ntmps30
  go_wp2
  go_loopw [5, 13] (fun _i iv wr => ∃ k : Nat, iv = .int .i64 k ∧ k ≤ n ∧ Hid (Below w.heap.size w wr)) (fun _ iv _ => n - (intOf iv).toNat)
  case atStart => exact ⟨0, rfl, Nat.zero_le _, Lib.hid (Below.refl _ _)⟩
  case round =>
    obtain ⟨k, rfl, hk, HB⟩ := hrel
    by_cases hlt : k < n
    · obtain ⟨b1, o1, rfl, c1⟩ := (HR.out.1.cells.below HB.out).int (k := k) (by rw [HR.out.1.len]; exact hlt)
      obtain ⟨b2, o2, rfl, c2⟩ := (HR.out.2.cells.below HB.out).int (k := k) (by rw [HR.out.2.len]; exact hlt)
      obtain ⟨z, hz⟩ : ∃ z, z = l.getD k 0 := ⟨_, rfl⟩
      rw [← hz] at c1 c2
      have hkz : (k : Int) < (n : Int) := by omega
      have hkw : IntKind.i64.wrap ((k : Int) + 1) = (k : Int) + 1 := by rw [IntKind.wrap_i64]; omega
      clear hz
      go_wp2
      go_region_held_law (fun W => W.cell? ⟨b1, o1 + k, none⟩ = some (.int .i32 z) ∧ W.cell? ⟨b2, o2 + k, none⟩ = some (.int .i32 z))
        ((refine ⟨?_, ?_⟩ <;> (repeat (first | (with_reducible assumption) | (with_reducible refine kp_drew ?_)))))
        (fail)
      go_wp2
      go_roundw
      case rel => exact ⟨k + 1, by go_num, by omega, Lib.hid HB.out.drew⟩
      case measure => simp [intOf]; omega
    · obtain rfl : k = n := by omega
      have hkf : ¬ (k : Int) < (k : Int) := by omega
      clear hlt
      go_wp2
      go_ret
      exact ⟨rfl, HB.out⟩

abbrev aw1 : ByteArray := ⟨#[97, 38, 108, 116, 59, 38, 35, 54, 53, 59, 38, 120]⟩
def aw1L : List Int := [97, 38, 108, 116, 59, 38, 35, 54, 53, 59, 38, 120]
abbrev aw2 : ByteArray := ⟨#[97, 60, 98]⟩
def aw2L : List Int := [97, 60, 98]
theorem aw1_dec : ∀ p, p < 12 → Utf8.decode aw1 p = ((aw1L.getD p 0).toNat, 1) := by decide +kernel
theorem aw2_dec : ∀ p, p < 3 → Utf8.decode aw2 p = ((aw2L.getD p 0).toNat, 1) := by decide +kernel
theorem aw1_pcs : pcs aw1L = [(1, 0, 1, 0, []), (3, 1, 5, 0, [108, 116]), (2, 5, 10, 65, []), (4, 10, 11, 0, []), (1, 11, 12, 0, [])] := by decide +kernel
theorem aw2_put : putP aw2L 0 = [97, 38, 108, 116, 59, 98] := by decide +kernel
theorem aw_lt : strOfNums [108, 116] = ⟨#[108, 116]⟩ := by decide +kernel
theorem aw2_str : runesBytes [97, 38, 108, 116, 59, 98] = ⟨#[97, 38, 108, 116, 59, 98]⟩ := by decide +kernel
theorem aw1_wf : Runes aw1L := by unfold Runes; decide +kernel
theorem aw2_wf : Runes aw2L := by unfold Runes; decide +kernel

theorem pc_cells {w : World} {a : Option Addr} {l : List Pc} (hat : AtCells w a (pcsCells l)) {k : Nat} {x : Pc} (h : l[k]? = some x) :
    ∃ b off, a = some ⟨b, off, none⟩ ∧ w.cell? ⟨b, off + k * 5, none⟩ = some (.int .i64 x.1) ∧ w.cell? ⟨b, off + k * 5 + 1, none⟩ = some (.int .i64 x.2.1) ∧ w.cell? ⟨b, off + k * 5 + 2, none⟩ = some (.int .i64 x.2.2.1) ∧ w.cell? ⟨b, off + k * 5 + 3, none⟩ = some (.int .i32 x.2.2.2.1) ∧ w.cell? ⟨b, off + k * 5 + 4, none⟩ = some (.string (strOfNums x.2.2.2.2)) := by
  have key : ∀ (l : List Pc) (k : Nat) (x : Pc), l[k]? = some x → ∀ i, i < 5 → (pcsCells l)[k * 5 + i]? = (pcCells x)[i]? := by
    intro l
    induction l with
    | nil => intro k x h; simp at h
    | cons y r ih =>
      intro k x h i hi
      cases k with
      | zero =>
        simp at h; subst h
        simp only [pcsCells, List.flatMap_cons, Nat.zero_mul, Nat.zero_add]
        rw [List.getElem?_append_left (by simp [pcCells]; exact hi)]
      | succ k =>
        have := ih k x (by simpa using h) i hi
        simp only [pcsCells, List.flatMap_cons] at this ⊢
        rw [List.getElem?_append_right (by simp [pcCells]; omega)]
        rw [show (k + 1) * 5 + i - (pcCells y).length = k * 5 + i by simp [pcCells]; omega]
        exact this
  obtain ⟨b, off, rfl, c0⟩ := hat (k * 5 + 0) _ ((key l k x h 0 (by omega)).trans rfl)
  refine ⟨b, off, rfl, c0, ?_, ?_, ?_, ?_⟩
  · obtain ⟨_, _, he, c⟩ := hat (k * 5 + 1) _ ((key l k x h 1 (by omega)).trans rfl); cases he; exact c
  · obtain ⟨_, _, he, c⟩ := hat (k * 5 + 2) _ ((key l k x h 2 (by omega)).trans rfl); cases he; exact c
  · obtain ⟨_, _, he, c⟩ := hat (k * 5 + 3) _ ((key l k x h 3 (by omega)).trans rfl); cases he; exact c
  · obtain ⟨_, _, he, c⟩ := hat (k * 5 + 4) _ ((key l k x h 4 (by omega)).trans rfl); cases he; exact c

end Go.Proofs.Ytbljgoieieoamaa
