/-
  Contracts of layer 9: is a part some signs? What a reader takes of a subset.
-/
import Derived.Test.YtpjcheelafegbaaDxR
import Derived.Test.YtpjcheelafegbaaGen1
namespace Go.Proofs.Ytpjcheelafegbaa
open Go.RowKit
set_option linter.unusedVariables false

/-- A reader: what is left of its parts. -/
structure RE (w : World) (rp : Nat) (Q : List PartA) : Prop where
  ex : ∃ A c, w.cell? ⟨rp, 1, none⟩ = some (.slice A Q.length c) ∧ Q.length ≤ c ∧ c ≤ maxLen ∧ AtB w rp A (parsCells Q)
  frozen : w.frozen? ⟨rp, 1, none⟩ = false

/-- What take says. -/
def TookD (K : List Nat) (Q : List PartA) (rp : Nat) (w : World) (e : Ending) (w' : World) : Prop :=
  ∃ A c, e = .returned (.tuple #[.slice A (takeP K Q).1.length c, .bool (takeP K Q).2.1]) ∧ (takeP K Q).1.length ≤ c ∧ c ≤ maxLen ∧ AtB w' rp A (parsCells (takeP K Q).1) ∧ RE w' rp (takeP K Q).2.2 ∧ Kept rp w w' ∧ ∀ i, i ≠ 1 → w'.cell? ⟨rp, i, none⟩ = w.cell? ⟨rp, i, none⟩ ∧ w'.frozen? ⟨rp, i, none⟩ = w.frozen? ⟨rp, i, none⟩

set_option maxRecDepth 20000 in
set_option maxHeartbeats 2000000 in
theorem takeD_any {w : World} {rp : Nat} {Q : List PartA} (R : RE w rp Q) (g m : Nat) (K : List Nat) (hK : K.length = m) (h0 : 0 < m) (hm : m ≤ 1000) (hg : AtCells w (some ⟨g, 0, none⟩) (K.map fun x => .int .i64 (x : Nat))) :
    Calls Try.prog 44 #[.pointer (some ⟨rp, 0, none⟩), .slice (some ⟨g, 0, none⟩) m m] w (TookD K Q rp w) := by
  obtain ⟨⟨A, c, r0, hqc, hcm, hat⟩, hfz⟩ := R
  unfold maxLen at hcm
  obtain ⟨N, hN⟩ : ∃ N, N = Q.length := ⟨_, rfl⟩
  rw [← hN] at r0 hqc
  have HN := Lib.hid hN
  have HK := Lib.hid hK
  have HG := Lib.hid hg
  have HAT := Lib.hid hat
  by_cases hmN : m ≤ N
  case neg =>
    have HT := Lib.hid (show takeP K Q = ([], false, Q) by unfold takeP; rw [if_neg (fun h => by have := congrArg List.length h; simp at this; omega)])
    have HRD := Lib.hid (show RE w rp Q from ⟨⟨A, c, by rw [← hN]; exact r0, by omega, by unfold maxLen; omega, hat⟩, hfz⟩)
    have hlt : N < m := by omega
    clear hN hK hg hat
    go_enter Try.func44, Try.ntmps44
    go_wp2
    go_ret2
    unfold TookD
    rw [HT.out]
    exact ⟨none, 0, ret_nn rfl rfl, Nat.le_refl _, by unfold maxLen; omega, AtB.nil _ _ _, HRD.out, Kept.refl _ _, fun i _ => ⟨rfl, rfl⟩⟩
  obtain ⟨b, off, rfl, hbl, c0⟩ := hat 0 (.int .i64 ((Q[0]'(by omega)).1 : Nat)) (by cases Q with | nil => simp at hN; omega | cons x Q => rfl)
  have hmN' : ¬ N < m := by omega
  clear hN hK hg hat c0
  go_enter Try.func44, Try.ntmps44
  go_wp2
  go_loop [6, 7, 19] (fun _a _b i => ∃ j : Nat, j ≤ m ∧ i = .int .i64 j ∧ KindsUp Q K j) (fun _ _ i => m - (intOf i).toNat)
  case atStart => exact ⟨0, by omega, rfl, fun x hx => by omega⟩
  case round =>
    obtain ⟨j, hj, rfl, HJ⟩ := hrel
    by_cases hlt : j < m
    · obtain ⟨pb, po, hpa, k0, _, _⟩ := par_cells HAT.out.at_ (k := j) (x := Q[j]'(by rw [← HN.out]; omega)) (List.getElem?_eq_getElem _)
      simp only [Option.some.injEq, Addr.mk.injEq] at hpa
      obtain ⟨rfl, rfl, _⟩ := hpa
      obtain ⟨gb, go, hga, kk⟩ := HG.out j (.int .i64 (K[j]'(by rw [HK.out]; exact hlt) : Nat)) (by simp [HK.out, hlt])
      simp only [Option.some.injEq, Addr.mk.injEq] at hga
      obtain ⟨rfl, rfl, _⟩ := hga
      rw [Nat.zero_add] at kk
      obtain ⟨x, hx⟩ : ∃ x, x = (Q[j]'(by rw [← HN.out]; omega)).1 := ⟨_, rfl⟩
      obtain ⟨y, hy⟩ : ∃ y, y = K[j]'(by rw [HK.out]; exact hlt) := ⟨_, rfl⟩
      rw [← hx] at k0
      rw [← hy] at kk
      have hjN : j < N := by omega
      have HX := Lib.hid (show (Q.map (·.1)).getD j 0 = x by rw [hx, List.getD_eq_getElem?_getD, List.getElem?_map, List.getElem?_eq_getElem (by rw [← HN.out]; omega)]; rfl)
      have HY := Lib.hid (show K.getD j 0 = y by rw [hy, List.getD_eq_getElem?_getD, List.getElem?_eq_getElem (by rw [HK.out]; exact hlt)]; rfl)
      clear hx hy
      by_cases he : x = y
      · have HJ2 : KindsUp Q K (j + 1) := fun z hz => by
          by_cases h : z = j
          · subst h; rw [HX.out, HY.out]; exact he
          · exact HJ z (by omega)
        subst he
        go_wp2
        go_round
        case rel => exact ⟨j + 1, by omega, by go_num, HJ2⟩
        case measure => simp [intOf]; omega
      · have HT := Lib.hid (show takeP K Q = ([], false, Q) by unfold takeP; rw [if_neg (kinds_not j (by rw [HK.out]; exact hlt) (by rw [← HN.out]; exact hjN) (by rw [HX.out, HY.out]; exact he))])
        have HRD := Lib.hid (show RE w rp Q from ⟨⟨_, c, by rw [← HN.out]; exact r0, by rw [← HN.out]; omega, by unfold maxLen; omega, HAT.out⟩, hfz⟩)
        have hxy : ((x : Int) != (y : Int)) = true := by simp; omega
        go_wp2
        go_ret2
        unfold TookD
        rw [HT.out]
        exact ⟨none, 0, ret_nn rfl rfl, Nat.le_refl _, by unfold maxLen; omega, AtB.nil _ _ _, HRD.out, Kept.refl _ _, fun i _ => ⟨rfl, rfl⟩⟩
    · obtain rfl : j = m := by omega
      have HT := Lib.hid (show takeP K Q = (Q.take j, true, Q.drop j) by unfold takeP; rw [if_pos (kinds_all (by rw [HK.out, ← HN.out]; exact hmN) (by rw [HK.out]; exact HJ)), HK.out])
      clear hlt hj
      by_cases hcj : c = j
      · subst hcj
        have hNc : N = c := by omega
        go_wp2
        go_ret2
        have hb : Kept rp w (w.setCell ⟨rp, 1, none⟩ (.slice (some ⟨b, off, none⟩) 0 0)) := (Kept.refl rp w).put 1 _
        unfold TookD
        rw [HT.out]
        refine ⟨some ⟨b, off, none⟩, c, ret_nn (by simp only [List.length_take]; rw [← HN.out, hNc, Nat.min_self]; rfl) rfl, by simp only [List.length_take]; omega, by unfold maxLen; omega, (HAT.out.take _).kept hb, ⟨⟨some ⟨b, off, none⟩, 0, ?_, ?_, by unfold maxLen; omega, ?_⟩, ?_⟩, hb, fun i hi => ⟨World.cell?_setCell_other _ _ _ _ (fun e => hi (by cases e; rfl)), by simp [go_sem]⟩⟩
        · rw [List.length_drop, ← HN.out, hNc, Nat.sub_self]; exact World.cell?_setCell_same _ _ _ r0
        · rw [List.length_drop, ← HN.out]; omega
        · rw [List.drop_eq_nil_of_le (by rw [← HN.out]; omega)]; exact AtB.nil _ _ _
        · simp [go_sem, hfz]
      · go_wp2
        go_ret2
        have hb : Kept rp w (w.setCell ⟨rp, 1, none⟩ (.slice (some ⟨b, off + j * 3, none⟩) (N - j) (c - j))) := (Kept.refl rp w).put 1 _
        unfold TookD
        rw [HT.out]
        refine ⟨some ⟨b, off, none⟩, c, ret_nn (by simp only [List.length_take]; rw [← HN.out, Nat.min_eq_left hmN]; rfl) rfl, by simp only [List.length_take]; omega, by unfold maxLen; omega, (HAT.out.take _).kept hb, ⟨⟨some ⟨b, off + j * 3, none⟩, c - j, ?_, ?_, by unfold maxLen; omega, ?_⟩, ?_⟩, hb, fun i hi => ⟨World.cell?_setCell_other _ _ _ _ (fun e => hi (by cases e; rfl)), by simp [go_sem]⟩⟩
        · rw [List.length_drop, ← HN.out]; exact World.cell?_setCell_same _ _ _ r0
        · rw [List.length_drop, ← HN.out]; omega
        · exact (HAT.out.drop j (by rw [← HN.out]; exact hmN)).kept hb
        · simp [go_sem, hfz]

theorem RE.lt {w : World} {rp : Nat} {Q : List PartA} (h : RE w rp Q) : rp < w.heap.size := by
  obtain ⟨A, c, r0, _⟩ := h.ex
  exact cell_lt r0
theorem RE.next {w w' : World} {rp : Nat} {Q : List PartA} (h : RE w rp Q) (hb : Below w.heap.size w w') : RE w' rp Q := by
  obtain ⟨A, c, r0, h1, h2, h3⟩ := h.ex
  obtain ⟨c1, c2⟩ := bcell hb
  exact ⟨⟨A, c, by rw [c1 _ _ (cell_lt r0)]; exact r0, h1, h2, h3.kept (Kept.of_below hb)⟩, by rw [c2 _ _ (cell_lt r0)]; exact h.frozen⟩

/-- What take says of kinds that were just laid. -/
def TakesD (n : List PartA) (o : Bool) (Q' : List PartA) (rp : Nat) (w : World) (e : Ending) (w' : World) : Prop :=
  ∃ A c, e = .returned (.tuple #[.slice A n.length c, .bool o]) ∧ n.length ≤ c ∧ AtB w' rp A (parsCells n) ∧ RE w' rp Q' ∧ Kept rp w w' ∧ ∀ i, i ≠ 1 → w'.cell? ⟨rp, i, none⟩ = w.cell? ⟨rp, i, none⟩ ∧ w'.frozen? ⟨rp, i, none⟩ = w.frozen? ⟨rp, i, none⟩
theorem takeDK {w : World} {rp : Nat} {Q : List PartA} (R : RE w rp Q) (K : List Nat) (h0 : 0 < K.length) (hm : K.length ≤ 1000) {n : List PartA} {o : Bool} {Q' : List PartA} (hT : takeP K Q = (n, o, Q')) (cs : Array Value) (hcs : cs = (K.map fun x => Value.int .i64 (x : Nat)).toArray) (m : Nat) (hm2 : m = K.length) (g : Nat) (hg : g = w.heap.size) :
    Calls Try.prog 44 #[.pointer (some ⟨rp, 0, none⟩), .slice (some ⟨g, 0, none⟩) m m] (w.alloc (.cells cs 3)) (TakesD n o Q' rp w) := by
  subst hm2 hg
  have hat : AtCells (w.alloc (.cells cs 3)) (some ⟨w.heap.size, 0, none⟩) (K.map fun x => .int .i64 (x : Nat)) := by
    have h := AtCells.of_owns (World.ownsRow_lit (base := w.heap.size) (e := 3) (size := 1) w cs K.length (Nat.le_refl _) (by unfold maxLen; omega) (by rw [hcs]; simp))
    rw [hcs] at h
    rw [hcs]
    simpa using h
  refine (takeD_any (R.next (one_ok w _)) w.heap.size K.length K rfl h0 hm hat).mono ?_
  rintro e w' ⟨A, c, rfl, h1, _, h3, h4, h5, h6⟩
  rw [hT] at *
  exact ⟨A, c, rfl, h1, h3, h4, (Kept.of_below (one_ok w _)).trans h5, fun i hi => by have hlt := R.lt; obtain ⟨c1, c2⟩ := bcell (one_ok w (.cells cs 3)); exact ⟨(h6 i hi).1.trans (c1 _ _ hlt), (h6 i hi).2.trans (c2 _ _ hlt)⟩⟩

end Go.Proofs.Ytpjcheelafegbaa

namespace Go.Proofs.Ytpjcheelafegbaa
open Go.RowKit
set_option linter.unusedVariables false

/-- A reader: its row, and what is left of its parts. -/
structure RF (w : World) (rp : Nat) (a : Option Addr) (n cap : Nat) (l : List Int) (Q : List PartA) : Prop where
  rest : RE w rp Q
  c0 : w.cell? ⟨rp, 0, none⟩ = some (.slice a n cap)
  f0 : w.frozen? ⟨rp, 0, none⟩ = false
  len : l.length = n
  le : n ≤ cap
  max : cap ≤ maxLen
  cells : AtB w rp a (l.map (.int .i32))
theorem RF.next {w w' : World} {rp : Nat} {a : Option Addr} {n cap : Nat} {l : List Int} {Q : List PartA} (h : RF w rp a n cap l Q) (hb : Below w.heap.size w w') : RF w' rp a n cap l Q := by
  have hlt := cell_lt h.c0
  obtain ⟨c1, c2⟩ := bcell hb
  exact ⟨h.rest.next hb, (c1 _ _ hlt).trans h.c0, (c2 _ _ hlt).trans h.f0, h.len, h.le, h.max, h.cells.kept (Kept.of_below hb)⟩
theorem RF.took {w w' : World} {rp : Nat} {a : Option Addr} {n cap : Nat} {l : List Int} {Q Q' : List PartA} (h : RF w rp a n cap l Q) (hr : RE w' rp Q') (hk : Kept rp w w') (hc : ∀ i, i ≠ 1 → w'.cell? ⟨rp, i, none⟩ = w.cell? ⟨rp, i, none⟩ ∧ w'.frozen? ⟨rp, i, none⟩ = w.frozen? ⟨rp, i, none⟩) : RF w' rp a n cap l Q' :=
  ⟨hr, (hc 0 (by omega)).1.trans h.c0, (hc 0 (by omega)).2.trans h.f0, h.len, h.le, h.max, h.cells.kept hk⟩

/-- Is a part some signs? -/
def isP (l : List Int) (x : PartA) (s : ByteArray) : Bool := decide (x.2.2 = x.2.1 + s.size) && sw (sg s) (l.drop x.2.1)

set_option maxHeartbeats 1000000 in
theorem isD_any {w : World} {rp : Nat} {b off n cap : Nat} {l : List Int} {Q : List PartA} (h : RF w rp (some ⟨b, off, none⟩) n cap l Q) {s : ByteArray} (S : Sign s) (k f t : Nat) (hft : f ≤ t) (htn : t ≤ n) (hn : n ≤ 1000) {v : Bool} (hv : isP l (k, f, t) s = v) :
    Calls Try.prog 72 #[.pointer (some ⟨rp, 0, none⟩), parI k f t, .string s] w fun e w' => e = .returned (.bool v) ∧ Below w.heap.size w w' := by
  have hs2 := S.small
  have c0 := h.c0
  have hlt := cell_lt c0
  have hne : ¬ rp = w.heap.size := by omega
  have RR : RRow w b off n cap l := ⟨h.len, h.le, h.max, h.cells.at_⟩
  have hb0 := one_ok w (.cells #[.int .i64 (k : Nat), .int .i64 (f : Nat), .int .i64 (t : Nat)] 32)
  have ew : IntKind.i64.wrap ((t : Int) - f) = (t : Int) - f := IntWalk.i64_in _ (by omega)
  unfold isP at hv
  simp only at hv
  by_cases hl : t = f + s.size
  · rw [decide_eq_true hl, Bool.true_and] at hv
    have HST := Lib.hid (fun q => startsC ((RR.below hb0).drewN q) S f (by omega) hv)
    have q1 : ((t : Int) - f == (s.size : Int)) = true := by simp; omega
    have q2 : (t : Int) - f = (s.size : Int) := by omega
    clear RR hv hb0 h hl
    go_enter Try.func72, Try.ntmps72
    go_wp2
    go_quiet ((go_at_call 59; exact Calls.quiet_of (HST.out _)))
    go_wp2
    go_ret
    exact ⟨rfl, below_drewN (one_ok w _) _⟩
  · rw [decide_eq_false hl, Bool.false_and] at hv
    subst hv
    have q1 : ((t : Int) - f == (s.size : Int)) = false := by simp; omega
    have q2 : ¬ (t : Int) - f = (s.size : Int) := by omega
    clear RR hb0 h hl
    go_enter Try.func72, Try.ntmps72
    go_wp2
    go_quiet (fail)
    go_wp2
    go_ret
    exact ⟨rfl, below_drewN (one_ok w _) _⟩

end Go.Proofs.Ytpjcheelafegbaa
