/-
  Contract of the reference's layer 8: Read of any row.
-/
import Derived.Test.YtblebkpnjeghoaaRefK
import Derived.Test.YtblebkpnjeghoaaRefK2
import Derived.Deep.DeepCutAuto
import Derived.Deep.CutBlock
import Derived.BigQuiet
namespace Go.Proofs.Ytblebkpnjeghoaa
open Go.RowKit
set_option linter.unusedVariables false

set_option maxRecDepth 20000 in
set_option maxHeartbeats 1000000 in
theorem refRead_none (a : Option Addr) (n cap : Nat) (l : List Int) (w : World) (hl : l.length = n) (hc : n ≤ cap) (hm : cap ≤ maxLen) (hn : n ≤ 800) (hat : AtCells w a (l.map (.int .i32))) (hwf : ∀ j, -2147483648 ≤ l.getD j 0 ∧ l.getD j 0 ≤ 2147483647) (f t : Int) {nm : PartA} {al : List AttA} {r m : Bool} {P : List PartA} (hP : parts l f t = P) (hR : readI P = (nm, al, r, m)) (h01n : ¬ (kindP P 0 = 1 ∧ kindP P 1 = 2)) :
    Calls Try.prog 46 #[.slice a n cap, .int .i64 f, .int .i64 t] w (OwnRTag w nm al r m) := by
  obtain ⟨i0, hi, hz0, hz1, hz2⟩ := info_parts Try.infoRAttr
  have HI := Lib.hid (And.intro hi (And.intro hz0 (And.intro hz1 hz2)))
  clear hi hz0 hz1 hz2
  have HP := Lib.hid (fun w' (hb : Below w.heap.size w w') => refParts_row a n cap l w' hl hc hm (by omega) (hat.below hb) hwf f t)
  rw [hP] at HP
  have hPl := parts_len l f t
  rw [hP, hl] at hPl
  have hmem := Lib.hid (fun (x : PartA) (hx : x ∈ P) => parts_mem (l := l) (f := f) (t := t) (x := x) (by rw [hP]; exact hx))
  clear hP hat hwf
  have HKD := Lib.hid (fun (w' : World) (A : Option Addr) (q c : Nat) (R : PRow w' A q c P) (k : Nat) (hk : k ≤ 2000) (v : Nat) (hv : kindP P k = v) => kind_any R k hk hv)
  obtain ⟨k0, hk0⟩ : ∃ x, kindP P 0 = x := ⟨_, rfl⟩
  obtain ⟨k1, hk1⟩ : ∃ x, kindP P 1 = x := ⟨_, rfl⟩
  have tok1 : True := trivial
  have h01 : ¬ (k0 = 1 ∧ k1 = 2) := by rw [← hk0, ← hk1]; exact h01n
  clear h01n
  have hRN : readI P = ((0, 0, 0), [], false, false) := by unfold readI; rw [if_neg (fun h => h01 ⟨by rw [← hk0]; exact h.1, by rw [← hk1]; exact h.2⟩)]
  have HQ := Lib.hid (hR.symm.trans hRN)
  by_cases h0 : k0 = 1
  · subst h0
    have h1 : ¬ (k1 : Int) = 2 := by omega
    clear h01 hRN hR
    go_enter Try.func46, Try.ntmps46
    go_wp2_with (first
      | (go_at_call 79; (refine (HP.out _ (by first | exact Below.refl _ _ | exact one_ok _ _ | exact two_ok _ _ _)).mono ?_); rintro e w1 ⟨v, rfl, hown, hb1⟩; obtain ⟨va, vc, rfl, hvc⟩ := owns_slice hown; have R1 : PRow w1 va P.length vc P := (⟨rfl, hvc, owns_cap hown, AtCells.of_owns hown⟩); obtain ⟨c1, c2⟩ := bcell hb1; have hz0 : w.heap.size < w1.heap.size := (by have := hb1.size; simp at this; omega); have hng : ¬ w.heap.size = w1.heap.size := (by omega); have hng2 : ¬ w1.heap.size = w.heap.size := (by omega); have y0 : w1.cell? ⟨w.heap.size, 0, none⟩ = some (.int .i64 0) := (by rw [c1 _ _ (by simp)]; simp); have y1 : w1.cell? ⟨w.heap.size, 1, none⟩ = some (.int .i64 0) := (by rw [c1 _ _ (by simp)]; simp); have y2 : w1.cell? ⟨w.heap.size, 2, none⟩ = some (.int .i64 0) := (by rw [c1 _ _ (by simp)]; simp); have y3 : w1.cell? ⟨w.heap.size, 3, none⟩ = some (.slice none 0 0) := (by rw [c1 _ _ (by simp)]; simp); have y4 : w1.cell? ⟨w.heap.size, 4, none⟩ = some (.bool false) := (by rw [c1 _ _ (by simp)]; simp); have y5 : w1.cell? ⟨w.heap.size, 5, none⟩ = some (.bool false) := (by rw [c1 _ _ (by simp)]; simp); have yz : ∀ i, w1.frozen? ⟨w.heap.size, i, none⟩ = false := (fun i => by rw [c2 _ _ (by simp)]; simp [go_sem]))
      | (go_at_call 80; (have _t := tok1); (refine (HKD.out _ _ P.length vc (by first | exact R1 | exact R1.below (one_ok _ _) | exact R1.below (Below.refl _ _)) 0 (by omega) _ hk0).mono ?_); rintro e w2 ⟨rfl, rfl⟩; clear tok1 _t; have tok2 : True := trivial)
      | (go_at_call 80; (have _t := tok2); (refine (HKD.out _ _ P.length vc (by first | exact R1 | exact R1.below (one_ok _ _) | exact R1.below (Below.refl _ _)) 1 (by omega) _ hk1).mono ?_); rintro e w2 ⟨rfl, rfl⟩; clear tok2 _t; have tok3 : True := trivial))
    have HQ2 := HQ.out
    simp only [Prod.mk.injEq] at HQ2
    obtain ⟨q1, q2, q3, q4⟩ := HQ2
    have HD : Below w.heap.size w ((setT w1 w.heap.size (.int .i64 0) (.int .i64 0) (.int .i64 0) (.slice none 0 0) (.bool false) (.bool false)).alloc (.cells #[.int .i64 0, .int .i64 0, .int .i64 0, .slice none 0 0, .bool false, .bool false] 83)) := (setT_below ((one_ok w rtagB).trans (hb1.mono (by simp))) (Nat.le_refl _) _ _ _ _ _ _).alloc (by simp [setT]; omega) _
    refine bodyPost_ret (v := tagI 0 0 0 (.slice none 0 0) false false) ?_ rfl (by rw [q1, q2, q3, q4]; exact ⟨_, rfl, World.ownsRow_nil _ _ _ _, HD⟩)
    simp [results, Try.results46, go_sem, y0, y1, y2, y3, y4, y5, hng, hng2, hz0]
  · have h1 : ¬ (k0 : Int) = 1 := by omega
    clear h01 hRN hR
    go_enter Try.func46, Try.ntmps46
    go_wp2_with (first
      | (go_at_call 79; (refine (HP.out _ (by first | exact Below.refl _ _ | exact one_ok _ _ | exact two_ok _ _ _)).mono ?_); rintro e w1 ⟨v, rfl, hown, hb1⟩; obtain ⟨va, vc, rfl, hvc⟩ := owns_slice hown; have R1 : PRow w1 va P.length vc P := (⟨rfl, hvc, owns_cap hown, AtCells.of_owns hown⟩); obtain ⟨c1, c2⟩ := bcell hb1; have hz0 : w.heap.size < w1.heap.size := (by have := hb1.size; simp at this; omega); have hng : ¬ w.heap.size = w1.heap.size := (by omega); have hng2 : ¬ w1.heap.size = w.heap.size := (by omega); have y0 : w1.cell? ⟨w.heap.size, 0, none⟩ = some (.int .i64 0) := (by rw [c1 _ _ (by simp)]; simp); have y1 : w1.cell? ⟨w.heap.size, 1, none⟩ = some (.int .i64 0) := (by rw [c1 _ _ (by simp)]; simp); have y2 : w1.cell? ⟨w.heap.size, 2, none⟩ = some (.int .i64 0) := (by rw [c1 _ _ (by simp)]; simp); have y3 : w1.cell? ⟨w.heap.size, 3, none⟩ = some (.slice none 0 0) := (by rw [c1 _ _ (by simp)]; simp); have y4 : w1.cell? ⟨w.heap.size, 4, none⟩ = some (.bool false) := (by rw [c1 _ _ (by simp)]; simp); have y5 : w1.cell? ⟨w.heap.size, 5, none⟩ = some (.bool false) := (by rw [c1 _ _ (by simp)]; simp); have yz : ∀ i, w1.frozen? ⟨w.heap.size, i, none⟩ = false := (fun i => by rw [c2 _ _ (by simp)]; simp [go_sem]))
      | (go_at_call 80; (have _t := tok1); (refine (HKD.out _ _ P.length vc (by first | exact R1 | exact R1.below (one_ok _ _) | exact R1.below (Below.refl _ _)) 0 (by omega) _ hk0).mono ?_); rintro e w2 ⟨rfl, rfl⟩; clear tok1 _t; have tok2 : True := trivial))
    have HQ2 := HQ.out
    simp only [Prod.mk.injEq] at HQ2
    obtain ⟨q1, q2, q3, q4⟩ := HQ2
    have HD : Below w.heap.size w ((setT w1 w.heap.size (.int .i64 0) (.int .i64 0) (.int .i64 0) (.slice none 0 0) (.bool false) (.bool false)).alloc (.cells #[.int .i64 0, .int .i64 0, .int .i64 0, .slice none 0 0, .bool false, .bool false] 83)) := (setT_below ((one_ok w rtagB).trans (hb1.mono (by simp))) (Nat.le_refl _) _ _ _ _ _ _).alloc (by simp [setT]; omega) _
    refine bodyPost_ret (v := tagI 0 0 0 (.slice none 0 0) false false) ?_ rfl (by rw [q1, q2, q3, q4]; exact ⟨_, rfl, World.ownsRow_nil _ _ _ _, HD⟩)
    simp [results, Try.results46, go_sem, y0, y1, y2, y3, y4, y5, hng, hng2, hz0]


theorem refRead_row (a : Option Addr) (n cap : Nat) (l : List Int) (w : World) (hl : l.length = n) (hc : n ≤ cap) (hm : cap ≤ maxLen) (hn : n ≤ 800) (hat : AtCells w a (l.map (.int .i32))) (hwf : ∀ j, -2147483648 ≤ l.getD j 0 ∧ l.getD j 0 ≤ 2147483647) (f t : Int) {nm : PartA} {al : List AttA} {r m : Bool} {P : List PartA} (hP : parts l f t = P) (hR : readI P = (nm, al, r, m)) :
    Calls Try.prog 46 #[.slice a n cap, .int .i64 f, .int .i64 t] w (OwnRTag w nm al r m) := by
  by_cases h01 : kindP P 0 = 1 ∧ kindP P 1 = 2
  · rcases wayP_lt P with h | h | h | h | h | h | h | h
    · exact refRead_w0 a n cap l w hl hc hm hn hat hwf f t hP hR h01 h
    · exact refRead_w1 a n cap l w hl hc hm hn hat hwf f t hP hR h01 h
    · exact refRead_w2 a n cap l w hl hc hm hn hat hwf f t hP hR h01 h
    · exact refRead_w3 a n cap l w hl hc hm hn hat hwf f t hP hR h01 h
    · exact refRead_w4 a n cap l w hl hc hm hn hat hwf f t hP hR h01 h
    · exact refRead_w5 a n cap l w hl hc hm hn hat hwf f t hP hR h01 h
    · exact refRead_w6 a n cap l w hl hc hm hn hat hwf f t hP hR h01 h
    · exact refRead_w7 a n cap l w hl hc hm hn hat hwf f t hP hR h01 h
  · exact refRead_none a n cap l w hl hc hm hn hat hwf f t hP hR h01

end Go.Proofs.Ytblebkpnjeghoaa
