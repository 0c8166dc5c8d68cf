/-
  Contract of the reference's layer 8: a part, its ways.
-/
import Derived.Test.YtblebkpnjeghoaaRefB0
namespace Go.Proofs.Ytblebkpnjeghoaa
open Go.RowKit
set_option linter.unusedVariables false

set_option maxRecDepth 20000 in
set_option maxHeartbeats 2000000 in
theorem refPart_c2A {b off n cap : Nat} {l : List Int} {w : World} (R : RRow w b off n cap l) (hwf : ∀ j, -2147483648 ≤ l.getD j 0 ∧ l.getD j 0 ≤ 2147483647) (f k t : Nat) (hk : k < t) (ht : t ≤ n) (hn : n ≤ 1000) (hf : f ≤ 1000) (z : Int) (hz : l.getD k 0 = z) (hkf : ¬ k = f) (hs : spaceB z = false) (hq : leadP ((l.take t).drop k) = 0) (h47 : z = 47) (hkt : k + 2 = t) (y : Int) (hy : l.getD (k + 1) 0 = y) (h62 : y = 62) :
    Says 103 #[.slice (some ⟨b, off, none⟩) n cap, .int .i64 f, .int .i64 k, .int .i64 t] (parI 6 k (t)) w w := by
  have hm := R.max
  have hc := R.le
  unfold maxLen at hm
  have hblt : b < w.heap.size := by
    obtain ⟨b', off', hy, hcl⟩ := R.cells.int (k := k) (by rw [R.len]; omega)
    simp only [Option.some.injEq, Addr.mk.injEq] at hy
    obtain ⟨rfl, rfl, _⟩ := hy
    exact cell_lt hcl
  have hbn : ¬ b = w.heap.size := by omega
  have R0 := R.below (one_ok w rparB)
  have HCL := Lib.hid (fun (w' : World) (hb : Below (w.alloc rparB).heap.size (w.alloc rparB) w') => show w'.cell? ⟨b, off + k, none⟩ = some (.int .i32 z) from by
    obtain ⟨b', off', hy, hcl⟩ := (R0.cells.below hb).int (k := k) (by rw [R.len]; omega)
    simp only [Option.some.injEq, Addr.mk.injEq] at hy
    obtain ⟨rfl, rfl, _⟩ := hy
    rw [hz] at hcl
    exact hcl)
  have hcl : w.cell? ⟨b, off + k, none⟩ = some (.int .i32 z) := by
    obtain ⟨b', off', hy, hcl⟩ := R.cells.int (k := k) (by rw [R.len]; omega)
    simp only [Option.some.injEq, Addr.mk.injEq] at hy
    obtain ⟨rfl, rfl, _⟩ := hy
    rw [hz] at hcl
    exact hcl
  have Rt := R0.cut t ht
  have hwt : ∀ j, -2147483648 ≤ (l.take t).getD j 0 ∧ (l.take t).getD j 0 ≤ 2147483647 := fun j => by
    by_cases hj : j < t
    · have := hwf j
      rw [List.getD_eq_getElem?_getD, List.getElem?_take, if_pos hj, ← List.getD_eq_getElem?_getD]; exact this
    · rw [List.getD_eq_getElem?_getD, List.getElem?_take, if_neg hj]; decide
  have hcl2 : w.cell? ⟨b, off + (k + 1), none⟩ = some (.int .i32 y) := by
    obtain ⟨b', off', hy', hcl⟩ := R.cells.int (k := k + 1) (by rw [R.len]; omega)
    simp only [Option.some.injEq, Addr.mk.injEq] at hy'
    obtain ⟨rfl, rfl, _⟩ := hy'
    rw [hy] at hcl
    exact hcl
  have HCY := Lib.hid (fun (w' : World) (hb : Below (w.alloc rparB).heap.size (w.alloc rparB) w') => show w'.cell? ⟨b, off + (k + 1), none⟩ = some (.int .i32 y) from (((one_ok w rparB).trans (hb.mono (by simp))).cell (p := ⟨b, off + (k + 1), none⟩) hblt).trans hcl2)
  have e0 : ((k : Int) == f) = false := by simp; omega
  have H1 := Lib.hid (refSpaceB (W := w.alloc rparB) hs)
  have H2 := Lib.hid (refLeadB Rt k hq)
  subst h47
  subst h62
  clear hs hq hy
  have et : ((k : Int) + 2 == (t : Int)) = true := by simp; omega
  have et1 : ((k : Int) + 1 == (t : Int)) = false := by simp; omega
  have hb : Below (w.alloc rparB).heap.size (w.alloc rparB) (w.alloc rparB) := Below.refl _ _
  clear R R0 Rt hwf hwt hz
  go_enter Try.func103, Try.ntmps103
  go_wp2_with (first
    | (go_at_call 86; (with_reducible refine (H1.out _ hb).mono ?_); rintro e w1 ⟨rfl, hb1⟩; replace hb := hb1; clear hb1; obtain ⟨c1, c2⟩ := bcell hb; have hz0 : w.heap.size < w1.heap.size := (by have := hb.size; simp at this; omega); have hcl := HCL.out _ hb; have hcy := HCY.out _ hb)
    | (go_at_call 87; (with_reducible refine (H2.out _ hb).mono ?_); rintro e w1 ⟨rfl, hb1⟩; replace hb := hb1; clear hb1; obtain ⟨c1, c2⟩ := bcell hb; have hz0 : w.heap.size < w1.heap.size := (by have := hb.size; simp at this; omega); have hcl := HCL.out _ hb; have hcy := HCY.out _ hb))
  all_goals
    have y0 : w1.cell? ⟨w.heap.size, 0, none⟩ = some (.int .i64 0) := by simp [go_sem, c1]
    have y1 : w1.cell? ⟨w.heap.size, 1, none⟩ = some (.int .i64 0) := by simp [go_sem, c1]
    have y2 : w1.cell? ⟨w.heap.size, 2, none⟩ = some (.int .i64 0) := by simp [go_sem, c1]
    have HB2 := (one_ok w rparB).trans (hb.mono (by simp))
    refine bodyPost_ret (v := parI 6 k (t)) ?_ rfl ⟨rfl, ?_⟩
    · simp [results, Try.results103, go_sem, y0, y1, y2, parI] <;> omega
    · exact (((HB2.setCell (by simp) _).setCell (by simp) _).setCell (by simp) _)

set_option maxRecDepth 20000 in
set_option maxHeartbeats 2000000 in
theorem refPart_jxA {b off n cap : Nat} {l : List Int} {w : World} (R : RRow w b off n cap l) (hwf : ∀ j, -2147483648 ≤ l.getD j 0 ∧ l.getD j 0 ≤ 2147483647) (f k t : Nat) (hk : k < t) (ht : t ≤ n) (hn : n ≤ 1000) (hf : f ≤ 1000) (z : Int) (hz : l.getD k 0 = z) (hkf : ¬ k = f) (hs : spaceB z = false) (hq : leadP ((l.take t).drop k) = 0) (h62 : z = 62) (hkt : ¬ k + 1 = t) :
    Says 103 #[.slice (some ⟨b, off, none⟩) n cap, .int .i64 f, .int .i64 k, .int .i64 t] (parI 7 k ((k : Int) + 1)) w w := by
  have hm := R.max
  have hc := R.le
  unfold maxLen at hm
  have hblt : b < w.heap.size := by
    obtain ⟨b', off', hy, hcl⟩ := R.cells.int (k := k) (by rw [R.len]; omega)
    simp only [Option.some.injEq, Addr.mk.injEq] at hy
    obtain ⟨rfl, rfl, _⟩ := hy
    exact cell_lt hcl
  have hbn : ¬ b = w.heap.size := by omega
  have R0 := R.below (one_ok w rparB)
  have HCL := Lib.hid (fun (w' : World) (hb : Below (w.alloc rparB).heap.size (w.alloc rparB) w') => show w'.cell? ⟨b, off + k, none⟩ = some (.int .i32 z) from by
    obtain ⟨b', off', hy, hcl⟩ := (R0.cells.below hb).int (k := k) (by rw [R.len]; omega)
    simp only [Option.some.injEq, Addr.mk.injEq] at hy
    obtain ⟨rfl, rfl, _⟩ := hy
    rw [hz] at hcl
    exact hcl)
  have hcl : w.cell? ⟨b, off + k, none⟩ = some (.int .i32 z) := by
    obtain ⟨b', off', hy, hcl⟩ := R.cells.int (k := k) (by rw [R.len]; omega)
    simp only [Option.some.injEq, Addr.mk.injEq] at hy
    obtain ⟨rfl, rfl, _⟩ := hy
    rw [hz] at hcl
    exact hcl
  have Rt := R0.cut t ht
  have hwt : ∀ j, -2147483648 ≤ (l.take t).getD j 0 ∧ (l.take t).getD j 0 ≤ 2147483647 := fun j => by
    by_cases hj : j < t
    · have := hwf j
      rw [List.getD_eq_getElem?_getD, List.getElem?_take, if_pos hj, ← List.getD_eq_getElem?_getD]; exact this
    · rw [List.getD_eq_getElem?_getD, List.getElem?_take, if_neg hj]; decide
  have e0 : ((k : Int) == f) = false := by simp; omega
  have H1 := Lib.hid (refSpaceB (W := w.alloc rparB) hs)
  have H2 := Lib.hid (refLeadB Rt k hq)
  subst h62
  clear hs hq
  have et1 : ((k : Int) + 1 == (t : Int)) = false := by simp; omega
  have hb : Below (w.alloc rparB).heap.size (w.alloc rparB) (w.alloc rparB) := Below.refl _ _
  clear R R0 Rt hwf hwt hz
  go_enter Try.func103, Try.ntmps103
  go_wp2_with (first
    | (go_at_call 86; (with_reducible refine (H1.out _ hb).mono ?_); rintro e w1 ⟨rfl, hb1⟩; replace hb := hb1; clear hb1; obtain ⟨c1, c2⟩ := bcell hb; have hz0 : w.heap.size < w1.heap.size := (by have := hb.size; simp at this; omega); have hcl := HCL.out _ hb)
    | (go_at_call 87; (with_reducible refine (H2.out _ hb).mono ?_); rintro e w1 ⟨rfl, hb1⟩; replace hb := hb1; clear hb1; obtain ⟨c1, c2⟩ := bcell hb; have hz0 : w.heap.size < w1.heap.size := (by have := hb.size; simp at this; omega); have hcl := HCL.out _ hb))
  all_goals
    have y0 : w1.cell? ⟨w.heap.size, 0, none⟩ = some (.int .i64 0) := by simp [go_sem, c1]
    have y1 : w1.cell? ⟨w.heap.size, 1, none⟩ = some (.int .i64 0) := by simp [go_sem, c1]
    have y2 : w1.cell? ⟨w.heap.size, 2, none⟩ = some (.int .i64 0) := by simp [go_sem, c1]
    have HB2 := (one_ok w rparB).trans (hb.mono (by simp))
    refine bodyPost_ret (v := parI 7 k ((k : Int) + 1)) ?_ rfl ⟨rfl, ?_⟩
    · simp [results, Try.results103, go_sem, y0, y1, y2, parI] <;> omega
    · exact (((HB2.setCell (by simp) _).setCell (by simp) _).setCell (by simp) _)

set_option maxRecDepth 20000 in
set_option maxHeartbeats 2000000 in
theorem refPart_jyA {b off n cap : Nat} {l : List Int} {w : World} (R : RRow w b off n cap l) (hwf : ∀ j, -2147483648 ≤ l.getD j 0 ∧ l.getD j 0 ≤ 2147483647) (f k t : Nat) (hk : k < t) (ht : t ≤ n) (hn : n ≤ 1000) (hf : f ≤ 1000) (z : Int) (hz : l.getD k 0 = z) (hkf : ¬ k = f) (hs : spaceB z = false) (hq : leadP ((l.take t).drop k) = 0) (h47 : z = 47) (hkt : ¬ k + 2 = t) :
    Says 103 #[.slice (some ⟨b, off, none⟩) n cap, .int .i64 f, .int .i64 k, .int .i64 t] (parI 7 k ((k : Int) + 1)) w w := by
  have hm := R.max
  have hc := R.le
  unfold maxLen at hm
  have hblt : b < w.heap.size := by
    obtain ⟨b', off', hy, hcl⟩ := R.cells.int (k := k) (by rw [R.len]; omega)
    simp only [Option.some.injEq, Addr.mk.injEq] at hy
    obtain ⟨rfl, rfl, _⟩ := hy
    exact cell_lt hcl
  have hbn : ¬ b = w.heap.size := by omega
  have R0 := R.below (one_ok w rparB)
  have HCL := Lib.hid (fun (w' : World) (hb : Below (w.alloc rparB).heap.size (w.alloc rparB) w') => show w'.cell? ⟨b, off + k, none⟩ = some (.int .i32 z) from by
    obtain ⟨b', off', hy, hcl⟩ := (R0.cells.below hb).int (k := k) (by rw [R.len]; omega)
    simp only [Option.some.injEq, Addr.mk.injEq] at hy
    obtain ⟨rfl, rfl, _⟩ := hy
    rw [hz] at hcl
    exact hcl)
  have hcl : w.cell? ⟨b, off + k, none⟩ = some (.int .i32 z) := by
    obtain ⟨b', off', hy, hcl⟩ := R.cells.int (k := k) (by rw [R.len]; omega)
    simp only [Option.some.injEq, Addr.mk.injEq] at hy
    obtain ⟨rfl, rfl, _⟩ := hy
    rw [hz] at hcl
    exact hcl
  have Rt := R0.cut t ht
  have hwt : ∀ j, -2147483648 ≤ (l.take t).getD j 0 ∧ (l.take t).getD j 0 ≤ 2147483647 := fun j => by
    by_cases hj : j < t
    · have := hwf j
      rw [List.getD_eq_getElem?_getD, List.getElem?_take, if_pos hj, ← List.getD_eq_getElem?_getD]; exact this
    · rw [List.getD_eq_getElem?_getD, List.getElem?_take, if_neg hj]; decide
  have e0 : ((k : Int) == f) = false := by simp; omega
  have H1 := Lib.hid (refSpaceB (W := w.alloc rparB) hs)
  have H2 := Lib.hid (refLeadB Rt k hq)
  subst h47
  clear hs hq
  have et1 : ((k : Int) + 2 == (t : Int)) = false := by simp; omega
  have hb : Below (w.alloc rparB).heap.size (w.alloc rparB) (w.alloc rparB) := Below.refl _ _
  clear R R0 Rt hwf hwt hz
  go_enter Try.func103, Try.ntmps103
  go_wp2_with (first
    | (go_at_call 86; (with_reducible refine (H1.out _ hb).mono ?_); rintro e w1 ⟨rfl, hb1⟩; replace hb := hb1; clear hb1; obtain ⟨c1, c2⟩ := bcell hb; have hz0 : w.heap.size < w1.heap.size := (by have := hb.size; simp at this; omega); have hcl := HCL.out _ hb)
    | (go_at_call 87; (with_reducible refine (H2.out _ hb).mono ?_); rintro e w1 ⟨rfl, hb1⟩; replace hb := hb1; clear hb1; obtain ⟨c1, c2⟩ := bcell hb; have hz0 : w.heap.size < w1.heap.size := (by have := hb.size; simp at this; omega); have hcl := HCL.out _ hb))
  all_goals
    have y0 : w1.cell? ⟨w.heap.size, 0, none⟩ = some (.int .i64 0) := by simp [go_sem, c1]
    have y1 : w1.cell? ⟨w.heap.size, 1, none⟩ = some (.int .i64 0) := by simp [go_sem, c1]
    have y2 : w1.cell? ⟨w.heap.size, 2, none⟩ = some (.int .i64 0) := by simp [go_sem, c1]
    have HB2 := (one_ok w rparB).trans (hb.mono (by simp))
    refine bodyPost_ret (v := parI 7 k ((k : Int) + 1)) ?_ rfl ⟨rfl, ?_⟩
    · simp [results, Try.results103, go_sem, y0, y1, y2, parI] <;> omega
    · exact (((HB2.setCell (by simp) _).setCell (by simp) _).setCell (by simp) _)

set_option maxRecDepth 20000 in
set_option maxHeartbeats 2000000 in
theorem refPart_jzA {b off n cap : Nat} {l : List Int} {w : World} (R : RRow w b off n cap l) (hwf : ∀ j, -2147483648 ≤ l.getD j 0 ∧ l.getD j 0 ≤ 2147483647) (f k t : Nat) (hk : k < t) (ht : t ≤ n) (hn : n ≤ 1000) (hf : f ≤ 1000) (z : Int) (hz : l.getD k 0 = z) (hkf : ¬ k = f) (hs : spaceB z = false) (hq : leadP ((l.take t).drop k) = 0) (h47 : z = 47) (hkt : k + 2 = t) (y : Int) (hy : l.getD (k + 1) 0 = y) (h62 : ¬ y = 62) :
    Says 103 #[.slice (some ⟨b, off, none⟩) n cap, .int .i64 f, .int .i64 k, .int .i64 t] (parI 7 k ((k : Int) + 1)) w w := by
  have hm := R.max
  have hc := R.le
  unfold maxLen at hm
  have hblt : b < w.heap.size := by
    obtain ⟨b', off', hy, hcl⟩ := R.cells.int (k := k) (by rw [R.len]; omega)
    simp only [Option.some.injEq, Addr.mk.injEq] at hy
    obtain ⟨rfl, rfl, _⟩ := hy
    exact cell_lt hcl
  have hbn : ¬ b = w.heap.size := by omega
  have R0 := R.below (one_ok w rparB)
  have HCL := Lib.hid (fun (w' : World) (hb : Below (w.alloc rparB).heap.size (w.alloc rparB) w') => show w'.cell? ⟨b, off + k, none⟩ = some (.int .i32 z) from by
    obtain ⟨b', off', hy, hcl⟩ := (R0.cells.below hb).int (k := k) (by rw [R.len]; omega)
    simp only [Option.some.injEq, Addr.mk.injEq] at hy
    obtain ⟨rfl, rfl, _⟩ := hy
    rw [hz] at hcl
    exact hcl)
  have hcl : w.cell? ⟨b, off + k, none⟩ = some (.int .i32 z) := by
    obtain ⟨b', off', hy, hcl⟩ := R.cells.int (k := k) (by rw [R.len]; omega)
    simp only [Option.some.injEq, Addr.mk.injEq] at hy
    obtain ⟨rfl, rfl, _⟩ := hy
    rw [hz] at hcl
    exact hcl
  have Rt := R0.cut t ht
  have hwt : ∀ j, -2147483648 ≤ (l.take t).getD j 0 ∧ (l.take t).getD j 0 ≤ 2147483647 := fun j => by
    by_cases hj : j < t
    · have := hwf j
      rw [List.getD_eq_getElem?_getD, List.getElem?_take, if_pos hj, ← List.getD_eq_getElem?_getD]; exact this
    · rw [List.getD_eq_getElem?_getD, List.getElem?_take, if_neg hj]; decide
  have hcl2 : w.cell? ⟨b, off + (k + 1), none⟩ = some (.int .i32 y) := by
    obtain ⟨b', off', hy', hcl⟩ := R.cells.int (k := k + 1) (by rw [R.len]; omega)
    simp only [Option.some.injEq, Addr.mk.injEq] at hy'
    obtain ⟨rfl, rfl, _⟩ := hy'
    rw [hy] at hcl
    exact hcl
  have HCY := Lib.hid (fun (w' : World) (hb : Below (w.alloc rparB).heap.size (w.alloc rparB) w') => show w'.cell? ⟨b, off + (k + 1), none⟩ = some (.int .i32 y) from (((one_ok w rparB).trans (hb.mono (by simp))).cell (p := ⟨b, off + (k + 1), none⟩) hblt).trans hcl2)
  have e0 : ((k : Int) == f) = false := by simp; omega
  have H1 := Lib.hid (refSpaceB (W := w.alloc rparB) hs)
  have H2 := Lib.hid (refLeadB Rt k hq)
  subst h47
  have ey : (y == 62) = false := by simpa using h62
  clear hs hq hy
  have et : ((k : Int) + 2 == (t : Int)) = true := by simp; omega
  have et1 : ((k : Int) + 1 == (t : Int)) = false := by simp; omega
  have hb : Below (w.alloc rparB).heap.size (w.alloc rparB) (w.alloc rparB) := Below.refl _ _
  clear R R0 Rt hwf hwt hz
  go_enter Try.func103, Try.ntmps103
  go_wp2_with (first
    | (go_at_call 86; (with_reducible refine (H1.out _ hb).mono ?_); rintro e w1 ⟨rfl, hb1⟩; replace hb := hb1; clear hb1; obtain ⟨c1, c2⟩ := bcell hb; have hz0 : w.heap.size < w1.heap.size := (by have := hb.size; simp at this; omega); have hcl := HCL.out _ hb; have hcy := HCY.out _ hb)
    | (go_at_call 87; (with_reducible refine (H2.out _ hb).mono ?_); rintro e w1 ⟨rfl, hb1⟩; replace hb := hb1; clear hb1; obtain ⟨c1, c2⟩ := bcell hb; have hz0 : w.heap.size < w1.heap.size := (by have := hb.size; simp at this; omega); have hcl := HCL.out _ hb; have hcy := HCY.out _ hb))
  all_goals
    have y0 : w1.cell? ⟨w.heap.size, 0, none⟩ = some (.int .i64 0) := by simp [go_sem, c1]
    have y1 : w1.cell? ⟨w.heap.size, 1, none⟩ = some (.int .i64 0) := by simp [go_sem, c1]
    have y2 : w1.cell? ⟨w.heap.size, 2, none⟩ = some (.int .i64 0) := by simp [go_sem, c1]
    have HB2 := (one_ok w rparB).trans (hb.mono (by simp))
    refine bodyPost_ret (v := parI 7 k ((k : Int) + 1)) ?_ rfl ⟨rfl, ?_⟩
    · simp [results, Try.results103, go_sem, y0, y1, y2, parI] <;> omega
    · exact (((HB2.setCell (by simp) _).setCell (by simp) _).setCell (by simp) _)

set_option maxRecDepth 20000 in
set_option maxHeartbeats 2000000 in
theorem refPart_c2B {b off n cap : Nat} {l : List Int} {w : World} (R : RRow w b off n cap l) (hwf : ∀ j, -2147483648 ≤ l.getD j 0 ∧ l.getD j 0 ≤ 2147483647) (f k t : Nat) (hk : k < t) (ht : t ≤ n) (hn : n ≤ 1000) (hf : f ≤ 1000) (z : Int) (hz : l.getD k 0 = z) (hkf : k = f) (h60 : ¬ z = 60) (hs : spaceB z = false) (hq : leadP ((l.take t).drop k) = 0) (h47 : z = 47) (hkt : k + 2 = t) (y : Int) (hy : l.getD (k + 1) 0 = y) (h62 : y = 62) :
    Says 103 #[.slice (some ⟨b, off, none⟩) n cap, .int .i64 f, .int .i64 k, .int .i64 t] (parI 6 k (t)) w w := by
  have hm := R.max
  have hc := R.le
  unfold maxLen at hm
  have hblt : b < w.heap.size := by
    obtain ⟨b', off', hy, hcl⟩ := R.cells.int (k := k) (by rw [R.len]; omega)
    simp only [Option.some.injEq, Addr.mk.injEq] at hy
    obtain ⟨rfl, rfl, _⟩ := hy
    exact cell_lt hcl
  have hbn : ¬ b = w.heap.size := by omega
  have R0 := R.below (one_ok w rparB)
  have HCL := Lib.hid (fun (w' : World) (hb : Below (w.alloc rparB).heap.size (w.alloc rparB) w') => show w'.cell? ⟨b, off + k, none⟩ = some (.int .i32 z) from by
    obtain ⟨b', off', hy, hcl⟩ := (R0.cells.below hb).int (k := k) (by rw [R.len]; omega)
    simp only [Option.some.injEq, Addr.mk.injEq] at hy
    obtain ⟨rfl, rfl, _⟩ := hy
    rw [hz] at hcl
    exact hcl)
  have hcl : w.cell? ⟨b, off + k, none⟩ = some (.int .i32 z) := by
    obtain ⟨b', off', hy, hcl⟩ := R.cells.int (k := k) (by rw [R.len]; omega)
    simp only [Option.some.injEq, Addr.mk.injEq] at hy
    obtain ⟨rfl, rfl, _⟩ := hy
    rw [hz] at hcl
    exact hcl
  have Rt := R0.cut t ht
  have hwt : ∀ j, -2147483648 ≤ (l.take t).getD j 0 ∧ (l.take t).getD j 0 ≤ 2147483647 := fun j => by
    by_cases hj : j < t
    · have := hwf j
      rw [List.getD_eq_getElem?_getD, List.getElem?_take, if_pos hj, ← List.getD_eq_getElem?_getD]; exact this
    · rw [List.getD_eq_getElem?_getD, List.getElem?_take, if_neg hj]; decide
  have hcl2 : w.cell? ⟨b, off + (k + 1), none⟩ = some (.int .i32 y) := by
    obtain ⟨b', off', hy', hcl⟩ := R.cells.int (k := k + 1) (by rw [R.len]; omega)
    simp only [Option.some.injEq, Addr.mk.injEq] at hy'
    obtain ⟨rfl, rfl, _⟩ := hy'
    rw [hy] at hcl
    exact hcl
  have HCY := Lib.hid (fun (w' : World) (hb : Below (w.alloc rparB).heap.size (w.alloc rparB) w') => show w'.cell? ⟨b, off + (k + 1), none⟩ = some (.int .i32 y) from (((one_ok w rparB).trans (hb.mono (by simp))).cell (p := ⟨b, off + (k + 1), none⟩) hblt).trans hcl2)
  have e60 : (z == 60) = false := by simpa using h60
  subst hkf
  have H1 := Lib.hid (refSpaceB (W := w.alloc rparB) hs)
  have H2 := Lib.hid (refLeadB Rt k hq)
  subst h47
  subst h62
  clear hs hq hy
  have et : ((k : Int) + 2 == (t : Int)) = true := by simp; omega
  have et1 : ((k : Int) + 1 == (t : Int)) = false := by simp; omega
  have hb : Below (w.alloc rparB).heap.size (w.alloc rparB) (w.alloc rparB) := Below.refl _ _
  clear R R0 Rt hwf hwt hz
  go_enter Try.func103, Try.ntmps103
  go_wp2_with (first
    | (go_at_call 86; (with_reducible refine (H1.out _ hb).mono ?_); rintro e w1 ⟨rfl, hb1⟩; replace hb := hb1; clear hb1; obtain ⟨c1, c2⟩ := bcell hb; have hz0 : w.heap.size < w1.heap.size := (by have := hb.size; simp at this; omega); have hcl := HCL.out _ hb; have hcy := HCY.out _ hb)
    | (go_at_call 87; (with_reducible refine (H2.out _ hb).mono ?_); rintro e w1 ⟨rfl, hb1⟩; replace hb := hb1; clear hb1; obtain ⟨c1, c2⟩ := bcell hb; have hz0 : w.heap.size < w1.heap.size := (by have := hb.size; simp at this; omega); have hcl := HCL.out _ hb; have hcy := HCY.out _ hb))
  all_goals
    have y0 : w1.cell? ⟨w.heap.size, 0, none⟩ = some (.int .i64 0) := by simp [go_sem, c1]
    have y1 : w1.cell? ⟨w.heap.size, 1, none⟩ = some (.int .i64 0) := by simp [go_sem, c1]
    have y2 : w1.cell? ⟨w.heap.size, 2, none⟩ = some (.int .i64 0) := by simp [go_sem, c1]
    have HB2 := (one_ok w rparB).trans (hb.mono (by simp))
    refine bodyPost_ret (v := parI 6 k (t)) ?_ rfl ⟨rfl, ?_⟩
    · simp [results, Try.results103, go_sem, y0, y1, y2, parI] <;> omega
    · exact (((HB2.setCell (by simp) _).setCell (by simp) _).setCell (by simp) _)

set_option maxRecDepth 20000 in
set_option maxHeartbeats 2000000 in
theorem refPart_jxB {b off n cap : Nat} {l : List Int} {w : World} (R : RRow w b off n cap l) (hwf : ∀ j, -2147483648 ≤ l.getD j 0 ∧ l.getD j 0 ≤ 2147483647) (f k t : Nat) (hk : k < t) (ht : t ≤ n) (hn : n ≤ 1000) (hf : f ≤ 1000) (z : Int) (hz : l.getD k 0 = z) (hkf : k = f) (h60 : ¬ z = 60) (hs : spaceB z = false) (hq : leadP ((l.take t).drop k) = 0) (h62 : z = 62) (hkt : ¬ k + 1 = t) :
    Says 103 #[.slice (some ⟨b, off, none⟩) n cap, .int .i64 f, .int .i64 k, .int .i64 t] (parI 7 k ((k : Int) + 1)) w w := by
  have hm := R.max
  have hc := R.le
  unfold maxLen at hm
  have hblt : b < w.heap.size := by
    obtain ⟨b', off', hy, hcl⟩ := R.cells.int (k := k) (by rw [R.len]; omega)
    simp only [Option.some.injEq, Addr.mk.injEq] at hy
    obtain ⟨rfl, rfl, _⟩ := hy
    exact cell_lt hcl
  have hbn : ¬ b = w.heap.size := by omega
  have R0 := R.below (one_ok w rparB)
  have HCL := Lib.hid (fun (w' : World) (hb : Below (w.alloc rparB).heap.size (w.alloc rparB) w') => show w'.cell? ⟨b, off + k, none⟩ = some (.int .i32 z) from by
    obtain ⟨b', off', hy, hcl⟩ := (R0.cells.below hb).int (k := k) (by rw [R.len]; omega)
    simp only [Option.some.injEq, Addr.mk.injEq] at hy
    obtain ⟨rfl, rfl, _⟩ := hy
    rw [hz] at hcl
    exact hcl)
  have hcl : w.cell? ⟨b, off + k, none⟩ = some (.int .i32 z) := by
    obtain ⟨b', off', hy, hcl⟩ := R.cells.int (k := k) (by rw [R.len]; omega)
    simp only [Option.some.injEq, Addr.mk.injEq] at hy
    obtain ⟨rfl, rfl, _⟩ := hy
    rw [hz] at hcl
    exact hcl
  have Rt := R0.cut t ht
  have hwt : ∀ j, -2147483648 ≤ (l.take t).getD j 0 ∧ (l.take t).getD j 0 ≤ 2147483647 := fun j => by
    by_cases hj : j < t
    · have := hwf j
      rw [List.getD_eq_getElem?_getD, List.getElem?_take, if_pos hj, ← List.getD_eq_getElem?_getD]; exact this
    · rw [List.getD_eq_getElem?_getD, List.getElem?_take, if_neg hj]; decide
  have e60 : (z == 60) = false := by simpa using h60
  subst hkf
  have H1 := Lib.hid (refSpaceB (W := w.alloc rparB) hs)
  have H2 := Lib.hid (refLeadB Rt k hq)
  subst h62
  clear hs hq
  have et1 : ((k : Int) + 1 == (t : Int)) = false := by simp; omega
  have hb : Below (w.alloc rparB).heap.size (w.alloc rparB) (w.alloc rparB) := Below.refl _ _
  clear R R0 Rt hwf hwt hz
  go_enter Try.func103, Try.ntmps103
  go_wp2_with (first
    | (go_at_call 86; (with_reducible refine (H1.out _ hb).mono ?_); rintro e w1 ⟨rfl, hb1⟩; replace hb := hb1; clear hb1; obtain ⟨c1, c2⟩ := bcell hb; have hz0 : w.heap.size < w1.heap.size := (by have := hb.size; simp at this; omega); have hcl := HCL.out _ hb)
    | (go_at_call 87; (with_reducible refine (H2.out _ hb).mono ?_); rintro e w1 ⟨rfl, hb1⟩; replace hb := hb1; clear hb1; obtain ⟨c1, c2⟩ := bcell hb; have hz0 : w.heap.size < w1.heap.size := (by have := hb.size; simp at this; omega); have hcl := HCL.out _ hb))
  all_goals
    have y0 : w1.cell? ⟨w.heap.size, 0, none⟩ = some (.int .i64 0) := by simp [go_sem, c1]
    have y1 : w1.cell? ⟨w.heap.size, 1, none⟩ = some (.int .i64 0) := by simp [go_sem, c1]
    have y2 : w1.cell? ⟨w.heap.size, 2, none⟩ = some (.int .i64 0) := by simp [go_sem, c1]
    have HB2 := (one_ok w rparB).trans (hb.mono (by simp))
    refine bodyPost_ret (v := parI 7 k ((k : Int) + 1)) ?_ rfl ⟨rfl, ?_⟩
    · simp [results, Try.results103, go_sem, y0, y1, y2, parI] <;> omega
    · exact (((HB2.setCell (by simp) _).setCell (by simp) _).setCell (by simp) _)

set_option maxRecDepth 20000 in
set_option maxHeartbeats 2000000 in
theorem refPart_jyB {b off n cap : Nat} {l : List Int} {w : World} (R : RRow w b off n cap l) (hwf : ∀ j, -2147483648 ≤ l.getD j 0 ∧ l.getD j 0 ≤ 2147483647) (f k t : Nat) (hk : k < t) (ht : t ≤ n) (hn : n ≤ 1000) (hf : f ≤ 1000) (z : Int) (hz : l.getD k 0 = z) (hkf : k = f) (h60 : ¬ z = 60) (hs : spaceB z = false) (hq : leadP ((l.take t).drop k) = 0) (h47 : z = 47) (hkt : ¬ k + 2 = t) :
    Says 103 #[.slice (some ⟨b, off, none⟩) n cap, .int .i64 f, .int .i64 k, .int .i64 t] (parI 7 k ((k : Int) + 1)) w w := by
  have hm := R.max
  have hc := R.le
  unfold maxLen at hm
  have hblt : b < w.heap.size := by
    obtain ⟨b', off', hy, hcl⟩ := R.cells.int (k := k) (by rw [R.len]; omega)
    simp only [Option.some.injEq, Addr.mk.injEq] at hy
    obtain ⟨rfl, rfl, _⟩ := hy
    exact cell_lt hcl
  have hbn : ¬ b = w.heap.size := by omega
  have R0 := R.below (one_ok w rparB)
  have HCL := Lib.hid (fun (w' : World) (hb : Below (w.alloc rparB).heap.size (w.alloc rparB) w') => show w'.cell? ⟨b, off + k, none⟩ = some (.int .i32 z) from by
    obtain ⟨b', off', hy, hcl⟩ := (R0.cells.below hb).int (k := k) (by rw [R.len]; omega)
    simp only [Option.some.injEq, Addr.mk.injEq] at hy
    obtain ⟨rfl, rfl, _⟩ := hy
    rw [hz] at hcl
    exact hcl)
  have hcl : w.cell? ⟨b, off + k, none⟩ = some (.int .i32 z) := by
    obtain ⟨b', off', hy, hcl⟩ := R.cells.int (k := k) (by rw [R.len]; omega)
    simp only [Option.some.injEq, Addr.mk.injEq] at hy
    obtain ⟨rfl, rfl, _⟩ := hy
    rw [hz] at hcl
    exact hcl
  have Rt := R0.cut t ht
  have hwt : ∀ j, -2147483648 ≤ (l.take t).getD j 0 ∧ (l.take t).getD j 0 ≤ 2147483647 := fun j => by
    by_cases hj : j < t
    · have := hwf j
      rw [List.getD_eq_getElem?_getD, List.getElem?_take, if_pos hj, ← List.getD_eq_getElem?_getD]; exact this
    · rw [List.getD_eq_getElem?_getD, List.getElem?_take, if_neg hj]; decide
  have e60 : (z == 60) = false := by simpa using h60
  subst hkf
  have H1 := Lib.hid (refSpaceB (W := w.alloc rparB) hs)
  have H2 := Lib.hid (refLeadB Rt k hq)
  subst h47
  clear hs hq
  have et1 : ((k : Int) + 2 == (t : Int)) = false := by simp; omega
  have hb : Below (w.alloc rparB).heap.size (w.alloc rparB) (w.alloc rparB) := Below.refl _ _
  clear R R0 Rt hwf hwt hz
  go_enter Try.func103, Try.ntmps103
  go_wp2_with (first
    | (go_at_call 86; (with_reducible refine (H1.out _ hb).mono ?_); rintro e w1 ⟨rfl, hb1⟩; replace hb := hb1; clear hb1; obtain ⟨c1, c2⟩ := bcell hb; have hz0 : w.heap.size < w1.heap.size := (by have := hb.size; simp at this; omega); have hcl := HCL.out _ hb)
    | (go_at_call 87; (with_reducible refine (H2.out _ hb).mono ?_); rintro e w1 ⟨rfl, hb1⟩; replace hb := hb1; clear hb1; obtain ⟨c1, c2⟩ := bcell hb; have hz0 : w.heap.size < w1.heap.size := (by have := hb.size; simp at this; omega); have hcl := HCL.out _ hb))
  all_goals
    have y0 : w1.cell? ⟨w.heap.size, 0, none⟩ = some (.int .i64 0) := by simp [go_sem, c1]
    have y1 : w1.cell? ⟨w.heap.size, 1, none⟩ = some (.int .i64 0) := by simp [go_sem, c1]
    have y2 : w1.cell? ⟨w.heap.size, 2, none⟩ = some (.int .i64 0) := by simp [go_sem, c1]
    have HB2 := (one_ok w rparB).trans (hb.mono (by simp))
    refine bodyPost_ret (v := parI 7 k ((k : Int) + 1)) ?_ rfl ⟨rfl, ?_⟩
    · simp [results, Try.results103, go_sem, y0, y1, y2, parI] <;> omega
    · exact (((HB2.setCell (by simp) _).setCell (by simp) _).setCell (by simp) _)

set_option maxRecDepth 20000 in
set_option maxHeartbeats 2000000 in
theorem refPart_jzB {b off n cap : Nat} {l : List Int} {w : World} (R : RRow w b off n cap l) (hwf : ∀ j, -2147483648 ≤ l.getD j 0 ∧ l.getD j 0 ≤ 2147483647) (f k t : Nat) (hk : k < t) (ht : t ≤ n) (hn : n ≤ 1000) (hf : f ≤ 1000) (z : Int) (hz : l.getD k 0 = z) (hkf : k = f) (h60 : ¬ z = 60) (hs : spaceB z = false) (hq : leadP ((l.take t).drop k) = 0) (h47 : z = 47) (hkt : k + 2 = t) (y : Int) (hy : l.getD (k + 1) 0 = y) (h62 : ¬ y = 62) :
    Says 103 #[.slice (some ⟨b, off, none⟩) n cap, .int .i64 f, .int .i64 k, .int .i64 t] (parI 7 k ((k : Int) + 1)) w w := by
  have hm := R.max
  have hc := R.le
  unfold maxLen at hm
  have hblt : b < w.heap.size := by
    obtain ⟨b', off', hy, hcl⟩ := R.cells.int (k := k) (by rw [R.len]; omega)
    simp only [Option.some.injEq, Addr.mk.injEq] at hy
    obtain ⟨rfl, rfl, _⟩ := hy
    exact cell_lt hcl
  have hbn : ¬ b = w.heap.size := by omega
  have R0 := R.below (one_ok w rparB)
  have HCL := Lib.hid (fun (w' : World) (hb : Below (w.alloc rparB).heap.size (w.alloc rparB) w') => show w'.cell? ⟨b, off + k, none⟩ = some (.int .i32 z) from by
    obtain ⟨b', off', hy, hcl⟩ := (R0.cells.below hb).int (k := k) (by rw [R.len]; omega)
    simp only [Option.some.injEq, Addr.mk.injEq] at hy
    obtain ⟨rfl, rfl, _⟩ := hy
    rw [hz] at hcl
    exact hcl)
  have hcl : w.cell? ⟨b, off + k, none⟩ = some (.int .i32 z) := by
    obtain ⟨b', off', hy, hcl⟩ := R.cells.int (k := k) (by rw [R.len]; omega)
    simp only [Option.some.injEq, Addr.mk.injEq] at hy
    obtain ⟨rfl, rfl, _⟩ := hy
    rw [hz] at hcl
    exact hcl
  have Rt := R0.cut t ht
  have hwt : ∀ j, -2147483648 ≤ (l.take t).getD j 0 ∧ (l.take t).getD j 0 ≤ 2147483647 := fun j => by
    by_cases hj : j < t
    · have := hwf j
      rw [List.getD_eq_getElem?_getD, List.getElem?_take, if_pos hj, ← List.getD_eq_getElem?_getD]; exact this
    · rw [List.getD_eq_getElem?_getD, List.getElem?_take, if_neg hj]; decide
  have hcl2 : w.cell? ⟨b, off + (k + 1), none⟩ = some (.int .i32 y) := by
    obtain ⟨b', off', hy', hcl⟩ := R.cells.int (k := k + 1) (by rw [R.len]; omega)
    simp only [Option.some.injEq, Addr.mk.injEq] at hy'
    obtain ⟨rfl, rfl, _⟩ := hy'
    rw [hy] at hcl
    exact hcl
  have HCY := Lib.hid (fun (w' : World) (hb : Below (w.alloc rparB).heap.size (w.alloc rparB) w') => show w'.cell? ⟨b, off + (k + 1), none⟩ = some (.int .i32 y) from (((one_ok w rparB).trans (hb.mono (by simp))).cell (p := ⟨b, off + (k + 1), none⟩) hblt).trans hcl2)
  have e60 : (z == 60) = false := by simpa using h60
  subst hkf
  have H1 := Lib.hid (refSpaceB (W := w.alloc rparB) hs)
  have H2 := Lib.hid (refLeadB Rt k hq)
  subst h47
  have ey : (y == 62) = false := by simpa using h62
  clear hs hq hy
  have et : ((k : Int) + 2 == (t : Int)) = true := by simp; omega
  have et1 : ((k : Int) + 1 == (t : Int)) = false := by simp; omega
  have hb : Below (w.alloc rparB).heap.size (w.alloc rparB) (w.alloc rparB) := Below.refl _ _
  clear R R0 Rt hwf hwt hz
  go_enter Try.func103, Try.ntmps103
  go_wp2_with (first
    | (go_at_call 86; (with_reducible refine (H1.out _ hb).mono ?_); rintro e w1 ⟨rfl, hb1⟩; replace hb := hb1; clear hb1; obtain ⟨c1, c2⟩ := bcell hb; have hz0 : w.heap.size < w1.heap.size := (by have := hb.size; simp at this; omega); have hcl := HCL.out _ hb; have hcy := HCY.out _ hb)
    | (go_at_call 87; (with_reducible refine (H2.out _ hb).mono ?_); rintro e w1 ⟨rfl, hb1⟩; replace hb := hb1; clear hb1; obtain ⟨c1, c2⟩ := bcell hb; have hz0 : w.heap.size < w1.heap.size := (by have := hb.size; simp at this; omega); have hcl := HCL.out _ hb; have hcy := HCY.out _ hb))
  all_goals
    have y0 : w1.cell? ⟨w.heap.size, 0, none⟩ = some (.int .i64 0) := by simp [go_sem, c1]
    have y1 : w1.cell? ⟨w.heap.size, 1, none⟩ = some (.int .i64 0) := by simp [go_sem, c1]
    have y2 : w1.cell? ⟨w.heap.size, 2, none⟩ = some (.int .i64 0) := by simp [go_sem, c1]
    have HB2 := (one_ok w rparB).trans (hb.mono (by simp))
    refine bodyPost_ret (v := parI 7 k ((k : Int) + 1)) ?_ rfl ⟨rfl, ?_⟩
    · simp [results, Try.results103, go_sem, y0, y1, y2, parI] <;> omega
    · exact (((HB2.setCell (by simp) _).setCell (by simp) _).setCell (by simp) _)

end Go.Proofs.Ytblebkpnjeghoaa
