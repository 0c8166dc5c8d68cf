/-
  Contract of the reference's layer 8: a part, its ways.
-/
import Derived.Test.YtblebkpnjeghoaaRefB0
namespace Go.Proofs.Ytblebkpnjeghoaa
open Go.RowKit
set_option linter.unusedVariables false

set_option maxRecDepth 20000 in
set_option maxHeartbeats 2000000 in
theorem refPart_o2 {b off n cap : Nat} {l : List Int} {w : World} (R : RRow w b off n cap l) (hwf : ∀ j, -2147483648 ≤ l.getD j 0 ∧ l.getD j 0 ≤ 2147483647) (f k t : Nat) (hk : k < t) (ht : t ≤ n) (hn : n ≤ 1000) (hf : f ≤ 1000) (z : Int) (hz : l.getD k 0 = z) (hkf : k = f) (h60 : z = 60) (hs : sw sEo ((l.take t).drop k) = true) :
    Says 103 #[.slice (some ⟨b, off, none⟩) n cap, .int .i64 f, .int .i64 k, .int .i64 t] (parI 1 k ((k : Int) + 2)) w w := by
  have hm := R.max
  have hc := R.le
  unfold maxLen at hm
  have hblt : b < w.heap.size := by
    obtain ⟨b', off', hy, hcl⟩ := R.cells.int (k := k) (by rw [R.len]; omega)
    simp only [Option.some.injEq, Addr.mk.injEq] at hy
    obtain ⟨rfl, rfl, _⟩ := hy
    exact cell_lt hcl
  have hbn : ¬ b = w.heap.size := by omega
  have R0 := R.below (one_ok w rparB)
  have HCL := Lib.hid (fun (w' : World) (hb : Below (w.alloc rparB).heap.size (w.alloc rparB) w') => show w'.cell? ⟨b, off + k, none⟩ = some (.int .i32 z) from by
    obtain ⟨b', off', hy, hcl⟩ := (R0.cells.below hb).int (k := k) (by rw [R.len]; omega)
    simp only [Option.some.injEq, Addr.mk.injEq] at hy
    obtain ⟨rfl, rfl, _⟩ := hy
    rw [hz] at hcl
    exact hcl)
  have hcl : w.cell? ⟨b, off + k, none⟩ = some (.int .i32 z) := by
    obtain ⟨b', off', hy, hcl⟩ := R.cells.int (k := k) (by rw [R.len]; omega)
    simp only [Option.some.injEq, Addr.mk.injEq] at hy
    obtain ⟨rfl, rfl, _⟩ := hy
    rw [hz] at hcl
    exact hcl
  have Rt := R0.cut t ht
  have hwt : ∀ j, -2147483648 ≤ (l.take t).getD j 0 ∧ (l.take t).getD j 0 ≤ 2147483647 := fun j => by
    by_cases hj : j < t
    · have := hwf j
      rw [List.getD_eq_getElem?_getD, List.getElem?_take, if_pos hj, ← List.getD_eq_getElem?_getD]; exact this
    · rw [List.getD_eq_getElem?_getD, List.getElem?_take, if_neg hj]; decide
  have H1 := Lib.hid (refStartsB Rt hwt sEoS k (by omega) hs)
  subst h60
  subst hkf
  clear hs
  have hb : Below (w.alloc rparB).heap.size (w.alloc rparB) (w.alloc rparB) := Below.refl _ _
  clear R R0 Rt hwf hwt hz
  go_enter Try.func103, Try.ntmps103
  go_wp2_with (first
    | (go_at_call 52; (with_reducible refine (H1.out _ hb).mono ?_); rintro e w1 ⟨rfl, hb1⟩; replace hb := hb1; clear hb1; obtain ⟨c1, c2⟩ := bcell hb; have hz0 : w.heap.size < w1.heap.size := (by have := hb.size; simp at this; omega); have hcl := HCL.out _ hb))
  all_goals
    have y0 : w1.cell? ⟨w.heap.size, 0, none⟩ = some (.int .i64 0) := by simp [go_sem, c1]
    have y1 : w1.cell? ⟨w.heap.size, 1, none⟩ = some (.int .i64 0) := by simp [go_sem, c1]
    have y2 : w1.cell? ⟨w.heap.size, 2, none⟩ = some (.int .i64 0) := by simp [go_sem, c1]
    have HB2 := (one_ok w rparB).trans (hb.mono (by simp))
    refine bodyPost_ret (v := parI 1 k ((k : Int) + 2)) ?_ rfl ⟨rfl, ?_⟩
    · simp [results, Try.results103, go_sem, y0, y1, y2, parI] <;> omega
    · exact (((HB2.setCell (by simp) _).setCell (by simp) _).setCell (by simp) _)

set_option maxRecDepth 20000 in
set_option maxHeartbeats 2000000 in
theorem refPart_o1 {b off n cap : Nat} {l : List Int} {w : World} (R : RRow w b off n cap l) (hwf : ∀ j, -2147483648 ≤ l.getD j 0 ∧ l.getD j 0 ≤ 2147483647) (f k t : Nat) (hk : k < t) (ht : t ≤ n) (hn : n ≤ 1000) (hf : f ≤ 1000) (z : Int) (hz : l.getD k 0 = z) (hkf : k = f) (h60 : z = 60) (hs : sw sEo ((l.take t).drop k) = false) :
    Says 103 #[.slice (some ⟨b, off, none⟩) n cap, .int .i64 f, .int .i64 k, .int .i64 t] (parI 1 k ((k : Int) + 1)) w w := by
  have hm := R.max
  have hc := R.le
  unfold maxLen at hm
  have hblt : b < w.heap.size := by
    obtain ⟨b', off', hy, hcl⟩ := R.cells.int (k := k) (by rw [R.len]; omega)
    simp only [Option.some.injEq, Addr.mk.injEq] at hy
    obtain ⟨rfl, rfl, _⟩ := hy
    exact cell_lt hcl
  have hbn : ¬ b = w.heap.size := by omega
  have R0 := R.below (one_ok w rparB)
  have HCL := Lib.hid (fun (w' : World) (hb : Below (w.alloc rparB).heap.size (w.alloc rparB) w') => show w'.cell? ⟨b, off + k, none⟩ = some (.int .i32 z) from by
    obtain ⟨b', off', hy, hcl⟩ := (R0.cells.below hb).int (k := k) (by rw [R.len]; omega)
    simp only [Option.some.injEq, Addr.mk.injEq] at hy
    obtain ⟨rfl, rfl, _⟩ := hy
    rw [hz] at hcl
    exact hcl)
  have hcl : w.cell? ⟨b, off + k, none⟩ = some (.int .i32 z) := by
    obtain ⟨b', off', hy, hcl⟩ := R.cells.int (k := k) (by rw [R.len]; omega)
    simp only [Option.some.injEq, Addr.mk.injEq] at hy
    obtain ⟨rfl, rfl, _⟩ := hy
    rw [hz] at hcl
    exact hcl
  have Rt := R0.cut t ht
  have hwt : ∀ j, -2147483648 ≤ (l.take t).getD j 0 ∧ (l.take t).getD j 0 ≤ 2147483647 := fun j => by
    by_cases hj : j < t
    · have := hwf j
      rw [List.getD_eq_getElem?_getD, List.getElem?_take, if_pos hj, ← List.getD_eq_getElem?_getD]; exact this
    · rw [List.getD_eq_getElem?_getD, List.getElem?_take, if_neg hj]; decide
  have H1 := Lib.hid (refStartsB Rt hwt sEoS k (by omega) hs)
  subst h60
  subst hkf
  clear hs
  have hb : Below (w.alloc rparB).heap.size (w.alloc rparB) (w.alloc rparB) := Below.refl _ _
  clear R R0 Rt hwf hwt hz
  go_enter Try.func103, Try.ntmps103
  go_wp2_with (first
    | (go_at_call 52; (with_reducible refine (H1.out _ hb).mono ?_); rintro e w1 ⟨rfl, hb1⟩; replace hb := hb1; clear hb1; obtain ⟨c1, c2⟩ := bcell hb; have hz0 : w.heap.size < w1.heap.size := (by have := hb.size; simp at this; omega); have hcl := HCL.out _ hb))
  all_goals
    have y0 : w1.cell? ⟨w.heap.size, 0, none⟩ = some (.int .i64 0) := by simp [go_sem, c1]
    have y1 : w1.cell? ⟨w.heap.size, 1, none⟩ = some (.int .i64 0) := by simp [go_sem, c1]
    have y2 : w1.cell? ⟨w.heap.size, 2, none⟩ = some (.int .i64 0) := by simp [go_sem, c1]
    have HB2 := (one_ok w rparB).trans (hb.mono (by simp))
    refine bodyPost_ret (v := parI 1 k ((k : Int) + 1)) ?_ rfl ⟨rfl, ?_⟩
    · simp [results, Try.results103, go_sem, y0, y1, y2, parI] <;> omega
    · exact (((HB2.setCell (by simp) _).setCell (by simp) _).setCell (by simp) _)

set_option maxRecDepth 20000 in
set_option maxHeartbeats 2000000 in
theorem refPart_nmA {b off n cap : Nat} {l : List Int} {w : World} (R : RRow w b off n cap l) (hwf : ∀ j, -2147483648 ≤ l.getD j 0 ∧ l.getD j 0 ≤ 2147483647) (f k t : Nat) (hk : k < t) (ht : t ≤ n) (hn : n ≤ 1000) (hf : f ≤ 1000) (z : Int) (hz : l.getD k 0 = z) (hkf : ¬ k = f) (hs : spaceB z = false) (q : Nat) (hq : leadP ((l.take t).drop k) = q) (h0 : 0 < q) (hqt : k + q ≤ t) :
    Says 103 #[.slice (some ⟨b, off, none⟩) n cap, .int .i64 f, .int .i64 k, .int .i64 t] (parI 2 k ((k : Int) + q)) w w := by
  have hm := R.max
  have hc := R.le
  unfold maxLen at hm
  have hblt : b < w.heap.size := by
    obtain ⟨b', off', hy, hcl⟩ := R.cells.int (k := k) (by rw [R.len]; omega)
    simp only [Option.some.injEq, Addr.mk.injEq] at hy
    obtain ⟨rfl, rfl, _⟩ := hy
    exact cell_lt hcl
  have hbn : ¬ b = w.heap.size := by omega
  have R0 := R.below (one_ok w rparB)
  have HCL := Lib.hid (fun (w' : World) (hb : Below (w.alloc rparB).heap.size (w.alloc rparB) w') => show w'.cell? ⟨b, off + k, none⟩ = some (.int .i32 z) from by
    obtain ⟨b', off', hy, hcl⟩ := (R0.cells.below hb).int (k := k) (by rw [R.len]; omega)
    simp only [Option.some.injEq, Addr.mk.injEq] at hy
    obtain ⟨rfl, rfl, _⟩ := hy
    rw [hz] at hcl
    exact hcl)
  have hcl : w.cell? ⟨b, off + k, none⟩ = some (.int .i32 z) := by
    obtain ⟨b', off', hy, hcl⟩ := R.cells.int (k := k) (by rw [R.len]; omega)
    simp only [Option.some.injEq, Addr.mk.injEq] at hy
    obtain ⟨rfl, rfl, _⟩ := hy
    rw [hz] at hcl
    exact hcl
  have Rt := R0.cut t ht
  have hwt : ∀ j, -2147483648 ≤ (l.take t).getD j 0 ∧ (l.take t).getD j 0 ≤ 2147483647 := fun j => by
    by_cases hj : j < t
    · have := hwf j
      rw [List.getD_eq_getElem?_getD, List.getElem?_take, if_pos hj, ← List.getD_eq_getElem?_getD]; exact this
    · rw [List.getD_eq_getElem?_getD, List.getElem?_take, if_neg hj]; decide
  have e0 : ((k : Int) == f) = false := by simp; omega
  have H1 := Lib.hid (refSpaceB (W := w.alloc rparB) hs)
  have H2 := Lib.hid (refLeadB Rt k hq)
  have hq0 : (0 : Int) < q := by omega
  clear hs hq
  have hb : Below (w.alloc rparB).heap.size (w.alloc rparB) (w.alloc rparB) := Below.refl _ _
  clear R R0 Rt hwf hwt hz
  go_enter Try.func103, Try.ntmps103
  go_wp2_with (first
    | (go_at_call 86; (with_reducible refine (H1.out _ hb).mono ?_); rintro e w1 ⟨rfl, hb1⟩; replace hb := hb1; clear hb1; obtain ⟨c1, c2⟩ := bcell hb; have hz0 : w.heap.size < w1.heap.size := (by have := hb.size; simp at this; omega); have hcl := HCL.out _ hb)
    | (go_at_call 87; (with_reducible refine (H2.out _ hb).mono ?_); rintro e w1 ⟨rfl, hb1⟩; replace hb := hb1; clear hb1; obtain ⟨c1, c2⟩ := bcell hb; have hz0 : w.heap.size < w1.heap.size := (by have := hb.size; simp at this; omega); have hcl := HCL.out _ hb))
  all_goals
    have y0 : w1.cell? ⟨w.heap.size, 0, none⟩ = some (.int .i64 0) := by simp [go_sem, c1]
    have y1 : w1.cell? ⟨w.heap.size, 1, none⟩ = some (.int .i64 0) := by simp [go_sem, c1]
    have y2 : w1.cell? ⟨w.heap.size, 2, none⟩ = some (.int .i64 0) := by simp [go_sem, c1]
    have HB2 := (one_ok w rparB).trans (hb.mono (by simp))
    refine bodyPost_ret (v := parI 2 k ((k : Int) + q)) ?_ rfl ⟨rfl, ?_⟩
    · simp [results, Try.results103, go_sem, y0, y1, y2, parI] <;> omega
    · exact (((HB2.setCell (by simp) _).setCell (by simp) _).setCell (by simp) _)

set_option maxRecDepth 20000 in
set_option maxHeartbeats 2000000 in
theorem refPart_eqA {b off n cap : Nat} {l : List Int} {w : World} (R : RRow w b off n cap l) (hwf : ∀ j, -2147483648 ≤ l.getD j 0 ∧ l.getD j 0 ≤ 2147483647) (f k t : Nat) (hk : k < t) (ht : t ≤ n) (hn : n ≤ 1000) (hf : f ≤ 1000) (z : Int) (hz : l.getD k 0 = z) (hkf : ¬ k = f) (hs : spaceB z = false) (hq : leadP ((l.take t).drop k) = 0) (h61 : z = 61) :
    Says 103 #[.slice (some ⟨b, off, none⟩) n cap, .int .i64 f, .int .i64 k, .int .i64 t] (parI 4 k ((k : Int) + 1)) w w := by
  have hm := R.max
  have hc := R.le
  unfold maxLen at hm
  have hblt : b < w.heap.size := by
    obtain ⟨b', off', hy, hcl⟩ := R.cells.int (k := k) (by rw [R.len]; omega)
    simp only [Option.some.injEq, Addr.mk.injEq] at hy
    obtain ⟨rfl, rfl, _⟩ := hy
    exact cell_lt hcl
  have hbn : ¬ b = w.heap.size := by omega
  have R0 := R.below (one_ok w rparB)
  have HCL := Lib.hid (fun (w' : World) (hb : Below (w.alloc rparB).heap.size (w.alloc rparB) w') => show w'.cell? ⟨b, off + k, none⟩ = some (.int .i32 z) from by
    obtain ⟨b', off', hy, hcl⟩ := (R0.cells.below hb).int (k := k) (by rw [R.len]; omega)
    simp only [Option.some.injEq, Addr.mk.injEq] at hy
    obtain ⟨rfl, rfl, _⟩ := hy
    rw [hz] at hcl
    exact hcl)
  have hcl : w.cell? ⟨b, off + k, none⟩ = some (.int .i32 z) := by
    obtain ⟨b', off', hy, hcl⟩ := R.cells.int (k := k) (by rw [R.len]; omega)
    simp only [Option.some.injEq, Addr.mk.injEq] at hy
    obtain ⟨rfl, rfl, _⟩ := hy
    rw [hz] at hcl
    exact hcl
  have Rt := R0.cut t ht
  have hwt : ∀ j, -2147483648 ≤ (l.take t).getD j 0 ∧ (l.take t).getD j 0 ≤ 2147483647 := fun j => by
    by_cases hj : j < t
    · have := hwf j
      rw [List.getD_eq_getElem?_getD, List.getElem?_take, if_pos hj, ← List.getD_eq_getElem?_getD]; exact this
    · rw [List.getD_eq_getElem?_getD, List.getElem?_take, if_neg hj]; decide
  have e0 : ((k : Int) == f) = false := by simp; omega
  have H1 := Lib.hid (refSpaceB (W := w.alloc rparB) hs)
  have H2 := Lib.hid (refLeadB Rt k hq)
  subst h61
  clear hs hq
  have hb : Below (w.alloc rparB).heap.size (w.alloc rparB) (w.alloc rparB) := Below.refl _ _
  clear R R0 Rt hwf hwt hz
  go_enter Try.func103, Try.ntmps103
  go_wp2_with (first
    | (go_at_call 86; (with_reducible refine (H1.out _ hb).mono ?_); rintro e w1 ⟨rfl, hb1⟩; replace hb := hb1; clear hb1; obtain ⟨c1, c2⟩ := bcell hb; have hz0 : w.heap.size < w1.heap.size := (by have := hb.size; simp at this; omega); have hcl := HCL.out _ hb)
    | (go_at_call 87; (with_reducible refine (H2.out _ hb).mono ?_); rintro e w1 ⟨rfl, hb1⟩; replace hb := hb1; clear hb1; obtain ⟨c1, c2⟩ := bcell hb; have hz0 : w.heap.size < w1.heap.size := (by have := hb.size; simp at this; omega); have hcl := HCL.out _ hb))
  all_goals
    have y0 : w1.cell? ⟨w.heap.size, 0, none⟩ = some (.int .i64 0) := by simp [go_sem, c1]
    have y1 : w1.cell? ⟨w.heap.size, 1, none⟩ = some (.int .i64 0) := by simp [go_sem, c1]
    have y2 : w1.cell? ⟨w.heap.size, 2, none⟩ = some (.int .i64 0) := by simp [go_sem, c1]
    have HB2 := (one_ok w rparB).trans (hb.mono (by simp))
    refine bodyPost_ret (v := parI 4 k ((k : Int) + 1)) ?_ rfl ⟨rfl, ?_⟩
    · simp [results, Try.results103, go_sem, y0, y1, y2, parI] <;> omega
    · exact (((HB2.setCell (by simp) _).setCell (by simp) _).setCell (by simp) _)

set_option maxRecDepth 20000 in
set_option maxHeartbeats 2000000 in
theorem refPart_qd1A {b off n cap : Nat} {l : List Int} {w : World} (R : RRow w b off n cap l) (hwf : ∀ j, -2147483648 ≤ l.getD j 0 ∧ l.getD j 0 ≤ 2147483647) (f k t : Nat) (hk : k < t) (ht : t ≤ n) (hn : n ≤ 1000) (hf : f ≤ 1000) (z : Int) (hz : l.getD k 0 = z) (hkf : ¬ k = f) (hs : spaceB z = false) (hq : leadP ((l.take t).drop k) = 0) (hz2 : z = 34) (q : Nat) (ho : fnd [34] ((l.take t).drop (k + 1)) = some q) (hqt : k + q + 2 ≤ t) :
    Says 103 #[.slice (some ⟨b, off, none⟩) n cap, .int .i64 f, .int .i64 k, .int .i64 t] (parI 5 k ((k : Int) + q + 2)) w w := by
  have hm := R.max
  have hc := R.le
  unfold maxLen at hm
  have hblt : b < w.heap.size := by
    obtain ⟨b', off', hy, hcl⟩ := R.cells.int (k := k) (by rw [R.len]; omega)
    simp only [Option.some.injEq, Addr.mk.injEq] at hy
    obtain ⟨rfl, rfl, _⟩ := hy
    exact cell_lt hcl
  have hbn : ¬ b = w.heap.size := by omega
  have R0 := R.below (one_ok w rparB)
  have HCL := Lib.hid (fun (w' : World) (hb : Below (w.alloc rparB).heap.size (w.alloc rparB) w') => show w'.cell? ⟨b, off + k, none⟩ = some (.int .i32 z) from by
    obtain ⟨b', off', hy, hcl⟩ := (R0.cells.below hb).int (k := k) (by rw [R.len]; omega)
    simp only [Option.some.injEq, Addr.mk.injEq] at hy
    obtain ⟨rfl, rfl, _⟩ := hy
    rw [hz] at hcl
    exact hcl)
  have hcl : w.cell? ⟨b, off + k, none⟩ = some (.int .i32 z) := by
    obtain ⟨b', off', hy, hcl⟩ := R.cells.int (k := k) (by rw [R.len]; omega)
    simp only [Option.some.injEq, Addr.mk.injEq] at hy
    obtain ⟨rfl, rfl, _⟩ := hy
    rw [hz] at hcl
    exact hcl
  have Rt := R0.cut t ht
  have hwt : ∀ j, -2147483648 ≤ (l.take t).getD j 0 ∧ (l.take t).getD j 0 ≤ 2147483647 := fun j => by
    by_cases hj : j < t
    · have := hwf j
      rw [List.getD_eq_getElem?_getD, List.getElem?_take, if_pos hj, ← List.getD_eq_getElem?_getD]; exact this
    · rw [List.getD_eq_getElem?_getD, List.getElem?_take, if_neg hj]; decide
  have H3 := Lib.hid (quotedB R0 k t hk ht 34 (hz.trans hz2) ho)
  have e0 : ((k : Int) == f) = false := by simp; omega
  have H1 := Lib.hid (refSpaceB (W := w.alloc rparB) hs)
  have H2 := Lib.hid (refLeadB Rt k hq)
  unfold quoV at H3
  simp only [] at H3
  subst hz2
  clear hs hq ho
  have hb : Below (w.alloc rparB).heap.size (w.alloc rparB) (w.alloc rparB) := Below.refl _ _
  clear R R0 Rt hwf hwt hz
  go_enter Try.func103, Try.ntmps103
  go_wp2_with (first
    | (go_at_call 86; (with_reducible refine (H1.out _ hb).mono ?_); rintro e w1 ⟨rfl, hb1⟩; replace hb := hb1; clear hb1; obtain ⟨c1, c2⟩ := bcell hb; have hz0 : w.heap.size < w1.heap.size := (by have := hb.size; simp at this; omega); have hcl := HCL.out _ hb)
    | (go_at_call 87; (with_reducible refine (H2.out _ hb).mono ?_); rintro e w1 ⟨rfl, hb1⟩; replace hb := hb1; clear hb1; obtain ⟨c1, c2⟩ := bcell hb; have hz0 : w.heap.size < w1.heap.size := (by have := hb.size; simp at this; omega); have hcl := HCL.out _ hb)
    | (go_at_call 120; (with_reducible refine (H3.out _ hb).mono ?_); rintro e w1 ⟨rfl, hb1⟩; replace hb := hb1; clear hb1; obtain ⟨c1, c2⟩ := bcell hb; have hz0 : w.heap.size < w1.heap.size := (by have := hb.size; simp at this; omega); have hcl := HCL.out _ hb))
  all_goals
    have y0 : w1.cell? ⟨w.heap.size, 0, none⟩ = some (.int .i64 0) := by simp [go_sem, c1]
    have y1 : w1.cell? ⟨w.heap.size, 1, none⟩ = some (.int .i64 0) := by simp [go_sem, c1]
    have y2 : w1.cell? ⟨w.heap.size, 2, none⟩ = some (.int .i64 0) := by simp [go_sem, c1]
    have HB2 := (one_ok w rparB).trans (hb.mono (by simp))
    refine bodyPost_ret (v := parI 5 k ((k : Int) + q + 2)) ?_ rfl ⟨rfl, ?_⟩
    · simp [results, Try.results103, go_sem, y0, y1, y2, parI] <;> omega
    · exact (((HB2.setCell (by simp) _).setCell (by simp) _).setCell (by simp) _)

set_option maxRecDepth 20000 in
set_option maxHeartbeats 2000000 in
theorem refPart_qd0A {b off n cap : Nat} {l : List Int} {w : World} (R : RRow w b off n cap l) (hwf : ∀ j, -2147483648 ≤ l.getD j 0 ∧ l.getD j 0 ≤ 2147483647) (f k t : Nat) (hk : k < t) (ht : t ≤ n) (hn : n ≤ 1000) (hf : f ≤ 1000) (z : Int) (hz : l.getD k 0 = z) (hkf : ¬ k = f) (hs : spaceB z = false) (hq : leadP ((l.take t).drop k) = 0) (hz2 : z = 34) (ho : fnd [34] ((l.take t).drop (k + 1)) = none) :
    Says 103 #[.slice (some ⟨b, off, none⟩) n cap, .int .i64 f, .int .i64 k, .int .i64 t] (parI 7 k ((k : Int) + 1)) w w := by
  have hm := R.max
  have hc := R.le
  unfold maxLen at hm
  have hblt : b < w.heap.size := by
    obtain ⟨b', off', hy, hcl⟩ := R.cells.int (k := k) (by rw [R.len]; omega)
    simp only [Option.some.injEq, Addr.mk.injEq] at hy
    obtain ⟨rfl, rfl, _⟩ := hy
    exact cell_lt hcl
  have hbn : ¬ b = w.heap.size := by omega
  have R0 := R.below (one_ok w rparB)
  have HCL := Lib.hid (fun (w' : World) (hb : Below (w.alloc rparB).heap.size (w.alloc rparB) w') => show w'.cell? ⟨b, off + k, none⟩ = some (.int .i32 z) from by
    obtain ⟨b', off', hy, hcl⟩ := (R0.cells.below hb).int (k := k) (by rw [R.len]; omega)
    simp only [Option.some.injEq, Addr.mk.injEq] at hy
    obtain ⟨rfl, rfl, _⟩ := hy
    rw [hz] at hcl
    exact hcl)
  have hcl : w.cell? ⟨b, off + k, none⟩ = some (.int .i32 z) := by
    obtain ⟨b', off', hy, hcl⟩ := R.cells.int (k := k) (by rw [R.len]; omega)
    simp only [Option.some.injEq, Addr.mk.injEq] at hy
    obtain ⟨rfl, rfl, _⟩ := hy
    rw [hz] at hcl
    exact hcl
  have Rt := R0.cut t ht
  have hwt : ∀ j, -2147483648 ≤ (l.take t).getD j 0 ∧ (l.take t).getD j 0 ≤ 2147483647 := fun j => by
    by_cases hj : j < t
    · have := hwf j
      rw [List.getD_eq_getElem?_getD, List.getElem?_take, if_pos hj, ← List.getD_eq_getElem?_getD]; exact this
    · rw [List.getD_eq_getElem?_getD, List.getElem?_take, if_neg hj]; decide
  have H3 := Lib.hid (quotedB R0 k t hk ht 34 (hz.trans hz2) ho)
  have e0 : ((k : Int) == f) = false := by simp; omega
  have H1 := Lib.hid (refSpaceB (W := w.alloc rparB) hs)
  have H2 := Lib.hid (refLeadB Rt k hq)
  unfold quoV at H3
  simp only [] at H3
  subst hz2
  clear hs hq ho
  have hb : Below (w.alloc rparB).heap.size (w.alloc rparB) (w.alloc rparB) := Below.refl _ _
  clear R R0 Rt hwf hwt hz
  go_enter Try.func103, Try.ntmps103
  go_wp2_with (first
    | (go_at_call 86; (with_reducible refine (H1.out _ hb).mono ?_); rintro e w1 ⟨rfl, hb1⟩; replace hb := hb1; clear hb1; obtain ⟨c1, c2⟩ := bcell hb; have hz0 : w.heap.size < w1.heap.size := (by have := hb.size; simp at this; omega); have hcl := HCL.out _ hb)
    | (go_at_call 87; (with_reducible refine (H2.out _ hb).mono ?_); rintro e w1 ⟨rfl, hb1⟩; replace hb := hb1; clear hb1; obtain ⟨c1, c2⟩ := bcell hb; have hz0 : w.heap.size < w1.heap.size := (by have := hb.size; simp at this; omega); have hcl := HCL.out _ hb)
    | (go_at_call 120; (with_reducible refine (H3.out _ hb).mono ?_); rintro e w1 ⟨rfl, hb1⟩; replace hb := hb1; clear hb1; obtain ⟨c1, c2⟩ := bcell hb; have hz0 : w.heap.size < w1.heap.size := (by have := hb.size; simp at this; omega); have hcl := HCL.out _ hb))
  all_goals
    have y0 : w1.cell? ⟨w.heap.size, 0, none⟩ = some (.int .i64 0) := by simp [go_sem, c1]
    have y1 : w1.cell? ⟨w.heap.size, 1, none⟩ = some (.int .i64 0) := by simp [go_sem, c1]
    have y2 : w1.cell? ⟨w.heap.size, 2, none⟩ = some (.int .i64 0) := by simp [go_sem, c1]
    have HB2 := (one_ok w rparB).trans (hb.mono (by simp))
    refine bodyPost_ret (v := parI 7 k ((k : Int) + 1)) ?_ rfl ⟨rfl, ?_⟩
    · simp [results, Try.results103, go_sem, y0, y1, y2, parI] <;> omega
    · exact (((HB2.setCell (by simp) _).setCell (by simp) _).setCell (by simp) _)

set_option maxRecDepth 20000 in
set_option maxHeartbeats 2000000 in
theorem refPart_qs1A {b off n cap : Nat} {l : List Int} {w : World} (R : RRow w b off n cap l) (hwf : ∀ j, -2147483648 ≤ l.getD j 0 ∧ l.getD j 0 ≤ 2147483647) (f k t : Nat) (hk : k < t) (ht : t ≤ n) (hn : n ≤ 1000) (hf : f ≤ 1000) (z : Int) (hz : l.getD k 0 = z) (hkf : ¬ k = f) (hs : spaceB z = false) (hq : leadP ((l.take t).drop k) = 0) (hz2 : z = 39) (q : Nat) (ho : fnd [39] ((l.take t).drop (k + 1)) = some q) (hqt : k + q + 2 ≤ t) :
    Says 103 #[.slice (some ⟨b, off, none⟩) n cap, .int .i64 f, .int .i64 k, .int .i64 t] (parI 5 k ((k : Int) + q + 2)) w w := by
  have hm := R.max
  have hc := R.le
  unfold maxLen at hm
  have hblt : b < w.heap.size := by
    obtain ⟨b', off', hy, hcl⟩ := R.cells.int (k := k) (by rw [R.len]; omega)
    simp only [Option.some.injEq, Addr.mk.injEq] at hy
    obtain ⟨rfl, rfl, _⟩ := hy
    exact cell_lt hcl
  have hbn : ¬ b = w.heap.size := by omega
  have R0 := R.below (one_ok w rparB)
  have HCL := Lib.hid (fun (w' : World) (hb : Below (w.alloc rparB).heap.size (w.alloc rparB) w') => show w'.cell? ⟨b, off + k, none⟩ = some (.int .i32 z) from by
    obtain ⟨b', off', hy, hcl⟩ := (R0.cells.below hb).int (k := k) (by rw [R.len]; omega)
    simp only [Option.some.injEq, Addr.mk.injEq] at hy
    obtain ⟨rfl, rfl, _⟩ := hy
    rw [hz] at hcl
    exact hcl)
  have hcl : w.cell? ⟨b, off + k, none⟩ = some (.int .i32 z) := by
    obtain ⟨b', off', hy, hcl⟩ := R.cells.int (k := k) (by rw [R.len]; omega)
    simp only [Option.some.injEq, Addr.mk.injEq] at hy
    obtain ⟨rfl, rfl, _⟩ := hy
    rw [hz] at hcl
    exact hcl
  have Rt := R0.cut t ht
  have hwt : ∀ j, -2147483648 ≤ (l.take t).getD j 0 ∧ (l.take t).getD j 0 ≤ 2147483647 := fun j => by
    by_cases hj : j < t
    · have := hwf j
      rw [List.getD_eq_getElem?_getD, List.getElem?_take, if_pos hj, ← List.getD_eq_getElem?_getD]; exact this
    · rw [List.getD_eq_getElem?_getD, List.getElem?_take, if_neg hj]; decide
  have H3 := Lib.hid (quotedB R0 k t hk ht 39 (hz.trans hz2) ho)
  have e0 : ((k : Int) == f) = false := by simp; omega
  have H1 := Lib.hid (refSpaceB (W := w.alloc rparB) hs)
  have H2 := Lib.hid (refLeadB Rt k hq)
  unfold quoV at H3
  simp only [] at H3
  subst hz2
  clear hs hq ho
  have hb : Below (w.alloc rparB).heap.size (w.alloc rparB) (w.alloc rparB) := Below.refl _ _
  clear R R0 Rt hwf hwt hz
  go_enter Try.func103, Try.ntmps103
  go_wp2_with (first
    | (go_at_call 86; (with_reducible refine (H1.out _ hb).mono ?_); rintro e w1 ⟨rfl, hb1⟩; replace hb := hb1; clear hb1; obtain ⟨c1, c2⟩ := bcell hb; have hz0 : w.heap.size < w1.heap.size := (by have := hb.size; simp at this; omega); have hcl := HCL.out _ hb)
    | (go_at_call 87; (with_reducible refine (H2.out _ hb).mono ?_); rintro e w1 ⟨rfl, hb1⟩; replace hb := hb1; clear hb1; obtain ⟨c1, c2⟩ := bcell hb; have hz0 : w.heap.size < w1.heap.size := (by have := hb.size; simp at this; omega); have hcl := HCL.out _ hb)
    | (go_at_call 120; (with_reducible refine (H3.out _ hb).mono ?_); rintro e w1 ⟨rfl, hb1⟩; replace hb := hb1; clear hb1; obtain ⟨c1, c2⟩ := bcell hb; have hz0 : w.heap.size < w1.heap.size := (by have := hb.size; simp at this; omega); have hcl := HCL.out _ hb))
  all_goals
    have y0 : w1.cell? ⟨w.heap.size, 0, none⟩ = some (.int .i64 0) := by simp [go_sem, c1]
    have y1 : w1.cell? ⟨w.heap.size, 1, none⟩ = some (.int .i64 0) := by simp [go_sem, c1]
    have y2 : w1.cell? ⟨w.heap.size, 2, none⟩ = some (.int .i64 0) := by simp [go_sem, c1]
    have HB2 := (one_ok w rparB).trans (hb.mono (by simp))
    refine bodyPost_ret (v := parI 5 k ((k : Int) + q + 2)) ?_ rfl ⟨rfl, ?_⟩
    · simp [results, Try.results103, go_sem, y0, y1, y2, parI] <;> omega
    · exact (((HB2.setCell (by simp) _).setCell (by simp) _).setCell (by simp) _)

set_option maxRecDepth 20000 in
set_option maxHeartbeats 2000000 in
theorem refPart_qs0A {b off n cap : Nat} {l : List Int} {w : World} (R : RRow w b off n cap l) (hwf : ∀ j, -2147483648 ≤ l.getD j 0 ∧ l.getD j 0 ≤ 2147483647) (f k t : Nat) (hk : k < t) (ht : t ≤ n) (hn : n ≤ 1000) (hf : f ≤ 1000) (z : Int) (hz : l.getD k 0 = z) (hkf : ¬ k = f) (hs : spaceB z = false) (hq : leadP ((l.take t).drop k) = 0) (hz2 : z = 39) (ho : fnd [39] ((l.take t).drop (k + 1)) = none) :
    Says 103 #[.slice (some ⟨b, off, none⟩) n cap, .int .i64 f, .int .i64 k, .int .i64 t] (parI 7 k ((k : Int) + 1)) w w := by
  have hm := R.max
  have hc := R.le
  unfold maxLen at hm
  have hblt : b < w.heap.size := by
    obtain ⟨b', off', hy, hcl⟩ := R.cells.int (k := k) (by rw [R.len]; omega)
    simp only [Option.some.injEq, Addr.mk.injEq] at hy
    obtain ⟨rfl, rfl, _⟩ := hy
    exact cell_lt hcl
  have hbn : ¬ b = w.heap.size := by omega
  have R0 := R.below (one_ok w rparB)
  have HCL := Lib.hid (fun (w' : World) (hb : Below (w.alloc rparB).heap.size (w.alloc rparB) w') => show w'.cell? ⟨b, off + k, none⟩ = some (.int .i32 z) from by
    obtain ⟨b', off', hy, hcl⟩ := (R0.cells.below hb).int (k := k) (by rw [R.len]; omega)
    simp only [Option.some.injEq, Addr.mk.injEq] at hy
    obtain ⟨rfl, rfl, _⟩ := hy
    rw [hz] at hcl
    exact hcl)
  have hcl : w.cell? ⟨b, off + k, none⟩ = some (.int .i32 z) := by
    obtain ⟨b', off', hy, hcl⟩ := R.cells.int (k := k) (by rw [R.len]; omega)
    simp only [Option.some.injEq, Addr.mk.injEq] at hy
    obtain ⟨rfl, rfl, _⟩ := hy
    rw [hz] at hcl
    exact hcl
  have Rt := R0.cut t ht
  have hwt : ∀ j, -2147483648 ≤ (l.take t).getD j 0 ∧ (l.take t).getD j 0 ≤ 2147483647 := fun j => by
    by_cases hj : j < t
    · have := hwf j
      rw [List.getD_eq_getElem?_getD, List.getElem?_take, if_pos hj, ← List.getD_eq_getElem?_getD]; exact this
    · rw [List.getD_eq_getElem?_getD, List.getElem?_take, if_neg hj]; decide
  have H3 := Lib.hid (quotedB R0 k t hk ht 39 (hz.trans hz2) ho)
  have e0 : ((k : Int) == f) = false := by simp; omega
  have H1 := Lib.hid (refSpaceB (W := w.alloc rparB) hs)
  have H2 := Lib.hid (refLeadB Rt k hq)
  unfold quoV at H3
  simp only [] at H3
  subst hz2
  clear hs hq ho
  have hb : Below (w.alloc rparB).heap.size (w.alloc rparB) (w.alloc rparB) := Below.refl _ _
  clear R R0 Rt hwf hwt hz
  go_enter Try.func103, Try.ntmps103
  go_wp2_with (first
    | (go_at_call 86; (with_reducible refine (H1.out _ hb).mono ?_); rintro e w1 ⟨rfl, hb1⟩; replace hb := hb1; clear hb1; obtain ⟨c1, c2⟩ := bcell hb; have hz0 : w.heap.size < w1.heap.size := (by have := hb.size; simp at this; omega); have hcl := HCL.out _ hb)
    | (go_at_call 87; (with_reducible refine (H2.out _ hb).mono ?_); rintro e w1 ⟨rfl, hb1⟩; replace hb := hb1; clear hb1; obtain ⟨c1, c2⟩ := bcell hb; have hz0 : w.heap.size < w1.heap.size := (by have := hb.size; simp at this; omega); have hcl := HCL.out _ hb)
    | (go_at_call 120; (with_reducible refine (H3.out _ hb).mono ?_); rintro e w1 ⟨rfl, hb1⟩; replace hb := hb1; clear hb1; obtain ⟨c1, c2⟩ := bcell hb; have hz0 : w.heap.size < w1.heap.size := (by have := hb.size; simp at this; omega); have hcl := HCL.out _ hb))
  all_goals
    have y0 : w1.cell? ⟨w.heap.size, 0, none⟩ = some (.int .i64 0) := by simp [go_sem, c1]
    have y1 : w1.cell? ⟨w.heap.size, 1, none⟩ = some (.int .i64 0) := by simp [go_sem, c1]
    have y2 : w1.cell? ⟨w.heap.size, 2, none⟩ = some (.int .i64 0) := by simp [go_sem, c1]
    have HB2 := (one_ok w rparB).trans (hb.mono (by simp))
    refine bodyPost_ret (v := parI 7 k ((k : Int) + 1)) ?_ rfl ⟨rfl, ?_⟩
    · simp [results, Try.results103, go_sem, y0, y1, y2, parI] <;> omega
    · exact (((HB2.setCell (by simp) _).setCell (by simp) _).setCell (by simp) _)

set_option maxRecDepth 20000 in
set_option maxHeartbeats 2000000 in
theorem refPart_c1A {b off n cap : Nat} {l : List Int} {w : World} (R : RRow w b off n cap l) (hwf : ∀ j, -2147483648 ≤ l.getD j 0 ∧ l.getD j 0 ≤ 2147483647) (f k t : Nat) (hk : k < t) (ht : t ≤ n) (hn : n ≤ 1000) (hf : f ≤ 1000) (z : Int) (hz : l.getD k 0 = z) (hkf : ¬ k = f) (hs : spaceB z = false) (hq : leadP ((l.take t).drop k) = 0) (h62 : z = 62) (hkt : k + 1 = t) :
    Says 103 #[.slice (some ⟨b, off, none⟩) n cap, .int .i64 f, .int .i64 k, .int .i64 t] (parI 6 k (t)) w w := by
  have hm := R.max
  have hc := R.le
  unfold maxLen at hm
  have hblt : b < w.heap.size := by
    obtain ⟨b', off', hy, hcl⟩ := R.cells.int (k := k) (by rw [R.len]; omega)
    simp only [Option.some.injEq, Addr.mk.injEq] at hy
    obtain ⟨rfl, rfl, _⟩ := hy
    exact cell_lt hcl
  have hbn : ¬ b = w.heap.size := by omega
  have R0 := R.below (one_ok w rparB)
  have HCL := Lib.hid (fun (w' : World) (hb : Below (w.alloc rparB).heap.size (w.alloc rparB) w') => show w'.cell? ⟨b, off + k, none⟩ = some (.int .i32 z) from by
    obtain ⟨b', off', hy, hcl⟩ := (R0.cells.below hb).int (k := k) (by rw [R.len]; omega)
    simp only [Option.some.injEq, Addr.mk.injEq] at hy
    obtain ⟨rfl, rfl, _⟩ := hy
    rw [hz] at hcl
    exact hcl)
  have hcl : w.cell? ⟨b, off + k, none⟩ = some (.int .i32 z) := by
    obtain ⟨b', off', hy, hcl⟩ := R.cells.int (k := k) (by rw [R.len]; omega)
    simp only [Option.some.injEq, Addr.mk.injEq] at hy
    obtain ⟨rfl, rfl, _⟩ := hy
    rw [hz] at hcl
    exact hcl
  have Rt := R0.cut t ht
  have hwt : ∀ j, -2147483648 ≤ (l.take t).getD j 0 ∧ (l.take t).getD j 0 ≤ 2147483647 := fun j => by
    by_cases hj : j < t
    · have := hwf j
      rw [List.getD_eq_getElem?_getD, List.getElem?_take, if_pos hj, ← List.getD_eq_getElem?_getD]; exact this
    · rw [List.getD_eq_getElem?_getD, List.getElem?_take, if_neg hj]; decide
  have e0 : ((k : Int) == f) = false := by simp; omega
  have H1 := Lib.hid (refSpaceB (W := w.alloc rparB) hs)
  have H2 := Lib.hid (refLeadB Rt k hq)
  subst h62
  clear hs hq
  have et : ((k : Int) + 1 == (t : Int)) = true := by simp; omega
  have hb : Below (w.alloc rparB).heap.size (w.alloc rparB) (w.alloc rparB) := Below.refl _ _
  clear R R0 Rt hwf hwt hz
  go_enter Try.func103, Try.ntmps103
  go_wp2_with (first
    | (go_at_call 86; (with_reducible refine (H1.out _ hb).mono ?_); rintro e w1 ⟨rfl, hb1⟩; replace hb := hb1; clear hb1; obtain ⟨c1, c2⟩ := bcell hb; have hz0 : w.heap.size < w1.heap.size := (by have := hb.size; simp at this; omega); have hcl := HCL.out _ hb)
    | (go_at_call 87; (with_reducible refine (H2.out _ hb).mono ?_); rintro e w1 ⟨rfl, hb1⟩; replace hb := hb1; clear hb1; obtain ⟨c1, c2⟩ := bcell hb; have hz0 : w.heap.size < w1.heap.size := (by have := hb.size; simp at this; omega); have hcl := HCL.out _ hb))
  all_goals
    have y0 : w1.cell? ⟨w.heap.size, 0, none⟩ = some (.int .i64 0) := by simp [go_sem, c1]
    have y1 : w1.cell? ⟨w.heap.size, 1, none⟩ = some (.int .i64 0) := by simp [go_sem, c1]
    have y2 : w1.cell? ⟨w.heap.size, 2, none⟩ = some (.int .i64 0) := by simp [go_sem, c1]
    have HB2 := (one_ok w rparB).trans (hb.mono (by simp))
    refine bodyPost_ret (v := parI 6 k (t)) ?_ rfl ⟨rfl, ?_⟩
    · simp [results, Try.results103, go_sem, y0, y1, y2, parI] <;> omega
    · exact (((HB2.setCell (by simp) _).setCell (by simp) _).setCell (by simp) _)

set_option maxRecDepth 20000 in
set_option maxHeartbeats 2000000 in
theorem refPart_jA {b off n cap : Nat} {l : List Int} {w : World} (R : RRow w b off n cap l) (hwf : ∀ j, -2147483648 ≤ l.getD j 0 ∧ l.getD j 0 ≤ 2147483647) (f k t : Nat) (hk : k < t) (ht : t ≤ n) (hn : n ≤ 1000) (hf : f ≤ 1000) (z : Int) (hz : l.getD k 0 = z) (hkf : ¬ k = f) (hs : spaceB z = false) (hq : leadP ((l.take t).drop k) = 0) (h61 : ¬ z = 61) (h34 : ¬ z = 34) (h39 : ¬ z = 39) (h62 : ¬ z = 62) (h47 : ¬ z = 47) :
    Says 103 #[.slice (some ⟨b, off, none⟩) n cap, .int .i64 f, .int .i64 k, .int .i64 t] (parI 7 k ((k : Int) + 1)) w w := by
  have hm := R.max
  have hc := R.le
  unfold maxLen at hm
  have hblt : b < w.heap.size := by
    obtain ⟨b', off', hy, hcl⟩ := R.cells.int (k := k) (by rw [R.len]; omega)
    simp only [Option.some.injEq, Addr.mk.injEq] at hy
    obtain ⟨rfl, rfl, _⟩ := hy
    exact cell_lt hcl
  have hbn : ¬ b = w.heap.size := by omega
  have R0 := R.below (one_ok w rparB)
  have HCL := Lib.hid (fun (w' : World) (hb : Below (w.alloc rparB).heap.size (w.alloc rparB) w') => show w'.cell? ⟨b, off + k, none⟩ = some (.int .i32 z) from by
    obtain ⟨b', off', hy, hcl⟩ := (R0.cells.below hb).int (k := k) (by rw [R.len]; omega)
    simp only [Option.some.injEq, Addr.mk.injEq] at hy
    obtain ⟨rfl, rfl, _⟩ := hy
    rw [hz] at hcl
    exact hcl)
  have hcl : w.cell? ⟨b, off + k, none⟩ = some (.int .i32 z) := by
    obtain ⟨b', off', hy, hcl⟩ := R.cells.int (k := k) (by rw [R.len]; omega)
    simp only [Option.some.injEq, Addr.mk.injEq] at hy
    obtain ⟨rfl, rfl, _⟩ := hy
    rw [hz] at hcl
    exact hcl
  have Rt := R0.cut t ht
  have hwt : ∀ j, -2147483648 ≤ (l.take t).getD j 0 ∧ (l.take t).getD j 0 ≤ 2147483647 := fun j => by
    by_cases hj : j < t
    · have := hwf j
      rw [List.getD_eq_getElem?_getD, List.getElem?_take, if_pos hj, ← List.getD_eq_getElem?_getD]; exact this
    · rw [List.getD_eq_getElem?_getD, List.getElem?_take, if_neg hj]; decide
  have e0 : ((k : Int) == f) = false := by simp; omega
  have H1 := Lib.hid (refSpaceB (W := w.alloc rparB) hs)
  have H2 := Lib.hid (refLeadB Rt k hq)
  have e61 : (z == 61) = false := by simpa using h61
  have e34 : (z == 34) = false := by simpa using h34
  have e39 : (z == 39) = false := by simpa using h39
  have e62 : (z == 62) = false := by simpa using h62
  have e47 : (z == 47) = false := by simpa using h47
  clear hs hq
  have hb : Below (w.alloc rparB).heap.size (w.alloc rparB) (w.alloc rparB) := Below.refl _ _
  clear R R0 Rt hwf hwt hz
  go_enter Try.func103, Try.ntmps103
  go_wp2_with (first
    | (go_at_call 86; (with_reducible refine (H1.out _ hb).mono ?_); rintro e w1 ⟨rfl, hb1⟩; replace hb := hb1; clear hb1; obtain ⟨c1, c2⟩ := bcell hb; have hz0 : w.heap.size < w1.heap.size := (by have := hb.size; simp at this; omega); have hcl := HCL.out _ hb)
    | (go_at_call 87; (with_reducible refine (H2.out _ hb).mono ?_); rintro e w1 ⟨rfl, hb1⟩; replace hb := hb1; clear hb1; obtain ⟨c1, c2⟩ := bcell hb; have hz0 : w.heap.size < w1.heap.size := (by have := hb.size; simp at this; omega); have hcl := HCL.out _ hb))
  all_goals
    have y0 : w1.cell? ⟨w.heap.size, 0, none⟩ = some (.int .i64 0) := by simp [go_sem, c1]
    have y1 : w1.cell? ⟨w.heap.size, 1, none⟩ = some (.int .i64 0) := by simp [go_sem, c1]
    have y2 : w1.cell? ⟨w.heap.size, 2, none⟩ = some (.int .i64 0) := by simp [go_sem, c1]
    have HB2 := (one_ok w rparB).trans (hb.mono (by simp))
    refine bodyPost_ret (v := parI 7 k ((k : Int) + 1)) ?_ rfl ⟨rfl, ?_⟩
    · simp [results, Try.results103, go_sem, y0, y1, y2, parI] <;> omega
    · exact (((HB2.setCell (by simp) _).setCell (by simp) _).setCell (by simp) _)

set_option maxRecDepth 20000 in
set_option maxHeartbeats 2000000 in
theorem refPart_nmB {b off n cap : Nat} {l : List Int} {w : World} (R : RRow w b off n cap l) (hwf : ∀ j, -2147483648 ≤ l.getD j 0 ∧ l.getD j 0 ≤ 2147483647) (f k t : Nat) (hk : k < t) (ht : t ≤ n) (hn : n ≤ 1000) (hf : f ≤ 1000) (z : Int) (hz : l.getD k 0 = z) (hkf : k = f) (h60 : ¬ z = 60) (hs : spaceB z = false) (q : Nat) (hq : leadP ((l.take t).drop k) = q) (h0 : 0 < q) (hqt : k + q ≤ t) :
    Says 103 #[.slice (some ⟨b, off, none⟩) n cap, .int .i64 f, .int .i64 k, .int .i64 t] (parI 2 k ((k : Int) + q)) w w := by
  have hm := R.max
  have hc := R.le
  unfold maxLen at hm
  have hblt : b < w.heap.size := by
    obtain ⟨b', off', hy, hcl⟩ := R.cells.int (k := k) (by rw [R.len]; omega)
    simp only [Option.some.injEq, Addr.mk.injEq] at hy
    obtain ⟨rfl, rfl, _⟩ := hy
    exact cell_lt hcl
  have hbn : ¬ b = w.heap.size := by omega
  have R0 := R.below (one_ok w rparB)
  have HCL := Lib.hid (fun (w' : World) (hb : Below (w.alloc rparB).heap.size (w.alloc rparB) w') => show w'.cell? ⟨b, off + k, none⟩ = some (.int .i32 z) from by
    obtain ⟨b', off', hy, hcl⟩ := (R0.cells.below hb).int (k := k) (by rw [R.len]; omega)
    simp only [Option.some.injEq, Addr.mk.injEq] at hy
    obtain ⟨rfl, rfl, _⟩ := hy
    rw [hz] at hcl
    exact hcl)
  have hcl : w.cell? ⟨b, off + k, none⟩ = some (.int .i32 z) := by
    obtain ⟨b', off', hy, hcl⟩ := R.cells.int (k := k) (by rw [R.len]; omega)
    simp only [Option.some.injEq, Addr.mk.injEq] at hy
    obtain ⟨rfl, rfl, _⟩ := hy
    rw [hz] at hcl
    exact hcl
  have Rt := R0.cut t ht
  have hwt : ∀ j, -2147483648 ≤ (l.take t).getD j 0 ∧ (l.take t).getD j 0 ≤ 2147483647 := fun j => by
    by_cases hj : j < t
    · have := hwf j
      rw [List.getD_eq_getElem?_getD, List.getElem?_take, if_pos hj, ← List.getD_eq_getElem?_getD]; exact this
    · rw [List.getD_eq_getElem?_getD, List.getElem?_take, if_neg hj]; decide
  have e60 : (z == 60) = false := by simpa using h60
  subst hkf
  have H1 := Lib.hid (refSpaceB (W := w.alloc rparB) hs)
  have H2 := Lib.hid (refLeadB Rt k hq)
  have hq0 : (0 : Int) < q := by omega
  clear hs hq
  have hb : Below (w.alloc rparB).heap.size (w.alloc rparB) (w.alloc rparB) := Below.refl _ _
  clear R R0 Rt hwf hwt hz
  go_enter Try.func103, Try.ntmps103
  go_wp2_with (first
    | (go_at_call 86; (with_reducible refine (H1.out _ hb).mono ?_); rintro e w1 ⟨rfl, hb1⟩; replace hb := hb1; clear hb1; obtain ⟨c1, c2⟩ := bcell hb; have hz0 : w.heap.size < w1.heap.size := (by have := hb.size; simp at this; omega); have hcl := HCL.out _ hb)
    | (go_at_call 87; (with_reducible refine (H2.out _ hb).mono ?_); rintro e w1 ⟨rfl, hb1⟩; replace hb := hb1; clear hb1; obtain ⟨c1, c2⟩ := bcell hb; have hz0 : w.heap.size < w1.heap.size := (by have := hb.size; simp at this; omega); have hcl := HCL.out _ hb))
  all_goals
    have y0 : w1.cell? ⟨w.heap.size, 0, none⟩ = some (.int .i64 0) := by simp [go_sem, c1]
    have y1 : w1.cell? ⟨w.heap.size, 1, none⟩ = some (.int .i64 0) := by simp [go_sem, c1]
    have y2 : w1.cell? ⟨w.heap.size, 2, none⟩ = some (.int .i64 0) := by simp [go_sem, c1]
    have HB2 := (one_ok w rparB).trans (hb.mono (by simp))
    refine bodyPost_ret (v := parI 2 k ((k : Int) + q)) ?_ rfl ⟨rfl, ?_⟩
    · simp [results, Try.results103, go_sem, y0, y1, y2, parI] <;> omega
    · exact (((HB2.setCell (by simp) _).setCell (by simp) _).setCell (by simp) _)

set_option maxRecDepth 20000 in
set_option maxHeartbeats 2000000 in
theorem refPart_eqB {b off n cap : Nat} {l : List Int} {w : World} (R : RRow w b off n cap l) (hwf : ∀ j, -2147483648 ≤ l.getD j 0 ∧ l.getD j 0 ≤ 2147483647) (f k t : Nat) (hk : k < t) (ht : t ≤ n) (hn : n ≤ 1000) (hf : f ≤ 1000) (z : Int) (hz : l.getD k 0 = z) (hkf : k = f) (h60 : ¬ z = 60) (hs : spaceB z = false) (hq : leadP ((l.take t).drop k) = 0) (h61 : z = 61) :
    Says 103 #[.slice (some ⟨b, off, none⟩) n cap, .int .i64 f, .int .i64 k, .int .i64 t] (parI 4 k ((k : Int) + 1)) w w := by
  have hm := R.max
  have hc := R.le
  unfold maxLen at hm
  have hblt : b < w.heap.size := by
    obtain ⟨b', off', hy, hcl⟩ := R.cells.int (k := k) (by rw [R.len]; omega)
    simp only [Option.some.injEq, Addr.mk.injEq] at hy
    obtain ⟨rfl, rfl, _⟩ := hy
    exact cell_lt hcl
  have hbn : ¬ b = w.heap.size := by omega
  have R0 := R.below (one_ok w rparB)
  have HCL := Lib.hid (fun (w' : World) (hb : Below (w.alloc rparB).heap.size (w.alloc rparB) w') => show w'.cell? ⟨b, off + k, none⟩ = some (.int .i32 z) from by
    obtain ⟨b', off', hy, hcl⟩ := (R0.cells.below hb).int (k := k) (by rw [R.len]; omega)
    simp only [Option.some.injEq, Addr.mk.injEq] at hy
    obtain ⟨rfl, rfl, _⟩ := hy
    rw [hz] at hcl
    exact hcl)
  have hcl : w.cell? ⟨b, off + k, none⟩ = some (.int .i32 z) := by
    obtain ⟨b', off', hy, hcl⟩ := R.cells.int (k := k) (by rw [R.len]; omega)
    simp only [Option.some.injEq, Addr.mk.injEq] at hy
    obtain ⟨rfl, rfl, _⟩ := hy
    rw [hz] at hcl
    exact hcl
  have Rt := R0.cut t ht
  have hwt : ∀ j, -2147483648 ≤ (l.take t).getD j 0 ∧ (l.take t).getD j 0 ≤ 2147483647 := fun j => by
    by_cases hj : j < t
    · have := hwf j
      rw [List.getD_eq_getElem?_getD, List.getElem?_take, if_pos hj, ← List.getD_eq_getElem?_getD]; exact this
    · rw [List.getD_eq_getElem?_getD, List.getElem?_take, if_neg hj]; decide
  have e60 : (z == 60) = false := by simpa using h60
  subst hkf
  have H1 := Lib.hid (refSpaceB (W := w.alloc rparB) hs)
  have H2 := Lib.hid (refLeadB Rt k hq)
  subst h61
  clear hs hq
  have hb : Below (w.alloc rparB).heap.size (w.alloc rparB) (w.alloc rparB) := Below.refl _ _
  clear R R0 Rt hwf hwt hz
  go_enter Try.func103, Try.ntmps103
  go_wp2_with (first
    | (go_at_call 86; (with_reducible refine (H1.out _ hb).mono ?_); rintro e w1 ⟨rfl, hb1⟩; replace hb := hb1; clear hb1; obtain ⟨c1, c2⟩ := bcell hb; have hz0 : w.heap.size < w1.heap.size := (by have := hb.size; simp at this; omega); have hcl := HCL.out _ hb)
    | (go_at_call 87; (with_reducible refine (H2.out _ hb).mono ?_); rintro e w1 ⟨rfl, hb1⟩; replace hb := hb1; clear hb1; obtain ⟨c1, c2⟩ := bcell hb; have hz0 : w.heap.size < w1.heap.size := (by have := hb.size; simp at this; omega); have hcl := HCL.out _ hb))
  all_goals
    have y0 : w1.cell? ⟨w.heap.size, 0, none⟩ = some (.int .i64 0) := by simp [go_sem, c1]
    have y1 : w1.cell? ⟨w.heap.size, 1, none⟩ = some (.int .i64 0) := by simp [go_sem, c1]
    have y2 : w1.cell? ⟨w.heap.size, 2, none⟩ = some (.int .i64 0) := by simp [go_sem, c1]
    have HB2 := (one_ok w rparB).trans (hb.mono (by simp))
    refine bodyPost_ret (v := parI 4 k ((k : Int) + 1)) ?_ rfl ⟨rfl, ?_⟩
    · simp [results, Try.results103, go_sem, y0, y1, y2, parI] <;> omega
    · exact (((HB2.setCell (by simp) _).setCell (by simp) _).setCell (by simp) _)

set_option maxRecDepth 20000 in
set_option maxHeartbeats 2000000 in
theorem refPart_qd1B {b off n cap : Nat} {l : List Int} {w : World} (R : RRow w b off n cap l) (hwf : ∀ j, -2147483648 ≤ l.getD j 0 ∧ l.getD j 0 ≤ 2147483647) (f k t : Nat) (hk : k < t) (ht : t ≤ n) (hn : n ≤ 1000) (hf : f ≤ 1000) (z : Int) (hz : l.getD k 0 = z) (hkf : k = f) (h60 : ¬ z = 60) (hs : spaceB z = false) (hq : leadP ((l.take t).drop k) = 0) (hz2 : z = 34) (q : Nat) (ho : fnd [34] ((l.take t).drop (k + 1)) = some q) (hqt : k + q + 2 ≤ t) :
    Says 103 #[.slice (some ⟨b, off, none⟩) n cap, .int .i64 f, .int .i64 k, .int .i64 t] (parI 5 k ((k : Int) + q + 2)) w w := by
  have hm := R.max
  have hc := R.le
  unfold maxLen at hm
  have hblt : b < w.heap.size := by
    obtain ⟨b', off', hy, hcl⟩ := R.cells.int (k := k) (by rw [R.len]; omega)
    simp only [Option.some.injEq, Addr.mk.injEq] at hy
    obtain ⟨rfl, rfl, _⟩ := hy
    exact cell_lt hcl
  have hbn : ¬ b = w.heap.size := by omega
  have R0 := R.below (one_ok w rparB)
  have HCL := Lib.hid (fun (w' : World) (hb : Below (w.alloc rparB).heap.size (w.alloc rparB) w') => show w'.cell? ⟨b, off + k, none⟩ = some (.int .i32 z) from by
    obtain ⟨b', off', hy, hcl⟩ := (R0.cells.below hb).int (k := k) (by rw [R.len]; omega)
    simp only [Option.some.injEq, Addr.mk.injEq] at hy
    obtain ⟨rfl, rfl, _⟩ := hy
    rw [hz] at hcl
    exact hcl)
  have hcl : w.cell? ⟨b, off + k, none⟩ = some (.int .i32 z) := by
    obtain ⟨b', off', hy, hcl⟩ := R.cells.int (k := k) (by rw [R.len]; omega)
    simp only [Option.some.injEq, Addr.mk.injEq] at hy
    obtain ⟨rfl, rfl, _⟩ := hy
    rw [hz] at hcl
    exact hcl
  have Rt := R0.cut t ht
  have hwt : ∀ j, -2147483648 ≤ (l.take t).getD j 0 ∧ (l.take t).getD j 0 ≤ 2147483647 := fun j => by
    by_cases hj : j < t
    · have := hwf j
      rw [List.getD_eq_getElem?_getD, List.getElem?_take, if_pos hj, ← List.getD_eq_getElem?_getD]; exact this
    · rw [List.getD_eq_getElem?_getD, List.getElem?_take, if_neg hj]; decide
  have H3 := Lib.hid (quotedB R0 k t hk ht 34 (hz.trans hz2) ho)
  have e60 : (z == 60) = false := by simpa using h60
  subst hkf
  have H1 := Lib.hid (refSpaceB (W := w.alloc rparB) hs)
  have H2 := Lib.hid (refLeadB Rt k hq)
  unfold quoV at H3
  simp only [] at H3
  subst hz2
  clear hs hq ho
  have hb : Below (w.alloc rparB).heap.size (w.alloc rparB) (w.alloc rparB) := Below.refl _ _
  clear R R0 Rt hwf hwt hz
  go_enter Try.func103, Try.ntmps103
  go_wp2_with (first
    | (go_at_call 86; (with_reducible refine (H1.out _ hb).mono ?_); rintro e w1 ⟨rfl, hb1⟩; replace hb := hb1; clear hb1; obtain ⟨c1, c2⟩ := bcell hb; have hz0 : w.heap.size < w1.heap.size := (by have := hb.size; simp at this; omega); have hcl := HCL.out _ hb)
    | (go_at_call 87; (with_reducible refine (H2.out _ hb).mono ?_); rintro e w1 ⟨rfl, hb1⟩; replace hb := hb1; clear hb1; obtain ⟨c1, c2⟩ := bcell hb; have hz0 : w.heap.size < w1.heap.size := (by have := hb.size; simp at this; omega); have hcl := HCL.out _ hb)
    | (go_at_call 120; (with_reducible refine (H3.out _ hb).mono ?_); rintro e w1 ⟨rfl, hb1⟩; replace hb := hb1; clear hb1; obtain ⟨c1, c2⟩ := bcell hb; have hz0 : w.heap.size < w1.heap.size := (by have := hb.size; simp at this; omega); have hcl := HCL.out _ hb))
  all_goals
    have y0 : w1.cell? ⟨w.heap.size, 0, none⟩ = some (.int .i64 0) := by simp [go_sem, c1]
    have y1 : w1.cell? ⟨w.heap.size, 1, none⟩ = some (.int .i64 0) := by simp [go_sem, c1]
    have y2 : w1.cell? ⟨w.heap.size, 2, none⟩ = some (.int .i64 0) := by simp [go_sem, c1]
    have HB2 := (one_ok w rparB).trans (hb.mono (by simp))
    refine bodyPost_ret (v := parI 5 k ((k : Int) + q + 2)) ?_ rfl ⟨rfl, ?_⟩
    · simp [results, Try.results103, go_sem, y0, y1, y2, parI] <;> omega
    · exact (((HB2.setCell (by simp) _).setCell (by simp) _).setCell (by simp) _)

set_option maxRecDepth 20000 in
set_option maxHeartbeats 2000000 in
theorem refPart_qd0B {b off n cap : Nat} {l : List Int} {w : World} (R : RRow w b off n cap l) (hwf : ∀ j, -2147483648 ≤ l.getD j 0 ∧ l.getD j 0 ≤ 2147483647) (f k t : Nat) (hk : k < t) (ht : t ≤ n) (hn : n ≤ 1000) (hf : f ≤ 1000) (z : Int) (hz : l.getD k 0 = z) (hkf : k = f) (h60 : ¬ z = 60) (hs : spaceB z = false) (hq : leadP ((l.take t).drop k) = 0) (hz2 : z = 34) (ho : fnd [34] ((l.take t).drop (k + 1)) = none) :
    Says 103 #[.slice (some ⟨b, off, none⟩) n cap, .int .i64 f, .int .i64 k, .int .i64 t] (parI 7 k ((k : Int) + 1)) w w := by
  have hm := R.max
  have hc := R.le
  unfold maxLen at hm
  have hblt : b < w.heap.size := by
    obtain ⟨b', off', hy, hcl⟩ := R.cells.int (k := k) (by rw [R.len]; omega)
    simp only [Option.some.injEq, Addr.mk.injEq] at hy
    obtain ⟨rfl, rfl, _⟩ := hy
    exact cell_lt hcl
  have hbn : ¬ b = w.heap.size := by omega
  have R0 := R.below (one_ok w rparB)
  have HCL := Lib.hid (fun (w' : World) (hb : Below (w.alloc rparB).heap.size (w.alloc rparB) w') => show w'.cell? ⟨b, off + k, none⟩ = some (.int .i32 z) from by
    obtain ⟨b', off', hy, hcl⟩ := (R0.cells.below hb).int (k := k) (by rw [R.len]; omega)
    simp only [Option.some.injEq, Addr.mk.injEq] at hy
    obtain ⟨rfl, rfl, _⟩ := hy
    rw [hz] at hcl
    exact hcl)
  have hcl : w.cell? ⟨b, off + k, none⟩ = some (.int .i32 z) := by
    obtain ⟨b', off', hy, hcl⟩ := R.cells.int (k := k) (by rw [R.len]; omega)
    simp only [Option.some.injEq, Addr.mk.injEq] at hy
    obtain ⟨rfl, rfl, _⟩ := hy
    rw [hz] at hcl
    exact hcl
  have Rt := R0.cut t ht
  have hwt : ∀ j, -2147483648 ≤ (l.take t).getD j 0 ∧ (l.take t).getD j 0 ≤ 2147483647 := fun j => by
    by_cases hj : j < t
    · have := hwf j
      rw [List.getD_eq_getElem?_getD, List.getElem?_take, if_pos hj, ← List.getD_eq_getElem?_getD]; exact this
    · rw [List.getD_eq_getElem?_getD, List.getElem?_take, if_neg hj]; decide
  have H3 := Lib.hid (quotedB R0 k t hk ht 34 (hz.trans hz2) ho)
  have e60 : (z == 60) = false := by simpa using h60
  subst hkf
  have H1 := Lib.hid (refSpaceB (W := w.alloc rparB) hs)
  have H2 := Lib.hid (refLeadB Rt k hq)
  unfold quoV at H3
  simp only [] at H3
  subst hz2
  clear hs hq ho
  have hb : Below (w.alloc rparB).heap.size (w.alloc rparB) (w.alloc rparB) := Below.refl _ _
  clear R R0 Rt hwf hwt hz
  go_enter Try.func103, Try.ntmps103
  go_wp2_with (first
    | (go_at_call 86; (with_reducible refine (H1.out _ hb).mono ?_); rintro e w1 ⟨rfl, hb1⟩; replace hb := hb1; clear hb1; obtain ⟨c1, c2⟩ := bcell hb; have hz0 : w.heap.size < w1.heap.size := (by have := hb.size; simp at this; omega); have hcl := HCL.out _ hb)
    | (go_at_call 87; (with_reducible refine (H2.out _ hb).mono ?_); rintro e w1 ⟨rfl, hb1⟩; replace hb := hb1; clear hb1; obtain ⟨c1, c2⟩ := bcell hb; have hz0 : w.heap.size < w1.heap.size := (by have := hb.size; simp at this; omega); have hcl := HCL.out _ hb)
    | (go_at_call 120; (with_reducible refine (H3.out _ hb).mono ?_); rintro e w1 ⟨rfl, hb1⟩; replace hb := hb1; clear hb1; obtain ⟨c1, c2⟩ := bcell hb; have hz0 : w.heap.size < w1.heap.size := (by have := hb.size; simp at this; omega); have hcl := HCL.out _ hb))
  all_goals
    have y0 : w1.cell? ⟨w.heap.size, 0, none⟩ = some (.int .i64 0) := by simp [go_sem, c1]
    have y1 : w1.cell? ⟨w.heap.size, 1, none⟩ = some (.int .i64 0) := by simp [go_sem, c1]
    have y2 : w1.cell? ⟨w.heap.size, 2, none⟩ = some (.int .i64 0) := by simp [go_sem, c1]
    have HB2 := (one_ok w rparB).trans (hb.mono (by simp))
    refine bodyPost_ret (v := parI 7 k ((k : Int) + 1)) ?_ rfl ⟨rfl, ?_⟩
    · simp [results, Try.results103, go_sem, y0, y1, y2, parI] <;> omega
    · exact (((HB2.setCell (by simp) _).setCell (by simp) _).setCell (by simp) _)

set_option maxRecDepth 20000 in
set_option maxHeartbeats 2000000 in
theorem refPart_qs1B {b off n cap : Nat} {l : List Int} {w : World} (R : RRow w b off n cap l) (hwf : ∀ j, -2147483648 ≤ l.getD j 0 ∧ l.getD j 0 ≤ 2147483647) (f k t : Nat) (hk : k < t) (ht : t ≤ n) (hn : n ≤ 1000) (hf : f ≤ 1000) (z : Int) (hz : l.getD k 0 = z) (hkf : k = f) (h60 : ¬ z = 60) (hs : spaceB z = false) (hq : leadP ((l.take t).drop k) = 0) (hz2 : z = 39) (q : Nat) (ho : fnd [39] ((l.take t).drop (k + 1)) = some q) (hqt : k + q + 2 ≤ t) :
    Says 103 #[.slice (some ⟨b, off, none⟩) n cap, .int .i64 f, .int .i64 k, .int .i64 t] (parI 5 k ((k : Int) + q + 2)) w w := by
  have hm := R.max
  have hc := R.le
  unfold maxLen at hm
  have hblt : b < w.heap.size := by
    obtain ⟨b', off', hy, hcl⟩ := R.cells.int (k := k) (by rw [R.len]; omega)
    simp only [Option.some.injEq, Addr.mk.injEq] at hy
    obtain ⟨rfl, rfl, _⟩ := hy
    exact cell_lt hcl
  have hbn : ¬ b = w.heap.size := by omega
  have R0 := R.below (one_ok w rparB)
  have HCL := Lib.hid (fun (w' : World) (hb : Below (w.alloc rparB).heap.size (w.alloc rparB) w') => show w'.cell? ⟨b, off + k, none⟩ = some (.int .i32 z) from by
    obtain ⟨b', off', hy, hcl⟩ := (R0.cells.below hb).int (k := k) (by rw [R.len]; omega)
    simp only [Option.some.injEq, Addr.mk.injEq] at hy
    obtain ⟨rfl, rfl, _⟩ := hy
    rw [hz] at hcl
    exact hcl)
  have hcl : w.cell? ⟨b, off + k, none⟩ = some (.int .i32 z) := by
    obtain ⟨b', off', hy, hcl⟩ := R.cells.int (k := k) (by rw [R.len]; omega)
    simp only [Option.some.injEq, Addr.mk.injEq] at hy
    obtain ⟨rfl, rfl, _⟩ := hy
    rw [hz] at hcl
    exact hcl
  have Rt := R0.cut t ht
  have hwt : ∀ j, -2147483648 ≤ (l.take t).getD j 0 ∧ (l.take t).getD j 0 ≤ 2147483647 := fun j => by
    by_cases hj : j < t
    · have := hwf j
      rw [List.getD_eq_getElem?_getD, List.getElem?_take, if_pos hj, ← List.getD_eq_getElem?_getD]; exact this
    · rw [List.getD_eq_getElem?_getD, List.getElem?_take, if_neg hj]; decide
  have H3 := Lib.hid (quotedB R0 k t hk ht 39 (hz.trans hz2) ho)
  have e60 : (z == 60) = false := by simpa using h60
  subst hkf
  have H1 := Lib.hid (refSpaceB (W := w.alloc rparB) hs)
  have H2 := Lib.hid (refLeadB Rt k hq)
  unfold quoV at H3
  simp only [] at H3
  subst hz2
  clear hs hq ho
  have hb : Below (w.alloc rparB).heap.size (w.alloc rparB) (w.alloc rparB) := Below.refl _ _
  clear R R0 Rt hwf hwt hz
  go_enter Try.func103, Try.ntmps103
  go_wp2_with (first
    | (go_at_call 86; (with_reducible refine (H1.out _ hb).mono ?_); rintro e w1 ⟨rfl, hb1⟩; replace hb := hb1; clear hb1; obtain ⟨c1, c2⟩ := bcell hb; have hz0 : w.heap.size < w1.heap.size := (by have := hb.size; simp at this; omega); have hcl := HCL.out _ hb)
    | (go_at_call 87; (with_reducible refine (H2.out _ hb).mono ?_); rintro e w1 ⟨rfl, hb1⟩; replace hb := hb1; clear hb1; obtain ⟨c1, c2⟩ := bcell hb; have hz0 : w.heap.size < w1.heap.size := (by have := hb.size; simp at this; omega); have hcl := HCL.out _ hb)
    | (go_at_call 120; (with_reducible refine (H3.out _ hb).mono ?_); rintro e w1 ⟨rfl, hb1⟩; replace hb := hb1; clear hb1; obtain ⟨c1, c2⟩ := bcell hb; have hz0 : w.heap.size < w1.heap.size := (by have := hb.size; simp at this; omega); have hcl := HCL.out _ hb))
  all_goals
    have y0 : w1.cell? ⟨w.heap.size, 0, none⟩ = some (.int .i64 0) := by simp [go_sem, c1]
    have y1 : w1.cell? ⟨w.heap.size, 1, none⟩ = some (.int .i64 0) := by simp [go_sem, c1]
    have y2 : w1.cell? ⟨w.heap.size, 2, none⟩ = some (.int .i64 0) := by simp [go_sem, c1]
    have HB2 := (one_ok w rparB).trans (hb.mono (by simp))
    refine bodyPost_ret (v := parI 5 k ((k : Int) + q + 2)) ?_ rfl ⟨rfl, ?_⟩
    · simp [results, Try.results103, go_sem, y0, y1, y2, parI] <;> omega
    · exact (((HB2.setCell (by simp) _).setCell (by simp) _).setCell (by simp) _)

set_option maxRecDepth 20000 in
set_option maxHeartbeats 2000000 in
theorem refPart_qs0B {b off n cap : Nat} {l : List Int} {w : World} (R : RRow w b off n cap l) (hwf : ∀ j, -2147483648 ≤ l.getD j 0 ∧ l.getD j 0 ≤ 2147483647) (f k t : Nat) (hk : k < t) (ht : t ≤ n) (hn : n ≤ 1000) (hf : f ≤ 1000) (z : Int) (hz : l.getD k 0 = z) (hkf : k = f) (h60 : ¬ z = 60) (hs : spaceB z = false) (hq : leadP ((l.take t).drop k) = 0) (hz2 : z = 39) (ho : fnd [39] ((l.take t).drop (k + 1)) = none) :
    Says 103 #[.slice (some ⟨b, off, none⟩) n cap, .int .i64 f, .int .i64 k, .int .i64 t] (parI 7 k ((k : Int) + 1)) w w := by
  have hm := R.max
  have hc := R.le
  unfold maxLen at hm
  have hblt : b < w.heap.size := by
    obtain ⟨b', off', hy, hcl⟩ := R.cells.int (k := k) (by rw [R.len]; omega)
    simp only [Option.some.injEq, Addr.mk.injEq] at hy
    obtain ⟨rfl, rfl, _⟩ := hy
    exact cell_lt hcl
  have hbn : ¬ b = w.heap.size := by omega
  have R0 := R.below (one_ok w rparB)
  have HCL := Lib.hid (fun (w' : World) (hb : Below (w.alloc rparB).heap.size (w.alloc rparB) w') => show w'.cell? ⟨b, off + k, none⟩ = some (.int .i32 z) from by
    obtain ⟨b', off', hy, hcl⟩ := (R0.cells.below hb).int (k := k) (by rw [R.len]; omega)
    simp only [Option.some.injEq, Addr.mk.injEq] at hy
    obtain ⟨rfl, rfl, _⟩ := hy
    rw [hz] at hcl
    exact hcl)
  have hcl : w.cell? ⟨b, off + k, none⟩ = some (.int .i32 z) := by
    obtain ⟨b', off', hy, hcl⟩ := R.cells.int (k := k) (by rw [R.len]; omega)
    simp only [Option.some.injEq, Addr.mk.injEq] at hy
    obtain ⟨rfl, rfl, _⟩ := hy
    rw [hz] at hcl
    exact hcl
  have Rt := R0.cut t ht
  have hwt : ∀ j, -2147483648 ≤ (l.take t).getD j 0 ∧ (l.take t).getD j 0 ≤ 2147483647 := fun j => by
    by_cases hj : j < t
    · have := hwf j
      rw [List.getD_eq_getElem?_getD, List.getElem?_take, if_pos hj, ← List.getD_eq_getElem?_getD]; exact this
    · rw [List.getD_eq_getElem?_getD, List.getElem?_take, if_neg hj]; decide
  have H3 := Lib.hid (quotedB R0 k t hk ht 39 (hz.trans hz2) ho)
  have e60 : (z == 60) = false := by simpa using h60
  subst hkf
  have H1 := Lib.hid (refSpaceB (W := w.alloc rparB) hs)
  have H2 := Lib.hid (refLeadB Rt k hq)
  unfold quoV at H3
  simp only [] at H3
  subst hz2
  clear hs hq ho
  have hb : Below (w.alloc rparB).heap.size (w.alloc rparB) (w.alloc rparB) := Below.refl _ _
  clear R R0 Rt hwf hwt hz
  go_enter Try.func103, Try.ntmps103
  go_wp2_with (first
    | (go_at_call 86; (with_reducible refine (H1.out _ hb).mono ?_); rintro e w1 ⟨rfl, hb1⟩; replace hb := hb1; clear hb1; obtain ⟨c1, c2⟩ := bcell hb; have hz0 : w.heap.size < w1.heap.size := (by have := hb.size; simp at this; omega); have hcl := HCL.out _ hb)
    | (go_at_call 87; (with_reducible refine (H2.out _ hb).mono ?_); rintro e w1 ⟨rfl, hb1⟩; replace hb := hb1; clear hb1; obtain ⟨c1, c2⟩ := bcell hb; have hz0 : w.heap.size < w1.heap.size := (by have := hb.size; simp at this; omega); have hcl := HCL.out _ hb)
    | (go_at_call 120; (with_reducible refine (H3.out _ hb).mono ?_); rintro e w1 ⟨rfl, hb1⟩; replace hb := hb1; clear hb1; obtain ⟨c1, c2⟩ := bcell hb; have hz0 : w.heap.size < w1.heap.size := (by have := hb.size; simp at this; omega); have hcl := HCL.out _ hb))
  all_goals
    have y0 : w1.cell? ⟨w.heap.size, 0, none⟩ = some (.int .i64 0) := by simp [go_sem, c1]
    have y1 : w1.cell? ⟨w.heap.size, 1, none⟩ = some (.int .i64 0) := by simp [go_sem, c1]
    have y2 : w1.cell? ⟨w.heap.size, 2, none⟩ = some (.int .i64 0) := by simp [go_sem, c1]
    have HB2 := (one_ok w rparB).trans (hb.mono (by simp))
    refine bodyPost_ret (v := parI 7 k ((k : Int) + 1)) ?_ rfl ⟨rfl, ?_⟩
    · simp [results, Try.results103, go_sem, y0, y1, y2, parI] <;> omega
    · exact (((HB2.setCell (by simp) _).setCell (by simp) _).setCell (by simp) _)

set_option maxRecDepth 20000 in
set_option maxHeartbeats 2000000 in
theorem refPart_c1B {b off n cap : Nat} {l : List Int} {w : World} (R : RRow w b off n cap l) (hwf : ∀ j, -2147483648 ≤ l.getD j 0 ∧ l.getD j 0 ≤ 2147483647) (f k t : Nat) (hk : k < t) (ht : t ≤ n) (hn : n ≤ 1000) (hf : f ≤ 1000) (z : Int) (hz : l.getD k 0 = z) (hkf : k = f) (h60 : ¬ z = 60) (hs : spaceB z = false) (hq : leadP ((l.take t).drop k) = 0) (h62 : z = 62) (hkt : k + 1 = t) :
    Says 103 #[.slice (some ⟨b, off, none⟩) n cap, .int .i64 f, .int .i64 k, .int .i64 t] (parI 6 k (t)) w w := by
  have hm := R.max
  have hc := R.le
  unfold maxLen at hm
  have hblt : b < w.heap.size := by
    obtain ⟨b', off', hy, hcl⟩ := R.cells.int (k := k) (by rw [R.len]; omega)
    simp only [Option.some.injEq, Addr.mk.injEq] at hy
    obtain ⟨rfl, rfl, _⟩ := hy
    exact cell_lt hcl
  have hbn : ¬ b = w.heap.size := by omega
  have R0 := R.below (one_ok w rparB)
  have HCL := Lib.hid (fun (w' : World) (hb : Below (w.alloc rparB).heap.size (w.alloc rparB) w') => show w'.cell? ⟨b, off + k, none⟩ = some (.int .i32 z) from by
    obtain ⟨b', off', hy, hcl⟩ := (R0.cells.below hb).int (k := k) (by rw [R.len]; omega)
    simp only [Option.some.injEq, Addr.mk.injEq] at hy
    obtain ⟨rfl, rfl, _⟩ := hy
    rw [hz] at hcl
    exact hcl)
  have hcl : w.cell? ⟨b, off + k, none⟩ = some (.int .i32 z) := by
    obtain ⟨b', off', hy, hcl⟩ := R.cells.int (k := k) (by rw [R.len]; omega)
    simp only [Option.some.injEq, Addr.mk.injEq] at hy
    obtain ⟨rfl, rfl, _⟩ := hy
    rw [hz] at hcl
    exact hcl
  have Rt := R0.cut t ht
  have hwt : ∀ j, -2147483648 ≤ (l.take t).getD j 0 ∧ (l.take t).getD j 0 ≤ 2147483647 := fun j => by
    by_cases hj : j < t
    · have := hwf j
      rw [List.getD_eq_getElem?_getD, List.getElem?_take, if_pos hj, ← List.getD_eq_getElem?_getD]; exact this
    · rw [List.getD_eq_getElem?_getD, List.getElem?_take, if_neg hj]; decide
  have e60 : (z == 60) = false := by simpa using h60
  subst hkf
  have H1 := Lib.hid (refSpaceB (W := w.alloc rparB) hs)
  have H2 := Lib.hid (refLeadB Rt k hq)
  subst h62
  clear hs hq
  have et : ((k : Int) + 1 == (t : Int)) = true := by simp; omega
  have hb : Below (w.alloc rparB).heap.size (w.alloc rparB) (w.alloc rparB) := Below.refl _ _
  clear R R0 Rt hwf hwt hz
  go_enter Try.func103, Try.ntmps103
  go_wp2_with (first
    | (go_at_call 86; (with_reducible refine (H1.out _ hb).mono ?_); rintro e w1 ⟨rfl, hb1⟩; replace hb := hb1; clear hb1; obtain ⟨c1, c2⟩ := bcell hb; have hz0 : w.heap.size < w1.heap.size := (by have := hb.size; simp at this; omega); have hcl := HCL.out _ hb)
    | (go_at_call 87; (with_reducible refine (H2.out _ hb).mono ?_); rintro e w1 ⟨rfl, hb1⟩; replace hb := hb1; clear hb1; obtain ⟨c1, c2⟩ := bcell hb; have hz0 : w.heap.size < w1.heap.size := (by have := hb.size; simp at this; omega); have hcl := HCL.out _ hb))
  all_goals
    have y0 : w1.cell? ⟨w.heap.size, 0, none⟩ = some (.int .i64 0) := by simp [go_sem, c1]
    have y1 : w1.cell? ⟨w.heap.size, 1, none⟩ = some (.int .i64 0) := by simp [go_sem, c1]
    have y2 : w1.cell? ⟨w.heap.size, 2, none⟩ = some (.int .i64 0) := by simp [go_sem, c1]
    have HB2 := (one_ok w rparB).trans (hb.mono (by simp))
    refine bodyPost_ret (v := parI 6 k (t)) ?_ rfl ⟨rfl, ?_⟩
    · simp [results, Try.results103, go_sem, y0, y1, y2, parI] <;> omega
    · exact (((HB2.setCell (by simp) _).setCell (by simp) _).setCell (by simp) _)

set_option maxRecDepth 20000 in
set_option maxHeartbeats 2000000 in
theorem refPart_jB {b off n cap : Nat} {l : List Int} {w : World} (R : RRow w b off n cap l) (hwf : ∀ j, -2147483648 ≤ l.getD j 0 ∧ l.getD j 0 ≤ 2147483647) (f k t : Nat) (hk : k < t) (ht : t ≤ n) (hn : n ≤ 1000) (hf : f ≤ 1000) (z : Int) (hz : l.getD k 0 = z) (hkf : k = f) (h60 : ¬ z = 60) (hs : spaceB z = false) (hq : leadP ((l.take t).drop k) = 0) (h61 : ¬ z = 61) (h34 : ¬ z = 34) (h39 : ¬ z = 39) (h62 : ¬ z = 62) (h47 : ¬ z = 47) :
    Says 103 #[.slice (some ⟨b, off, none⟩) n cap, .int .i64 f, .int .i64 k, .int .i64 t] (parI 7 k ((k : Int) + 1)) w w := by
  have hm := R.max
  have hc := R.le
  unfold maxLen at hm
  have hblt : b < w.heap.size := by
    obtain ⟨b', off', hy, hcl⟩ := R.cells.int (k := k) (by rw [R.len]; omega)
    simp only [Option.some.injEq, Addr.mk.injEq] at hy
    obtain ⟨rfl, rfl, _⟩ := hy
    exact cell_lt hcl
  have hbn : ¬ b = w.heap.size := by omega
  have R0 := R.below (one_ok w rparB)
  have HCL := Lib.hid (fun (w' : World) (hb : Below (w.alloc rparB).heap.size (w.alloc rparB) w') => show w'.cell? ⟨b, off + k, none⟩ = some (.int .i32 z) from by
    obtain ⟨b', off', hy, hcl⟩ := (R0.cells.below hb).int (k := k) (by rw [R.len]; omega)
    simp only [Option.some.injEq, Addr.mk.injEq] at hy
    obtain ⟨rfl, rfl, _⟩ := hy
    rw [hz] at hcl
    exact hcl)
  have hcl : w.cell? ⟨b, off + k, none⟩ = some (.int .i32 z) := by
    obtain ⟨b', off', hy, hcl⟩ := R.cells.int (k := k) (by rw [R.len]; omega)
    simp only [Option.some.injEq, Addr.mk.injEq] at hy
    obtain ⟨rfl, rfl, _⟩ := hy
    rw [hz] at hcl
    exact hcl
  have Rt := R0.cut t ht
  have hwt : ∀ j, -2147483648 ≤ (l.take t).getD j 0 ∧ (l.take t).getD j 0 ≤ 2147483647 := fun j => by
    by_cases hj : j < t
    · have := hwf j
      rw [List.getD_eq_getElem?_getD, List.getElem?_take, if_pos hj, ← List.getD_eq_getElem?_getD]; exact this
    · rw [List.getD_eq_getElem?_getD, List.getElem?_take, if_neg hj]; decide
  have e60 : (z == 60) = false := by simpa using h60
  subst hkf
  have H1 := Lib.hid (refSpaceB (W := w.alloc rparB) hs)
  have H2 := Lib.hid (refLeadB Rt k hq)
  have e61 : (z == 61) = false := by simpa using h61
  have e34 : (z == 34) = false := by simpa using h34
  have e39 : (z == 39) = false := by simpa using h39
  have e62 : (z == 62) = false := by simpa using h62
  have e47 : (z == 47) = false := by simpa using h47
  clear hs hq
  have hb : Below (w.alloc rparB).heap.size (w.alloc rparB) (w.alloc rparB) := Below.refl _ _
  clear R R0 Rt hwf hwt hz
  go_enter Try.func103, Try.ntmps103
  go_wp2_with (first
    | (go_at_call 86; (with_reducible refine (H1.out _ hb).mono ?_); rintro e w1 ⟨rfl, hb1⟩; replace hb := hb1; clear hb1; obtain ⟨c1, c2⟩ := bcell hb; have hz0 : w.heap.size < w1.heap.size := (by have := hb.size; simp at this; omega); have hcl := HCL.out _ hb)
    | (go_at_call 87; (with_reducible refine (H2.out _ hb).mono ?_); rintro e w1 ⟨rfl, hb1⟩; replace hb := hb1; clear hb1; obtain ⟨c1, c2⟩ := bcell hb; have hz0 : w.heap.size < w1.heap.size := (by have := hb.size; simp at this; omega); have hcl := HCL.out _ hb))
  all_goals
    have y0 : w1.cell? ⟨w.heap.size, 0, none⟩ = some (.int .i64 0) := by simp [go_sem, c1]
    have y1 : w1.cell? ⟨w.heap.size, 1, none⟩ = some (.int .i64 0) := by simp [go_sem, c1]
    have y2 : w1.cell? ⟨w.heap.size, 2, none⟩ = some (.int .i64 0) := by simp [go_sem, c1]
    have HB2 := (one_ok w rparB).trans (hb.mono (by simp))
    refine bodyPost_ret (v := parI 7 k ((k : Int) + 1)) ?_ rfl ⟨rfl, ?_⟩
    · simp [results, Try.results103, go_sem, y0, y1, y2, parI] <;> omega
    · exact (((HB2.setCell (by simp) _).setCell (by simp) _).setCell (by simp) _)

end Go.Proofs.Ytblebkpnjeghoaa
