/-
  Contract of the reference's layer 8: a part, blanks.
-/
import Derived.Test.YtblebkpnjeghoaaRefB0
namespace Go.Proofs.Ytblebkpnjeghoaa
open Go.RowKit
set_option linter.unusedVariables false

set_option maxRecDepth 20000 in
set_option maxHeartbeats 2000000 in
theorem refPart_spA {b off n cap : Nat} {l : List Int} {w : World} (R : RRow w b off n cap l) (f k t : Nat) (hk : k < t) (ht : t ≤ n) (hn : n ≤ 1000) (hf : f ≤ 1000) (z : Int) (hz : l.getD k 0 = z) (hkf : ¬ k = f) (hs : spaceB z = true) (q : Nat) (hq : runP spaceB ((l.take t).drop k) = q) :
    Says 103 #[.slice (some ⟨b, off, none⟩) n cap, .int .i64 f, .int .i64 k, .int .i64 t] (parI 3 k ((k : Int) + q)) w w := by
  have hm := R.max
  have hc := R.le
  unfold maxLen at hm
  have HCL := Lib.hid (fun i (hi : i < n) => show w.cell? ⟨b, off + i, none⟩ = some (.int .i32 (l.getD i 0)) from by
    obtain ⟨b', off', hy, hcl⟩ := R.cells.int (k := i) (by rw [R.len]; omega)
    simp only [Option.some.injEq, Addr.mk.injEq] at hy
    obtain ⟨rfl, rfl, _⟩ := hy
    exact hcl)
  have hcl := HCL.out k (by omega)
  rw [hz] at hcl
  have hblt := cell_lt hcl
  have hbn : ¬ b = w.heap.size := by omega
  have HGD := Lib.hid (show ∀ x, k + x < t → ((l.take t).drop k).getD x 0 = l.getD (k + x) 0 from fun x hx => by
    rw [List.getD_eq_getElem?_getD, List.getD_eq_getElem?_getD, List.getElem?_drop, List.getElem?_take, if_pos hx])
  have HLM := Lib.hid (show ((l.take t).drop k).length = t - k by rw [List.length_drop, List.length_take, R.len]; omega)
  have HS := Lib.hid (fun (r : Int) (v : Bool) (h : spaceB r = v) (w : World) => (refSpace_any r w).mono (fun e w' (hh : e = .returned (.bool (spaceB r)) ∧ w = w') => show e = .returned (.bool v) ∧ w = w' from ⟨by rw [hh.1, h], hh.2⟩))
  have H1 := Lib.hid (fun w => HS.out z true hs w)
  have HQ := Lib.hid hq
  have e0 : ((k : Int) == f) = false := by simp; omega
  clear R hs hz hq
  go_enter Try.func103, Try.ntmps103
  go_wp2_with (go_at_call 86; (with_reducible refine (H1.out _).mono ?_); rintro e w1 ⟨rfl, rfl⟩)
  trace_state
  go_loop [9] (fun iv => ∃ i : Nat, iv = .int .i64 i ∧ k ≤ i ∧ i ≤ t ∧ Hid (∀ x, x < i - k → spaceB (((l.take t).drop k).getD x 0) = true)) (fun iv => t - (intOf iv).toNat)
  case atStart => exact ⟨k, rfl, Nat.le_refl _, by omega, Lib.hid (fun x hx => by omega)⟩
  case round =>
    obtain ⟨i, rfl, hki, hit, HJ⟩ := hrel
    by_cases hlt : i < t
    · have hci := HCL.out i (by omega)
      have hgd := HGD.out (i - k) (by omega)
      rw [show k + (i - k) = i by omega] at hgd
      obtain ⟨y, hy⟩ : ∃ y, y = l.getD i 0 := ⟨_, rfl⟩
      rw [← hy] at hci hgd
      have HG := Lib.hid hgd
      clear hy hgd
      cases hsp : spaceB y
      · have HF := Lib.hid (show i = k + q by
          have := runP_of spaceB ((l.take t).drop k) (i - k) HJ.out (by rw [HLM.out]; omega) (by rw [HG.out]; exact hsp)
          rw [HQ.out] at this; omega)
        have H2 := Lib.hid (fun w => HS.out y false hsp w)
        clear hsp
        go_wp2_with (go_at_call 86; (with_reducible refine (H2.out _).mono ?_); rintro e w1 ⟨rfl, rfl⟩)
        refine bodyPost_ret (v := parI 3 k i) ?_ rfl ⟨?_, ?_⟩
        · simp [results, Try.results103, go_sem, parI]
        · exact ret_par rfl rfl (by have := HF.out; omega)
        · first
            | exact one_ok w rparB
            | exact ((((one_ok w rparB).setCell (p := ⟨w.heap.size, 0, none⟩) (Nat.le_refl _) _).setCell (p := ⟨w.heap.size, 1, none⟩) (Nat.le_refl _) _).setCell (p := ⟨w.heap.size, 2, none⟩) (Nat.le_refl _) _)
            | exact (one_ok w _)
      · have HK := Lib.hid (show ∀ x, x < (i + 1) - k → spaceB (((l.take t).drop k).getD x 0) = true from fun x hx => by
          by_cases h : x = i - k
          · rw [h, HG.out]; exact hsp
          · exact HJ.out x (by omega))
        have H2 := Lib.hid (fun w => HS.out y true hsp w)
        clear hsp
        go_wp2_with (go_at_call 86; (with_reducible refine (H2.out _).mono ?_); rintro e w1 ⟨rfl, rfl⟩)
        go_round
        case rel => exact ⟨i + 1, by go_num, by omega, by omega, HK⟩
        case measure => simp [intOf]; omega
    · obtain rfl : i = t := by omega
      have HF := Lib.hid (show i = k + q by
        have := runP_all spaceB ((l.take i).drop k) (fun x hx => HJ.out x (by rw [HLM.out] at hx; exact hx))
        rw [HQ.out, HLM.out] at this; omega)
      clear hlt
      go_wp2
      refine bodyPost_ret (v := parI 3 k i) ?_ rfl ⟨?_, ?_⟩
      · simp [results, Try.results103, go_sem, parI]
      · exact ret_par rfl rfl (by have := HF.out; omega)
      · first
          | exact one_ok w rparB
          | exact ((((one_ok w rparB).setCell (p := ⟨w.heap.size, 0, none⟩) (Nat.le_refl _) _).setCell (p := ⟨w.heap.size, 1, none⟩) (Nat.le_refl _) _).setCell (p := ⟨w.heap.size, 2, none⟩) (Nat.le_refl _) _)
          | exact (one_ok w _)

set_option maxRecDepth 20000 in
set_option maxHeartbeats 2000000 in
theorem refPart_spB {b off n cap : Nat} {l : List Int} {w : World} (R : RRow w b off n cap l) (f k t : Nat) (hk : k < t) (ht : t ≤ n) (hn : n ≤ 1000) (hf : f ≤ 1000) (z : Int) (hz : l.getD k 0 = z) (hkf : k = f) (h60 : ¬ z = 60) (hs : spaceB z = true) (q : Nat) (hq : runP spaceB ((l.take t).drop k) = q) :
    Says 103 #[.slice (some ⟨b, off, none⟩) n cap, .int .i64 f, .int .i64 k, .int .i64 t] (parI 3 k ((k : Int) + q)) w w := by
  have hm := R.max
  have hc := R.le
  unfold maxLen at hm
  have HCL := Lib.hid (fun i (hi : i < n) => show w.cell? ⟨b, off + i, none⟩ = some (.int .i32 (l.getD i 0)) from by
    obtain ⟨b', off', hy, hcl⟩ := R.cells.int (k := i) (by rw [R.len]; omega)
    simp only [Option.some.injEq, Addr.mk.injEq] at hy
    obtain ⟨rfl, rfl, _⟩ := hy
    exact hcl)
  have hcl := HCL.out k (by omega)
  rw [hz] at hcl
  have hblt := cell_lt hcl
  have hbn : ¬ b = w.heap.size := by omega
  have HGD := Lib.hid (show ∀ x, k + x < t → ((l.take t).drop k).getD x 0 = l.getD (k + x) 0 from fun x hx => by
    rw [List.getD_eq_getElem?_getD, List.getD_eq_getElem?_getD, List.getElem?_drop, List.getElem?_take, if_pos hx])
  have HLM := Lib.hid (show ((l.take t).drop k).length = t - k by rw [List.length_drop, List.length_take, R.len]; omega)
  have HS := Lib.hid (fun (r : Int) (v : Bool) (h : spaceB r = v) (w : World) => (refSpace_any r w).mono (fun e w' (hh : e = .returned (.bool (spaceB r)) ∧ w = w') => show e = .returned (.bool v) ∧ w = w' from ⟨by rw [hh.1, h], hh.2⟩))
  have H1 := Lib.hid (fun w => HS.out z true hs w)
  have HQ := Lib.hid hq
  have e60 : (z == 60) = false := by simpa using h60
  subst hkf
  clear R hs hz hq
  go_enter Try.func103, Try.ntmps103
  go_wp2_with (go_at_call 86; (with_reducible refine (H1.out _).mono ?_); rintro e w1 ⟨rfl, rfl⟩)
  trace_state
  go_loop [9] (fun iv => ∃ i : Nat, iv = .int .i64 i ∧ k ≤ i ∧ i ≤ t ∧ Hid (∀ x, x < i - k → spaceB (((l.take t).drop k).getD x 0) = true)) (fun iv => t - (intOf iv).toNat)
  case atStart => exact ⟨k, rfl, Nat.le_refl _, by omega, Lib.hid (fun x hx => by omega)⟩
  case round =>
    obtain ⟨i, rfl, hki, hit, HJ⟩ := hrel
    by_cases hlt : i < t
    · have hci := HCL.out i (by omega)
      have hgd := HGD.out (i - k) (by omega)
      rw [show k + (i - k) = i by omega] at hgd
      obtain ⟨y, hy⟩ : ∃ y, y = l.getD i 0 := ⟨_, rfl⟩
      rw [← hy] at hci hgd
      have HG := Lib.hid hgd
      clear hy hgd
      cases hsp : spaceB y
      · have HF := Lib.hid (show i = k + q by
          have := runP_of spaceB ((l.take t).drop k) (i - k) HJ.out (by rw [HLM.out]; omega) (by rw [HG.out]; exact hsp)
          rw [HQ.out] at this; omega)
        have H2 := Lib.hid (fun w => HS.out y false hsp w)
        clear hsp
        go_wp2_with (go_at_call 86; (with_reducible refine (H2.out _).mono ?_); rintro e w1 ⟨rfl, rfl⟩)
        refine bodyPost_ret (v := parI 3 k i) ?_ rfl ⟨?_, ?_⟩
        · simp [results, Try.results103, go_sem, parI]
        · exact ret_par rfl rfl (by have := HF.out; omega)
        · first
            | exact one_ok w rparB
            | exact ((((one_ok w rparB).setCell (p := ⟨w.heap.size, 0, none⟩) (Nat.le_refl _) _).setCell (p := ⟨w.heap.size, 1, none⟩) (Nat.le_refl _) _).setCell (p := ⟨w.heap.size, 2, none⟩) (Nat.le_refl _) _)
            | exact (one_ok w _)
      · have HK := Lib.hid (show ∀ x, x < (i + 1) - k → spaceB (((l.take t).drop k).getD x 0) = true from fun x hx => by
          by_cases h : x = i - k
          · rw [h, HG.out]; exact hsp
          · exact HJ.out x (by omega))
        have H2 := Lib.hid (fun w => HS.out y true hsp w)
        clear hsp
        go_wp2_with (go_at_call 86; (with_reducible refine (H2.out _).mono ?_); rintro e w1 ⟨rfl, rfl⟩)
        go_round
        case rel => exact ⟨i + 1, by go_num, by omega, by omega, HK⟩
        case measure => simp [intOf]; omega
    · obtain rfl : i = t := by omega
      have HF := Lib.hid (show i = k + q by
        have := runP_all spaceB ((l.take i).drop k) (fun x hx => HJ.out x (by rw [HLM.out] at hx; exact hx))
        rw [HQ.out, HLM.out] at this; omega)
      clear hlt
      go_wp2
      refine bodyPost_ret (v := parI 3 k i) ?_ rfl ⟨?_, ?_⟩
      · simp [results, Try.results103, go_sem, parI]
      · exact ret_par rfl rfl (by have := HF.out; omega)
      · first
          | exact one_ok w rparB
          | exact ((((one_ok w rparB).setCell (p := ⟨w.heap.size, 0, none⟩) (Nat.le_refl _) _).setCell (p := ⟨w.heap.size, 1, none⟩) (Nat.le_refl _) _).setCell (p := ⟨w.heap.size, 2, none⟩) (Nat.le_refl _) _)
          | exact (one_ok w _)

end Go.Proofs.Ytblebkpnjeghoaa
