/-
  Layer 14: the reference's token behind an &.
-/
import Derived.Test.YtbljgoieieoamaaRfH
import Derived.Test.YtbljgoieieoamaaRefS
namespace Go.Proofs.Ytbljgoieieoamaa
open Go.RowKit
set_option linter.unusedVariables false

def digV (base : Int) (r : Int) : Int := if base = 10 then (if digitB r then r - 48 else -1) else (if hexB r then hexV r else -1)

set_option maxHeartbeats 2000000 in
theorem digit_any (base : Int) (hb : base = 10 ∨ base = 16) (r : Int) (hr : -2147483648 ≤ r ∧ r ≤ 2147483647) (w : World) : Calls Try.prog 48 #[.int .i32 r, .int .i64 base] w fun e w' => e = .returned (.int .i64 (digV base r)) ∧ w' = w := by
  obtain ⟨r0, r1⟩ := hr
  have HI := Lib.hid (fun (lo hi : Int) (W : World) => is_dec r lo hi W)
  have w1 : IntKind.i64.wrap (r - 48) = r - 48 := by rw [IntKind.wrap_i64]; omega
  have w2 : IntKind.i64.wrap (r - 87) = r - 87 := by rw [IntKind.wrap_i64]; omega
  have w3 : IntKind.i64.wrap (r - 55) = r - 55 := by rw [IntKind.wrap_i64]; omega
  have w4 : IntKind.i64.wrap r = r := by rw [IntKind.wrap_i64]; omega
  by_cases h1 : 48 ≤ r ∧ r ≤ 57
  · have d1 : decide (48 ≤ r ∧ r ≤ 57) = true := decide_eq_true h1
    have d2 : decide (97 ≤ r ∧ r ≤ 102) = false := decide_eq_false (by omega)
    have d3 : decide (65 ≤ r ∧ r ≤ 70) = false := decide_eq_false (by omega)
    have HV := Lib.hid (show digV base r = r - 48 from by
      unfold digV digitB hexB hexV
      rcases hb with rfl | rfl
      · rw [if_pos rfl]; simp [h1.1, h1.2]
      · rw [if_neg (by decide)]; simp [h1.1, h1.2]; rw [if_neg (by omega), if_neg (by omega)])
    have h2 : ¬ base ≤ r - 48 := by omega
    clear h1 hb
    go_enter Try.func48, Try.ntmps48
    go_wp2_with (go_at_call 75; (with_reducible refine (HI.out _ _ _).mono ?_); rintro e w' ⟨rfl, rfl⟩)
    go_ret
    exact ⟨ret_num HV.out.symm, rfl⟩
  by_cases h2 : 97 ≤ r ∧ r ≤ 102
  · have d1 : decide (48 ≤ r ∧ r ≤ 57) = false := decide_eq_false h1
    have d2 : decide (97 ≤ r ∧ r ≤ 102) = true := decide_eq_true h2
    have d3 : decide (65 ≤ r ∧ r ≤ 70) = false := decide_eq_false (by omega)
    rcases hb with rfl | rfl
    · have HV := Lib.hid (show digV 10 r = -1 from by unfold digV digitB; rw [if_pos rfl, if_neg (by simp; omega)])
      have h3 : (10 : Int) ≤ r - 87 := by omega
      clear h1 h2
      go_enter Try.func48, Try.ntmps48
      go_wp2_with (go_at_call 75; (with_reducible refine (HI.out _ _ _).mono ?_); rintro e w' ⟨rfl, rfl⟩)
      go_ret
      exact ⟨ret_num HV.out.symm, rfl⟩
    · have HV := Lib.hid (show digV 16 r = r - 87 from by unfold digV hexB hexV; rw [if_neg (by decide), if_pos (by simp [h2.1, h2.2]), if_pos h2])
      have h3 : ¬ (16 : Int) ≤ r - 87 := by omega
      clear h1 h2
      go_enter Try.func48, Try.ntmps48
      go_wp2_with (go_at_call 75; (with_reducible refine (HI.out _ _ _).mono ?_); rintro e w' ⟨rfl, rfl⟩)
      go_ret
      exact ⟨ret_num HV.out.symm, rfl⟩
  by_cases h3 : 65 ≤ r ∧ r ≤ 70
  · have d1 : decide (48 ≤ r ∧ r ≤ 57) = false := decide_eq_false h1
    have d2 : decide (97 ≤ r ∧ r ≤ 102) = false := decide_eq_false h2
    have d3 : decide (65 ≤ r ∧ r ≤ 70) = true := decide_eq_true h3
    rcases hb with rfl | rfl
    · have HV := Lib.hid (show digV 10 r = -1 from by unfold digV digitB; rw [if_pos rfl, if_neg (by simp; omega)])
      have h4 : (10 : Int) ≤ r - 55 := by omega
      clear h1 h2 h3
      go_enter Try.func48, Try.ntmps48
      go_wp2_with (go_at_call 75; (with_reducible refine (HI.out _ _ _).mono ?_); rintro e w' ⟨rfl, rfl⟩)
      go_ret
      exact ⟨ret_num HV.out.symm, rfl⟩
    · have HV := Lib.hid (show digV 16 r = r - 55 from by unfold digV hexB hexV; rw [if_neg (by decide), if_pos (by simp [h3.1, h3.2]), if_neg h2, if_pos h3])
      have h4 : ¬ (16 : Int) ≤ r - 55 := by omega
      clear h1 h2 h3
      go_enter Try.func48, Try.ntmps48
      go_wp2_with (go_at_call 75; (with_reducible refine (HI.out _ _ _).mono ?_); rintro e w' ⟨rfl, rfl⟩)
      go_ret
      exact ⟨ret_num HV.out.symm, rfl⟩
  · have d1 : decide (48 ≤ r ∧ r ≤ 57) = false := decide_eq_false h1
    have d2 : decide (97 ≤ r ∧ r ≤ 102) = false := decide_eq_false h2
    have d3 : decide (65 ≤ r ∧ r ≤ 70) = false := decide_eq_false h3
    have HV := Lib.hid (show digV base r = -1 from by
      unfold digV digitB hexB
      rcases hb with rfl | rfl
      · rw [if_pos rfl, if_neg (by simp; omega)]
      · rw [if_neg (by decide), if_neg (by simp; omega)])
    have h4 : ¬ base ≤ -1 := by omega
    clear h1 h2 h3 hb
    go_enter Try.func48, Try.ntmps48
    go_wp2_with (go_at_call 75; (with_reducible refine (HI.out _ _ _).mono ?_); rintro e w' ⟨rfl, rfl⟩)
    go_ret
    exact ⟨ret_num HV.out.symm, rfl⟩

end Go.Proofs.Ytbljgoieieoamaa
