/-
  SpanShift: the walk.
-/
import Derived.Test.YtlkcnfkfccfhmaaSpB
import Derived.Test.YtlkcnfkfccfhmaaSpG
namespace Go.Proofs.Ytlkcnfkfccfhmaa
open Go.RowKit
set_option linter.unusedVariables false

set_option maxHeartbeats 2000000 in
theorem spanShift_walk (k f t n : Int) (w : World) (hk : -9223372036854775808 ≤ k) (hk' : k ≤ 9223372036854775807) :
    Calls Try.prog 8 #[.int .i64 k, .agg #[.int .i64 f, .int .i64 t], .int .i64 n] w fun e w' => e = .returned (.bool true) ∧ Below w.heap.size w w' := by
  have HS := fun w => Lib.hid (shift_any k f t n w hk hk')
  have hK : shiftF k f t n = if f < 0 ∨ t < f ∨ 2147483647 < t ∨ n < 0 ∨ 2147483647 < n ∨ 2147483647 < k ∨ k < f then k else if k < t then f else k - (t - f) + n := rfl
  generalize shiftF k f t n = K at HS hK
  have hb0 := Below.refl (w.alloc (.cells #[.int .i64 f, .int .i64 t] 23)).heap.size (w.alloc (.cells #[.int .i64 f, .int .i64 t] 23))
  by_cases h0 : f < 0
  · rw [if_pos (by omega)] at hK
    obtain rfl : k = K := hK.symm
    go_enter Try.func8, Try.ntmps8
    go_wp2_with (first
      | (go_at_call 9; (with_reducible refine (ours_any _ _ _).mono ?_); rintro e w1 ⟨rfl, hb1⟩; replace hb0 := Below.more hb0 hb1; clear hb1; obtain ⟨c1, c2⟩ := bcell hb0)
      | (go_at_call 20; (with_reducible refine (HS _).out.mono ?_); rintro e w1 ⟨rfl, hb1⟩; replace hb0 := Below.more hb0 hb1; clear hb1; obtain ⟨c1, c2⟩ := bcell hb0)
      | (go_at_call 13; (with_reducible refine (awake_any _).mono ?_); rintro e w1 ⟨rfl, hb1⟩; replace hb0 := Below.more hb0 hb1; clear hb1))
    go_ret
    exact ⟨rfl, (bl1 _ _).trans (hb0.mono (by simp))⟩
  have g0 : 0 ≤ f := by omega
  clear h0
  by_cases h1 : t < f
  · rw [if_pos (by omega)] at hK
    obtain rfl : k = K := hK.symm
    go_enter Try.func8, Try.ntmps8
    go_wp2_with (first
      | (go_at_call 9; (with_reducible refine (ours_any _ _ _).mono ?_); rintro e w1 ⟨rfl, hb1⟩; replace hb0 := Below.more hb0 hb1; clear hb1; obtain ⟨c1, c2⟩ := bcell hb0)
      | (go_at_call 20; (with_reducible refine (HS _).out.mono ?_); rintro e w1 ⟨rfl, hb1⟩; replace hb0 := Below.more hb0 hb1; clear hb1; obtain ⟨c1, c2⟩ := bcell hb0)
      | (go_at_call 13; (with_reducible refine (awake_any _).mono ?_); rintro e w1 ⟨rfl, hb1⟩; replace hb0 := Below.more hb0 hb1; clear hb1))
    go_ret
    exact ⟨rfl, (bl1 _ _).trans (hb0.mono (by simp))⟩
  have g1 : f ≤ t := by omega
  clear h1
  by_cases h2 : t > 2147483647
  · rw [if_pos (by omega)] at hK
    obtain rfl : k = K := hK.symm
    go_enter Try.func8, Try.ntmps8
    go_wp2_with (first
      | (go_at_call 9; (with_reducible refine (ours_any _ _ _).mono ?_); rintro e w1 ⟨rfl, hb1⟩; replace hb0 := Below.more hb0 hb1; clear hb1; obtain ⟨c1, c2⟩ := bcell hb0)
      | (go_at_call 20; (with_reducible refine (HS _).out.mono ?_); rintro e w1 ⟨rfl, hb1⟩; replace hb0 := Below.more hb0 hb1; clear hb1; obtain ⟨c1, c2⟩ := bcell hb0)
      | (go_at_call 13; (with_reducible refine (awake_any _).mono ?_); rintro e w1 ⟨rfl, hb1⟩; replace hb0 := Below.more hb0 hb1; clear hb1))
    go_ret
    exact ⟨rfl, (bl1 _ _).trans (hb0.mono (by simp))⟩
  have g2 : t ≤ 2147483647 := by omega
  clear h2
  by_cases h3 : n < 0
  · rw [if_pos (by omega)] at hK
    obtain rfl : k = K := hK.symm
    go_enter Try.func8, Try.ntmps8
    go_wp2_with (first
      | (go_at_call 9; (with_reducible refine (ours_any _ _ _).mono ?_); rintro e w1 ⟨rfl, hb1⟩; replace hb0 := Below.more hb0 hb1; clear hb1; obtain ⟨c1, c2⟩ := bcell hb0)
      | (go_at_call 20; (with_reducible refine (HS _).out.mono ?_); rintro e w1 ⟨rfl, hb1⟩; replace hb0 := Below.more hb0 hb1; clear hb1; obtain ⟨c1, c2⟩ := bcell hb0)
      | (go_at_call 13; (with_reducible refine (awake_any _).mono ?_); rintro e w1 ⟨rfl, hb1⟩; replace hb0 := Below.more hb0 hb1; clear hb1))
    go_ret
    exact ⟨rfl, (bl1 _ _).trans (hb0.mono (by simp))⟩
  have g3 : 0 ≤ n := by omega
  clear h3
  by_cases h4 : n > 2147483647
  · rw [if_pos (by omega)] at hK
    obtain rfl : k = K := hK.symm
    go_enter Try.func8, Try.ntmps8
    go_wp2_with (first
      | (go_at_call 9; (with_reducible refine (ours_any _ _ _).mono ?_); rintro e w1 ⟨rfl, hb1⟩; replace hb0 := Below.more hb0 hb1; clear hb1; obtain ⟨c1, c2⟩ := bcell hb0)
      | (go_at_call 20; (with_reducible refine (HS _).out.mono ?_); rintro e w1 ⟨rfl, hb1⟩; replace hb0 := Below.more hb0 hb1; clear hb1; obtain ⟨c1, c2⟩ := bcell hb0)
      | (go_at_call 13; (with_reducible refine (awake_any _).mono ?_); rintro e w1 ⟨rfl, hb1⟩; replace hb0 := Below.more hb0 hb1; clear hb1))
    go_ret
    exact ⟨rfl, (bl1 _ _).trans (hb0.mono (by simp))⟩
  have g4 : n ≤ 2147483647 := by omega
  clear h4
  by_cases h5 : k > 2147483647
  · rw [if_pos (by omega)] at hK
    obtain rfl : k = K := hK.symm
    go_enter Try.func8, Try.ntmps8
    go_wp2_with (first
      | (go_at_call 9; (with_reducible refine (ours_any _ _ _).mono ?_); rintro e w1 ⟨rfl, hb1⟩; replace hb0 := Below.more hb0 hb1; clear hb1; obtain ⟨c1, c2⟩ := bcell hb0)
      | (go_at_call 20; (with_reducible refine (HS _).out.mono ?_); rintro e w1 ⟨rfl, hb1⟩; replace hb0 := Below.more hb0 hb1; clear hb1; obtain ⟨c1, c2⟩ := bcell hb0)
      | (go_at_call 13; (with_reducible refine (awake_any _).mono ?_); rintro e w1 ⟨rfl, hb1⟩; replace hb0 := Below.more hb0 hb1; clear hb1))
    go_ret
    exact ⟨rfl, (bl1 _ _).trans (hb0.mono (by simp))⟩
  have g5 : k ≤ 2147483647 := by omega
  clear h5
  by_cases h6 : k < f
  · rw [if_pos (by omega)] at hK
    obtain rfl : k = K := hK.symm
    go_enter Try.func8, Try.ntmps8
    go_wp2_with (first
      | (go_at_call 9; (with_reducible refine (ours_any _ _ _).mono ?_); rintro e w1 ⟨rfl, hb1⟩; replace hb0 := Below.more hb0 hb1; clear hb1; obtain ⟨c1, c2⟩ := bcell hb0)
      | (go_at_call 20; (with_reducible refine (HS _).out.mono ?_); rintro e w1 ⟨rfl, hb1⟩; replace hb0 := Below.more hb0 hb1; clear hb1; obtain ⟨c1, c2⟩ := bcell hb0)
      | (go_at_call 13; (with_reducible refine (awake_any _).mono ?_); rintro e w1 ⟨rfl, hb1⟩; replace hb0 := Below.more hb0 hb1; clear hb1))
    go_ret
    exact ⟨rfl, (bl1 _ _).trans (hb0.mono (by simp))⟩
  have g6 : f ≤ k := by omega
  clear h6
  by_cases h7 : k < t
  · rw [if_neg (by omega), if_pos (by omega)] at hK
    obtain rfl : f = K := hK.symm
    go_enter Try.func8, Try.ntmps8
    go_wp2_with (first
      | (go_at_call 9; (with_reducible refine (ours_any _ _ _).mono ?_); rintro e w1 ⟨rfl, hb1⟩; replace hb0 := Below.more hb0 hb1; clear hb1; obtain ⟨c1, c2⟩ := bcell hb0)
      | (go_at_call 20; (with_reducible refine (HS _).out.mono ?_); rintro e w1 ⟨rfl, hb1⟩; replace hb0 := Below.more hb0 hb1; clear hb1; obtain ⟨c1, c2⟩ := bcell hb0)
      | (go_at_call 13; (with_reducible refine (awake_any _).mono ?_); rintro e w1 ⟨rfl, hb1⟩; replace hb0 := Below.more hb0 hb1; clear hb1))
    go_ret
    exact ⟨rfl, (bl1 _ _).trans (hb0.mono (by simp))⟩
  have g7 : t ≤ k := by omega
  clear h7
  rw [if_neg (by omega), if_neg (by omega)] at hK
  have hq : ((K - n) == (k - (t - f))) = true := by simp; omega
  have hK1 : K ≤ 4294967296 := by omega
  have hK2 : -4294967296 ≤ K := by omega
  clear hK
  go_enter Try.func8, Try.ntmps8
  go_wp2_with (first
    | (go_at_call 9; (with_reducible refine (ours_any _ _ _).mono ?_); rintro e w1 ⟨rfl, hb1⟩; replace hb0 := Below.more hb0 hb1; clear hb1; obtain ⟨c1, c2⟩ := bcell hb0)
    | (go_at_call 20; (with_reducible refine (HS _).out.mono ?_); rintro e w1 ⟨rfl, hb1⟩; replace hb0 := Below.more hb0 hb1; clear hb1; obtain ⟨c1, c2⟩ := bcell hb0)
    | (go_at_call 13; (with_reducible refine (awake_any _).mono ?_); rintro e w1 ⟨rfl, hb1⟩; replace hb0 := Below.more hb0 hb1; clear hb1))
  go_ret
  exact ⟨rfl, (bl1 _ _).trans (hb0.mono (by simp))⟩

end Go.Proofs.Ytlkcnfkfccfhmaa
