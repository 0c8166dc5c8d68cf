/-
  SpanLen: the walk.
-/
import Derived.Test.YtlkcnfkfccfhmaaSpG
namespace Go.Proofs.Ytlkcnfkfccfhmaa
open Go.RowKit
set_option linter.unusedVariables false

set_option maxHeartbeats 1000000 in
theorem spanLen_walk (f t : Int) (w : World) (hf : -9223372036854775808 ≤ f) (hf' : f ≤ 9223372036854775807) (ht : -9223372036854775808 ≤ t) (ht' : t ≤ 9223372036854775807) :
    Calls Try.prog 4 #[.agg #[.int .i64 f, .int .i64 t]] w fun e w' => e = .returned (.bool true) ∧ Below w.heap.size w w' := by
  have HL := fun w => Lib.hid (len_any f t w hf hf' ht ht')
  have hL : lenF f t = if t ≤ f then 0 else min (t - f) 2147483647 := rfl
  generalize lenF f t = L at HL hL
  have hb0 := Below.refl (w.alloc (.cells #[.int .i64 f, .int .i64 t] 23)).heap.size (w.alloc (.cells #[.int .i64 f, .int .i64 t] 23))
  by_cases h : t ≤ f
  · rw [if_pos h] at hL
    subst hL
    go_enter Try.func4, Try.ntmps4
    go_wp2_with (first
      | (go_at_call 9; (with_reducible refine (ours_any _ _ _).mono ?_); rintro e w1 ⟨rfl, hb1⟩; replace hb0 := Below.more hb0 hb1; clear hb1; obtain ⟨c1, c2⟩ := bcell hb0)
      | (go_at_call 14; (with_reducible refine (HL _).out.mono ?_); rintro e w1 ⟨rfl, hb1⟩; replace hb0 := Below.more hb0 hb1; clear hb1; obtain ⟨c1, c2⟩ := bcell hb0)
      | (go_at_call 13; (with_reducible refine (awake_any _).mono ?_); rintro e w1 ⟨rfl, hb1⟩; replace hb0 := Below.more hb0 hb1; clear hb1))
    go_ret
    exact ⟨rfl, (bl1 _ _).trans (hb0.mono (by simp))⟩
  · have hlt : f < t := by omega
    rw [if_neg h] at hL
    clear h
    by_cases hbig : f < -2305843009213693952 ∨ 2305843009213693952 < t
    · have l1 : 1 ≤ L := by omega
      have l2 : L ≤ 2147483647 := by omega
      clear hL
      by_cases hb1 : f < -2305843009213693952
      · clear hbig
        go_enter Try.func4, Try.ntmps4
        go_wp2_with (first
          | (go_at_call 9; (with_reducible refine (ours_any _ _ _).mono ?_); rintro e w1 ⟨rfl, hb1⟩; replace hb0 := Below.more hb0 hb1; clear hb1; obtain ⟨c1, c2⟩ := bcell hb0)
          | (go_at_call 14; (with_reducible refine (HL _).out.mono ?_); rintro e w1 ⟨rfl, hb1⟩; replace hb0 := Below.more hb0 hb1; clear hb1; obtain ⟨c1, c2⟩ := bcell hb0)
          | (go_at_call 13; (with_reducible refine (awake_any _).mono ?_); rintro e w1 ⟨rfl, hb1⟩; replace hb0 := Below.more hb0 hb1; clear hb1))
        go_ret
        exact ⟨rfl, (bl1 _ _).trans (hb0.mono (by simp))⟩
      · have hb2 : 2305843009213693952 < t := by omega
        have hb3 : -2305843009213693952 ≤ f := by omega
        clear hbig hb1
        go_enter Try.func4, Try.ntmps4
        go_wp2_with (first
          | (go_at_call 9; (with_reducible refine (ours_any _ _ _).mono ?_); rintro e w1 ⟨rfl, hb1⟩; replace hb0 := Below.more hb0 hb1; clear hb1; obtain ⟨c1, c2⟩ := bcell hb0)
          | (go_at_call 14; (with_reducible refine (HL _).out.mono ?_); rintro e w1 ⟨rfl, hb1⟩; replace hb0 := Below.more hb0 hb1; clear hb1; obtain ⟨c1, c2⟩ := bcell hb0)
          | (go_at_call 13; (with_reducible refine (awake_any _).mono ?_); rintro e w1 ⟨rfl, hb1⟩; replace hb0 := Below.more hb0 hb1; clear hb1))
        go_ret
        exact ⟨rfl, (bl1 _ _).trans (hb0.mono (by simp))⟩
    · have hb2 : t ≤ 2305843009213693952 := by omega
      have hb3 : -2305843009213693952 ≤ f := by omega
      clear hbig
      by_cases hm : t - f ≤ 2147483647
      · obtain rfl : L = t - f := by omega
        clear hL
        go_enter Try.func4, Try.ntmps4
        go_wp2_with (first
          | (go_at_call 9; (with_reducible refine (ours_any _ _ _).mono ?_); rintro e w1 ⟨rfl, hb1⟩; replace hb0 := Below.more hb0 hb1; clear hb1; obtain ⟨c1, c2⟩ := bcell hb0)
          | (go_at_call 14; (with_reducible refine (HL _).out.mono ?_); rintro e w1 ⟨rfl, hb1⟩; replace hb0 := Below.more hb0 hb1; clear hb1; obtain ⟨c1, c2⟩ := bcell hb0)
          | (go_at_call 13; (with_reducible refine (awake_any _).mono ?_); rintro e w1 ⟨rfl, hb1⟩; replace hb0 := Below.more hb0 hb1; clear hb1))
        go_ret
        exact ⟨rfl, (bl1 _ _).trans (hb0.mono (by simp))⟩
      · obtain rfl : L = 2147483647 := by omega
        have hm2 : 2147483647 < t - f := by omega
        clear hL hm
        go_enter Try.func4, Try.ntmps4
        go_wp2_with (first
          | (go_at_call 9; (with_reducible refine (ours_any _ _ _).mono ?_); rintro e w1 ⟨rfl, hb1⟩; replace hb0 := Below.more hb0 hb1; clear hb1; obtain ⟨c1, c2⟩ := bcell hb0)
          | (go_at_call 14; (with_reducible refine (HL _).out.mono ?_); rintro e w1 ⟨rfl, hb1⟩; replace hb0 := Below.more hb0 hb1; clear hb1; obtain ⟨c1, c2⟩ := bcell hb0)
          | (go_at_call 13; (with_reducible refine (awake_any _).mono ?_); rintro e w1 ⟨rfl, hb1⟩; replace hb0 := Below.more hb0 hb1; clear hb1))
        go_ret
        exact ⟨rfl, (bl1 _ _).trans (hb0.mono (by simp))⟩

end Go.Proofs.Ytlkcnfkfccfhmaa
