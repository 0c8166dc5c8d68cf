/-
  Contracts of layer 6: Shift.
-/
import Derived.Test.YtlkcnfkfccfhmaaSpA
namespace Go.Proofs.Ytlkcnfkfccfhmaa
open Go.RowKit
set_option linter.unusedVariables false

def shiftF (k f t n : Int) : Int := if f < 0 ∨ t < f ∨ 2147483647 < t ∨ n < 0 ∨ 2147483647 < n ∨ 2147483647 < k ∨ k < f then k else if k < t then f else k - (t - f) + n

theorem len_in (f t : Int) (w : World) (hf : 0 ≤ f) (h : f ≤ t) (ht' : t ≤ 2147483647) :
    Calls Try.prog 14 #[.agg #[.int .i64 f, .int .i64 t]] w fun e w' => e = .returned (.int .i64 (t - f)) ∧ Below w.heap.size w w' :=
  (len_any f t w (by omega) (by omega) (by omega) (by omega)).mono fun e w' ⟨he, hb⟩ => ⟨by rw [he]; exact ret_i (by unfold lenF; split <;> omega), hb⟩

set_option maxHeartbeats 2000000 in
theorem shift_any (k f t n : Int) (w : World) (hk : -9223372036854775808 ≤ k) (hk' : k ≤ 9223372036854775807) :
    Calls Try.prog 20 #[.int .i64 k, .agg #[.int .i64 f, .int .i64 t], .int .i64 n] w fun e w' => e = .returned (.int .i64 (shiftF k f t n)) ∧ Below w.heap.size w w' := by
  by_cases h0 : f < 0
  · have HE := Lib.hid (show shiftF k f t n = k by unfold shiftF; rw [if_pos (by omega)])
    go_enter Try.func20, Try.ntmps20
    go_wp2
    go_ret
    exact ⟨ret_i HE.out.symm, bl1 _ _⟩
  have g0 : 0 ≤ f := by omega
  clear h0
  by_cases h1 : t < f
  · have HE := Lib.hid (show shiftF k f t n = k by unfold shiftF; rw [if_pos (by omega)])
    go_enter Try.func20, Try.ntmps20
    go_wp2
    go_ret
    exact ⟨ret_i HE.out.symm, bl1 _ _⟩
  have g1 : f ≤ t := by omega
  clear h1
  by_cases h2 : t > 2147483647
  · have HE := Lib.hid (show shiftF k f t n = k by unfold shiftF; rw [if_pos (by omega)])
    go_enter Try.func20, Try.ntmps20
    go_wp2
    go_ret
    exact ⟨ret_i HE.out.symm, bl1 _ _⟩
  have g2 : t ≤ 2147483647 := by omega
  clear h2
  by_cases h3 : n < 0
  · have HE := Lib.hid (show shiftF k f t n = k by unfold shiftF; rw [if_pos (by omega)])
    go_enter Try.func20, Try.ntmps20
    go_wp2
    go_ret
    exact ⟨ret_i HE.out.symm, bl1 _ _⟩
  have g3 : 0 ≤ n := by omega
  clear h3
  by_cases h4 : n > 2147483647
  · have HE := Lib.hid (show shiftF k f t n = k by unfold shiftF; rw [if_pos (by omega)])
    go_enter Try.func20, Try.ntmps20
    go_wp2
    go_ret
    exact ⟨ret_i HE.out.symm, bl1 _ _⟩
  have g4 : n ≤ 2147483647 := by omega
  clear h4
  by_cases h5 : k > 2147483647
  · have HE := Lib.hid (show shiftF k f t n = k by unfold shiftF; rw [if_pos (by omega)])
    go_enter Try.func20, Try.ntmps20
    go_wp2
    go_ret
    exact ⟨ret_i HE.out.symm, bl1 _ _⟩
  have g5 : k ≤ 2147483647 := by omega
  clear h5
  by_cases h6 : k < f
  · have HE := Lib.hid (show shiftF k f t n = k by unfold shiftF; rw [if_pos (by omega)])
    go_enter Try.func20, Try.ntmps20
    go_wp2
    go_ret
    exact ⟨ret_i HE.out.symm, bl1 _ _⟩
  have g6 : f ≤ k := by omega
  clear h6
  by_cases h7 : k < t
  · have HE := Lib.hid (show shiftF k f t n = f by unfold shiftF; rw [if_neg (by omega), if_pos (by omega)])
    go_enter Try.func20, Try.ntmps20
    go_wp2
    go_ret
    exact ⟨ret_i HE.out.symm, bl1 _ _⟩
  have g7 : t ≤ k := by omega
  clear h7
  have HE := Lib.hid (show shiftF k f t n = k - (t - f) + n by unfold shiftF; rw [if_neg (by omega), if_neg (by omega)])
  go_enter Try.func20, Try.ntmps20
  go_wp2_with (go_at_call 14; (with_reducible refine (len_in _ _ _ (by assumption) (by assumption) (by assumption)).mono ?_); rintro e w1 ⟨rfl, hb1⟩)
  go_ret
  exact ⟨ret_i HE.out.symm, (bl1 _ _).trans (hb1.mono (by simp))⟩

end Go.Proofs.Ytlkcnfkfccfhmaa
