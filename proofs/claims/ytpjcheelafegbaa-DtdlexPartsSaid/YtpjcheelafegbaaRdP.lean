/-
  The reference's layer 9, plainly: quotes rune by rune.
-/
import Derived.Test.YtpjcheelafegbaaRefS
import Derived.Test.YtpjcheelafegbaaDxQ
namespace Go.Proofs.Ytpjcheelafegbaa
open Go.RowKit
set_option linter.unusedVariables false

/-- The quote that is open behind some runes. -/
def stq (q : Int) : List Int → Nat → Int
  | _, 0 => q
  | [], _ + 1 => q
  | r :: l, i + 1 => stq (qstep q r) l i
theorem stq_zero (q : Int) (s : List Int) : stq q s 0 = q := by cases s <;> rfl
theorem stq_succ : ∀ (s : List Int) (q : Int) (j : Nat), j < s.length → stq q s (j + 1) = qstep (stq q s j) (s.getD j 0) := by
  intro s
  induction s with
  | nil => intro q j h; simp at h
  | cons r s ih =>
    intro q j h
    cases j with
    | zero => simp [stq]
    | succ j => simpa [stq] using ih (qstep q r) j (by simpa using h)
theorem bareP_at (S : List Int) : ∀ (s : List Int) (q : Int) (k : Nat), (∀ j, j < k → qstop S (stq q s j) (s.getD j 0) = false) → k < s.length → qstop S (stq q s k) (s.getD k 0) = true → bareP S q s = k := by
  intro s
  induction s with
  | nil => intro q k _ h; simp at h
  | cons r s ih =>
    intro q k h1 h2 h3
    cases k with
    | zero => rw [bareP, if_pos (by simpa [stq] using h3)]
    | succ k =>
      have h0 := h1 0 (by omega)
      rw [bareP, if_neg (by simpa [stq] using h0), ih (qstep q r) k (fun j hj => by simpa [stq] using h1 (j + 1) (by omega)) (by simpa using h2) (by simpa [stq] using h3)]
      omega
theorem bareP_none (S : List Int) : ∀ (s : List Int) (q : Int), (∀ j, j < s.length → qstop S (stq q s j) (s.getD j 0) = false) → bareP S q s = s.length := by
  intro s
  induction s with
  | nil => intro q _; rfl
  | cons r s ih =>
    intro q h1
    have h0 := h1 0 (by simp)
    rw [bareP, if_neg (by simpa [stq] using h0), ih (qstep q r) (fun j hj => by simpa [stq] using h1 (j + 1) (by simpa using hj)), List.length_cons]
    omega
theorem qstop_gt (q r : Int) : qstop [62] q r = decide (q = 0 ∧ r = 62) := by
  unfold qstop
  by_cases h : r = 62
  · subst h
    by_cases hq : q = 0 <;> simp [hq]
  · have : ([62] : List Int).contains r = false := by simp [h]
    rw [this]
    simp [h]
theorem dcl_at {s : List Int} {k : Nat} (h1 : ∀ j, j < k → ¬ (stq 0 s j = 0 ∧ s.getD j 0 = 62)) (h2 : k < s.length) (h3 : stq 0 s k = 0 ∧ s.getD k 0 = 62) : dcl 0 s = some (k + 1) := by
  have hb := bareP_at [62] s 0 k (fun j hj => by rw [qstop_gt]; exact decide_eq_false (h1 j hj)) h2 (by rw [qstop_gt]; exact decide_eq_true h3)
  unfold dcl
  rw [hb, if_pos h2]
theorem dcl_none {s : List Int} (h1 : ∀ j, j < s.length → ¬ (stq 0 s j = 0 ∧ s.getD j 0 = 62)) : dcl 0 s = none := by
  have hb := bareP_none [62] s 0 (fun j hj => by rw [qstop_gt]; exact decide_eq_false (h1 j hj))
  unfold dcl
  rw [hb, if_neg (by omega)]
theorem stq_sign : ∀ (s : List Int) (q : Int) (j : Nat), (q = 0 ∨ q = 34 ∨ q = 39) → (stq q s j = 0 ∨ stq q s j = 34 ∨ stq q s j = 39) := by
  intro s
  induction s with
  | nil => intro q j h; cases j <;> exact h
  | cons r s ih =>
    intro q j h
    cases j with
    | zero => exact h
    | succ j =>
      refine ih (qstep q r) j ?_
      unfold qstep
      split
      · split
        · exact .inl rfl
        · exact h
      · split
        · rename_i h2; exact .inr h2
        · exact .inl rfl

/-- Where something stands, as a number; -1: nowhere. -/
def fndV (k : Nat) (o : Option Nat) : Int := match o with | some q => (k : Int) + q | none => -1
/-- The place ahead of where a declaration ends; -1: it does not. -/
def brkV (k : Nat) (o : Option Nat) : Int := match o with | some m => (k : Int) + m - 1 | none => -1

end Go.Proofs.Ytpjcheelafegbaa
