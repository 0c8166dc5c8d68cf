/-
  Plain mathematics: a rune's bytes by UTF-8. No program in it.
-/
import Derived.Lib.RuneBytes
import Derived.Lib.Small
namespace Go.Proofs.Ytbljgoieieoamaa
namespace U8

/-- How many bytes a rune has; 0 if it has none. -/
def width (r : Int) : Int :=
  if r < 0 ∨ 1114111 < r ∨ (55296 ≤ r ∧ r ≤ 57343) then 0 else if r < 128 then 1 else if r < 2048 then 2 else if r < 65536 then 3 else 4

/-- A rune's bytes. -/
def enc (r : Int) : List Int := if width r = 0 then [] else Lib.encodeRuneZ r

/-- All runes' bytes. -/
def encs (l : List Int) : List Int := l.flatMap enc

theorem width_cases (r : Int) : width r = 0 ∨ width r = 1 ∨ width r = 2 ∨ width r = 3 ∨ width r = 4 := by
  unfold width; repeat' split
  all_goals omega

theorem width_bd (r : Int) : 0 ≤ width r ∧ width r ≤ 4 := by have := width_cases r; omega

theorem width_max (r : Int) : max (Lib.runeLen r) 0 = width r := by
  unfold Lib.runeLen width
  repeat' split
  all_goals omega

theorem range_one {r : Int} (h : width r = 1) : 0 ≤ r ∧ r < 128 := by
  unfold width at h; repeat' split at h
  all_goals omega
theorem range_two {r : Int} (h : width r = 2) : 128 ≤ r ∧ r < 2048 := by
  unfold width at h; repeat' split at h
  all_goals omega
theorem range_three {r : Int} (h : width r = 3) : 2048 ≤ r ∧ r < 65536 := by
  unfold width at h; repeat' split at h
  all_goals omega
theorem range_four {r : Int} (h : width r = 4) : 65536 ≤ r ∧ r < 1114112 := by
  unfold width at h; repeat' split at h
  all_goals omega

theorem enc_zero {r : Int} (h : width r = 0) : enc r = [] := by simp [enc, h]
theorem enc_one {r : Int} (h : width r = 1) : enc r = [r] := by
  have : 0 ≤ r ∧ r ≤ 127 := by unfold width at h; repeat' split at h
                               all_goals omega
  rw [enc, if_neg (by omega), Lib.encodeRuneZ_one this.1 this.2]
theorem enc_two {r : Int} (h : width r = 2) : enc r = [192 + r / 64, 128 + r % 64] := by
  have : 128 ≤ r ∧ r ≤ 2047 := by unfold width at h; repeat' split at h
                                  all_goals omega
  rw [enc, if_neg (by omega), Lib.encodeRuneZ_two this.1 this.2]
theorem enc_three {r : Int} (h : width r = 3) : enc r = [224 + r / 4096, 128 + r / 64 % 64, 128 + r % 64] := by
  have : (2048 ≤ r ∧ r < 55296) ∨ (57343 < r ∧ r ≤ 65535) := by unfold width at h; repeat' split at h
                                                                all_goals omega
  rw [enc, if_neg (by omega), Lib.encodeRuneZ_three this]
theorem enc_four {r : Int} (h : width r = 4) : enc r = [240 + r / 262144, 128 + r / 4096 % 64, 128 + r / 64 % 64, 128 + r % 64] := by
  have : 65536 ≤ r ∧ r ≤ 1114111 := by unfold width at h; repeat' split at h
                                       all_goals omega
  rw [enc, if_neg (by omega), Lib.encodeRuneZ_four this.1 this.2]

theorem width_range {r : Int} (h : width r ≠ 0) : 0 ≤ r ∧ r ≤ 1114111 := by
  unfold width at h
  split at h
  · exact absurd rfl h
  · omega

theorem enc_length (r : Int) : ((enc r).length : Int) = width r := by
  rcases width_cases r with h | h | h | h | h
  · rw [enc_zero h, h]; rfl
  · rw [enc_one h, h]; rfl
  · rw [enc_two h, h]; rfl
  · rw [enc_three h, h]; rfl
  · rw [enc_four h, h]; rfl

theorem enc_byte (r : Int) : ∀ x ∈ enc r, 0 ≤ x ∧ x < 256 := by
  intro x hx
  unfold enc at hx
  split at hx
  · simp at hx
  · exact Lib.encodeRuneZ_byte r x hx

theorem encs_byte (l : List Int) : ∀ x ∈ encs l, 0 ≤ x ∧ x < 256 := by
  intro x hx
  obtain ⟨r, _, h⟩ := List.mem_flatMap.1 hx
  exact enc_byte r x h

theorem encs_nil : encs [] = [] := rfl
theorem encs_snoc (l : List Int) (r : Int) : encs (l ++ [r]) = encs l ++ enc r := by simp [encs]
theorem encs_length_le (l : List Int) : (encs l).length ≤ 4 * l.length := by
  induction l with
  | nil => simp [encs]
  | cons r l ih =>
    have h1 := enc_length r
    have h2 := width_bd r
    simp only [encs, List.flatMap_cons, List.length_append, List.length_cons] at *
    omega

/-- The widths' sum. -/
def widths (l : List Int) : Int := (l.map width).sum
theorem widths_nil : widths [] = 0 := rfl
theorem widths_snoc (l : List Int) (r : Int) : widths (l ++ [r]) = widths l + width r := by simp [widths]
theorem widths_eq (l : List Int) : ((encs l).length : Int) = widths l := by
  induction l with
  | nil => rfl
  | cons r l ih =>
    have h1 := enc_length r
    simp only [encs, widths, List.flatMap_cons, List.length_append, List.map_cons, List.sum_cons, Int.natCast_add] at *
    omega
theorem widths_bd (l : List Int) : 0 ≤ widths l ∧ widths l ≤ 4 * l.length := by
  have := widths_eq l; have := encs_length_le l; omega

theorem take_succ (l : List Int) (k : Nat) (h : k < l.length) : l.take (k + 1) = l.take k ++ [l.getD k 0] := by
  rw [List.take_succ_eq_append_getElem h]; simp [h]

end U8
end Go.Proofs.Ytbljgoieieoamaa
