/-
  Layer 9, plainly: the words of a declaration.
-/
import Derived.Test.YtpjcheelafegbaaGen0
namespace Go.Proofs.Ytpjcheelafegbaa
open Go.RowKit
set_option linter.unusedVariables false

/-- A text in quotes, with both. -/
def quoD (r : Int) (s : List Int) : Nat × Nat := match fnd [r] (s.drop 1) with | some k => (4, k + 2) | none => (8, 1)
/-- The word with which runes begin: its kind, how many runes it has. -/
def wdP (s : List Int) : Nat × Nat :=
  if spaceB (s.getD 0 0) then (3, runP spaceB s)
  else if startB (s.getD 0 0) then (2, leadP s)
  else if s.getD 0 0 = 34 ∨ s.getD 0 0 = 39 then quoD (s.getD 0 0) s
  else (8, 1)

theorem wdP_ok (s : List Int) (h0 : 0 < s.length) : 0 < (wdP s).2 ∧ (wdP s).2 ≤ s.length ∧ 2 ≤ (wdP s).1 ∧ (wdP s).1 ≤ 8 := by
  obtain ⟨r, s', rfl⟩ : ∃ r s', s = r :: s' := by cases s with | nil => simp at h0 | cons r s' => exact ⟨r, s', rfl⟩
  unfold wdP
  simp only [List.getD_cons_zero]
  split
  · rename_i h
    refine ⟨?_, runP_le spaceB (r :: s'), by simp only []; omega, by simp only []; omega⟩
    show 0 < runP spaceB (r :: s')
    unfold runP
    rw [List.takeWhile_cons, if_pos h]
    simp
  split
  · rename_i h
    refine ⟨?_, leadP_le (r :: s'), by simp only []; omega, by simp only []; omega⟩
    show 0 < leadP (r :: s')
    rw [leadP, if_pos h, run, List.takeWhile_cons, if_pos (start_is_name h)]
    simp
  split
  · unfold quoD
    split
    · rename_i k hf
      have := (fnd_le _ _ _ hf).1
      simp at this ⊢
      omega
    · exact ⟨by simp only []; omega, h0, by simp only []; omega, by simp only []; omega⟩
  · exact ⟨by simp only []; omega, h0, by simp only []; omega, by simp only []; omega⟩

/-- Parts one behind the other, as a reader of one part tells them. -/
def rowF (p : List Int → Nat × Nat) : Nat → Nat → List Int → List PartA
  | 0, _, _ => []
  | _ + 1, _, [] => []
  | f + 1, k, r :: s => ((p (r :: s)).1, k, k + (p (r :: s)).2) :: rowF p f (k + (p (r :: s)).2) ((r :: s).drop (p (r :: s)).2)
/-- A row's parts, that begins at a place. -/
def rowP (p : List Int → Nat × Nat) (k : Nat) (s : List Int) : List PartA := rowF p s.length k s
theorem rowF_end {p : List Int → Nat × Nat} {f k : Nat} : rowF p f k [] = [] := by cases f <;> rfl
theorem rowF_cons {p : List Int → Nat × Nat} {f j : Nat} {s : List Int} (h : j < s.length) (k : Nat) : rowF p (f + 1) k (s.drop j) = ((p (s.drop j)).1, k, k + (p (s.drop j)).2) :: rowF p f (k + (p (s.drop j)).2) (s.drop (j + (p (s.drop j)).2)) := by
  rw [← dd, drop_cons h, rowF]
/-- A reader that takes at least one rune, and no more than there are. -/
def Reads (p : List Int → Nat × Nat) : Prop := ∀ s : List Int, 0 < s.length → 0 < (p s).2 ∧ (p s).2 ≤ s.length
theorem rowF_fuel {p : List Int → Nat × Nat} (hp : Reads p) : ∀ (f g k : Nat) (s : List Int), s.length ≤ f → s.length ≤ g → rowF p f k s = rowF p g k s := by
  intro f
  induction f with
  | zero => intro g k s h _; cases s with | nil => rw [rowF_end, rowF_end] | cons r s => simp at h
  | succ f ih =>
    intro g k s h hg
    cases s with
    | nil => rw [rowF_end, rowF_end]
    | cons r s =>
      cases g with
      | zero => simp at hg
      | succ g =>
        have h1 := hp (r :: s) (by simp)
        rw [rowF, rowF, ih g _ _ (by rw [List.length_drop]; omega) (by rw [List.length_drop]; omega)]
theorem rowF_len {p : List Int → Nat × Nat} (hp : Reads p) : ∀ (f k : Nat) (s : List Int), (rowF p f k s).length ≤ s.length := by
  intro f
  induction f with
  | zero => intro k s; simp [rowF]
  | succ f ih =>
    intro k s
    cases s with
    | nil => simp [rowF]
    | cons r s =>
      have h1 := hp (r :: s) (by simp)
      have h2 := ih (k + (p (r :: s)).2) ((r :: s).drop (p (r :: s)).2)
      rw [List.length_drop] at h2
      rw [rowF, List.length_cons]
      omega
/-- Parts one behind the other from a place on up to another one, none of them empty. -/
def chainD : Nat → List PartA → Nat → Prop
  | k, [], e => k = e
  | k, x :: l, e => x.2.1 = k ∧ k < x.2.2 ∧ chainD x.2.2 l e
theorem rowF_chain {p : List Int → Nat × Nat} (hp : Reads p) : ∀ (f k : Nat) (s : List Int), s.length ≤ f → chainD k (rowF p f k s) (k + s.length) := by
  intro f
  induction f with
  | zero => intro k s h; cases s with | nil => simp [rowF, chainD] | cons r s => simp at h
  | succ f ih =>
    intro k s h
    cases s with
    | nil => simp [rowF, chainD]
    | cons r s =>
      have h1 := hp (r :: s) (by simp)
      have h2 := ih (k + (p (r :: s)).2) ((r :: s).drop (p (r :: s)).2) (by rw [List.length_drop]; omega)
      rw [List.length_drop, show k + (p (r :: s)).2 + ((r :: s).length - (p (r :: s)).2) = k + (r :: s).length by omega] at h2
      rw [rowF]
      exact ⟨rfl, by simp only []; omega, h2⟩
theorem wdP_reads : Reads wdP := fun s h => ⟨(wdP_ok s h).1, (wdP_ok s h).2.1⟩
/-- Parts, all places further on. -/
def shiftP (d : Nat) (l : List PartA) : List PartA := l.map fun x => (x.1, x.2.1 + d, x.2.2 + d)
theorem rowF_shift {p : List Int → Nat × Nat} (d : Nat) : ∀ (f k : Nat) (s : List Int), shiftP d (rowF p f k s) = rowF p f (k + d) s := by
  intro f
  induction f with
  | zero => intro k s; simp [rowF, shiftP]
  | succ f ih =>
    intro k s
    cases s with
    | nil => simp [rowF, shiftP]
    | cons r s =>
      rw [rowF, rowF]
      have := ih (k + (p (r :: s)).2) ((r :: s).drop (p (r :: s)).2)
      unfold shiftP at this ⊢
      rw [List.map_cons, this]
      simp only [Nat.add_right_comm]

end Go.Proofs.Ytpjcheelafegbaa
