/-
  The reference's layer 8, plainly: a tag read from its parts by their numbers is the tag read from them one behind the other.
-/
import Derived.Test.YtblebkpnjeghoaaRefH
import Derived.Test.YtblebkpnjeghoaaTagQ
namespace Go.Proofs.Ytblebkpnjeghoaa
open Go.RowKit
set_option linter.unusedVariables false

/-- At most n attributes from part number k on, and behind which part they end. -/
def attrsI (P : List PartA) : Nat → Nat → List AttA × Nat
  | 0, k => ([], k)
  | n + 1, k => match attrR P k with
    | some y => (y.1 :: (attrsI P n y.2).1, (attrsI P n y.2).2)
    | none => ([], k)

theorem attrsI_drop (P : List PartA) : ∀ (n k : Nat), attrsF n (P.drop k) = ((attrsI P n k).1, P.drop (attrsI P n k).2) := by
  intro n
  induction n with
  | zero => intro k; rfl
  | succ n ih =>
    intro k
    have h := attrR_eq P k
    cases hy : attrR P k with
    | none => rw [hy] at h; rw [attrsF_none h]; simp only [attrsI, hy]
    | some y => rw [hy] at h; rw [attrsF_some h, ih]; simp only [attrsI, hy]

theorem attrsF_fuel : ∀ (f g : Nat) (Q : List PartA), Q.length ≤ f → Q.length ≤ g → attrsF f Q = attrsF g Q := by
  intro f
  induction f with
  | zero =>
    intro g Q hf hg
    have : Q = [] := List.eq_nil_of_length_eq_zero (by omega)
    subst this
    rw [attrsF_none (show attrP [] = none from rfl), attrsF_none (show attrP [] = none from rfl)]
  | succ f ih =>
    intro g Q hf hg
    cases hq : attrP Q with
    | none => rw [attrsF_none hq, attrsF_none hq]
    | some y =>
      obtain ⟨x, Q'⟩ := y
      have hl := attrP_len hq
      obtain ⟨g, rfl⟩ : ∃ g', g = g' + 1 := ⟨g - 1, by omega⟩
      rw [attrsF_some hq, attrsF_some hq, ih g Q' (by omega) (by omega)]

/-- A tag, read from its parts by their numbers. -/
def readI (P : List PartA) : PartA × List AttA × Bool × Bool :=
  if kindP P 0 = 1 ∧ kindP P 1 = 2 then
    if kindP P (blankP P (attrsI P P.length 2).2) = 6 ∧ blankP P (attrsI P P.length 2).2 + 1 = P.length then
      if lenB (P.getD 0 (0, 0, 0)) 2 && (lenB (P.getD (blankP P (attrsI P P.length 2).2) (0, 0, 0)) 2 || decide (0 < (attrsI P P.length 2).1.length)) then (P.getD 1 (0, 0, 0), (attrsI P P.length 2).1, false, false)
      else (P.getD 1 (0, 0, 0), (attrsI P P.length 2).1, true, lenB (P.getD (blankP P (attrsI P P.length 2).2) (0, 0, 0)) 2)
    else (P.getD 1 (0, 0, 0), (attrsI P P.length 2).1, false, false)
  else ((0, 0, 0), [], false, false)

theorem readI_eq (P : List PartA) (h6 : ∀ k, kindP P k = 6 → k + 1 = P.length) : readI P = readP P := by
  have ha : attrsP (P.drop 2) = ((attrsI P P.length 2).1, P.drop (attrsI P P.length 2).2) := by
    rw [← attrsI_drop, attrsP]
    exact attrsF_fuel _ _ _ (Nat.le_refl _) (by rw [List.length_drop]; omega)
  unfold readI readP
  have ht := take_pair (P := P) (k := 0) (x := 1) (y := 2) (by omega) (by omega)
  rw [List.drop_zero] at ht
  rw [ht]
  by_cases h1 : kindP P 0 = 1 ∧ kindP P 1 = 2
  · rw [if_pos h1, if_pos h1]
    simp only [Nat.zero_add]
    rw [ha]
    simp only []
    rw [take_three, take_one (by omega)]
    by_cases hk : kindP P (blankP P (attrsI P P.length 2).2) = 6
    · rw [if_pos ⟨hk, h6 _ hk⟩, if_pos hk]
    · rw [if_neg (fun h => hk h.1), if_neg hk]
  · rw [if_neg h1, if_neg h1]

theorem kindP_zero (x : PartA) (P : List PartA) : kindP (x :: P) 0 = x.1 := rfl
theorem kindP_succ (x : PartA) (P : List PartA) (k : Nat) : kindP (x :: P) (k + 1) = kindP P k := rfl
theorem kindP_nil (k : Nat) : kindP [] k = 0 := kindP_past (by simp)
theorem prt_six {s : List Int} (h : (prt s).1 = 6) : (prt s).2 = s.length := by
  unfold prt at h ⊢
  split
  · rename_i h1; rw [if_pos h1] at h; exact absurd h (by simp)
  rename_i h1
  rw [if_neg h1] at h
  split
  · rename_i h2; rw [if_pos h2] at h; exact absurd h (by simp)
  rename_i h2
  rw [if_neg h2] at h
  split
  · rename_i h3; rw [if_pos h3] at h; exact absurd h (by simp)
  rename_i h3
  rw [if_neg h3] at h
  split
  · rename_i h4
    rw [if_pos h4] at h
    unfold quo at h
    split at h <;> exact absurd h (by simp)
  rename_i h4
  rw [if_neg h4] at h
  split
  · rfl
  · rename_i h5; rw [if_neg h5] at h; exact absurd h (by simp)

theorem parF_six : ∀ (f k : Nat) (s : List Int) (j : Nat), kindP (parF f k s) j = 6 → j + 1 = (parF f k s).length := by
  intro f
  induction f with
  | zero => intro k s j h; rw [show parF 0 k s = [] from rfl, kindP_nil] at h; omega
  | succ f ih =>
    intro k s j h
    cases s with
    | nil => rw [parF_end, kindP_nil] at h; omega
    | cons r s =>
      rw [parF] at h ⊢
      cases j with
      | zero =>
        rw [kindP_zero] at h
        have := prt_six h
        rw [List.drop_eq_nil_of_le (by omega), parF_end]
        rfl
      | succ j =>
        rw [kindP_succ] at h
        have := ih _ _ j h
        rw [List.length_cons]
        omega
theorem parts_six (l : List Int) (f t : Int) (k : Nat) (h : kindP (parts l f t) k = 6) : k + 1 = (parts l f t).length := by
  unfold parts at h ⊢
  split
  · rename_i hb; rw [if_pos hb, kindP_nil] at h; omega
  rename_i hb
  rw [if_neg hb] at h
  unfold parS at h ⊢
  split
  · rename_i j ho
    rw [ho] at h
    cases k with
    | zero => rw [kindP_zero] at h; exact absurd h (by simp)
    | succ k =>
      rw [kindP_succ] at h
      have := parF_six _ _ _ _ h
      rw [List.length_cons]
      omega
  · rename_i ho
    rw [ho] at h
    exact parF_six _ _ _ _ h
theorem readI_parts (l : List Int) (f t : Int) : readI (parts l f t) = readP (parts l f t) := readI_eq _ (parts_six l f t)

end Go.Proofs.Ytblebkpnjeghoaa
