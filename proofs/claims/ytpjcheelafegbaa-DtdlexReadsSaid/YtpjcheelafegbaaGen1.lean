/-
  What readers of parts share: kinds that are taken.
-/
import Derived.Test.YtpjcheelafegbaaGen0
namespace Go.Proofs.Ytpjcheelafegbaa
open Go.RowKit
set_option linter.unusedVariables false

/-- What take makes of parts: those that it takes, whether it does, what is left. -/
def takeP (K : List Nat) (Q : List PartA) : List PartA × Bool × List PartA := if (Q.take K.length).map (·.1) = K then (Q.take K.length, true, Q.drop K.length) else ([], false, Q)

theorem AtB.drop {w : World} {B b off : Nat} {Q : List PartA} (h : AtB w B (some ⟨b, off, none⟩) (parsCells Q)) (m : Nat) (hm : m ≤ Q.length) : AtB w B (some ⟨b, off + m * 3, none⟩) (parsCells (Q.drop m)) := fun j u hj => by
  have e : parsCells Q = parsCells (Q.take m) ++ parsCells (Q.drop m) := by rw [← parsCells_append, List.take_append_drop]
  have hl : (parsCells (Q.take m)).length = m * 3 := by rw [parsCells_length, List.length_take]; rw [Nat.min_eq_left hm]
  obtain ⟨b', off', ha, hlt, hc⟩ := h (m * 3 + j) u (by rw [e, List.getElem?_append_right (by omega), hl]; simpa using hj)
  simp only [Option.some.injEq, Addr.mk.injEq] at ha
  obtain ⟨rfl, rfl, _⟩ := ha
  exact ⟨b, off + m * 3, rfl, hlt, by rw [Nat.add_assoc]; exact hc⟩

theorem AtB.take {w : World} {B : Nat} {a : Option Addr} {Q : List PartA} (h : AtB w B a (parsCells Q)) (m : Nat) : AtB w B a (parsCells (Q.take m)) := fun j u hj => by
  have e : parsCells Q = parsCells (Q.take m) ++ parsCells (Q.drop m) := by rw [← parsCells_append, List.take_append_drop]
  refine h j u ?_
  rw [e, List.getElem?_append_left (List.getElem?_eq_some_iff.1 hj).1]
  exact hj

def KindsUp (Q : List PartA) (K : List Nat) (j : Nat) : Prop := ∀ x, x < j → (Q.map (·.1)).getD x 0 = K.getD x 0

theorem kinds_all {Q : List PartA} {K : List Nat} (hm : K.length ≤ Q.length) (h : KindsUp Q K K.length) : (Q.take K.length).map (·.1) = K := by
  refine List.ext_getElem (by simp; omega) fun j h1 h2 => ?_
  have := h j h2
  simp at h1
  rw [List.getD_eq_getElem?_getD, List.getElem?_eq_getElem (by simp; omega), List.getD_eq_getElem?_getD, List.getElem?_eq_getElem h2] at this
  simpa using this

theorem kinds_not {Q : List PartA} {K : List Nat} (j : Nat) (hj : j < K.length) (hq : j < Q.length) (h : (Q.map (·.1)).getD j 0 ≠ K.getD j 0) : ¬ (Q.take K.length).map (·.1) = K := fun he => h (by
  conv => rhs; rw [← he]
  simp [List.getD_eq_getElem?_getD, List.getElem?_take, hj])

end Go.Proofs.Ytpjcheelafegbaa
