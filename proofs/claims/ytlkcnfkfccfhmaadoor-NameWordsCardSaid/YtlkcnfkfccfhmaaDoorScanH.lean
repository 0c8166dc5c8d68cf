/-
  Plain mathematics: bytes are valid exactly if no piece of them is Bad. No program in it.
-/
import Derived.Test.YtlkcnfkfccfhmaaDoorScanG
namespace Go.Proofs.YtlkcnfkfccfhmaaDoor
open Go.RowKit

theorem drop_get (s : ByteArray) (pos j : Nat) : (⟨(s.data.toList.drop pos).toArray⟩ : ByteArray).get! j = s.get! (pos + j) := by
  rw [← Lib.getD_get!', ← Lib.getD_get!']
  simp [List.getElem?_drop]

theorem decodeL_drop (s : ByteArray) (pos : Nat) : Lib.decodeL (s.data.toList.drop pos) = Utf8.decode s pos := by
  unfold Lib.decodeL
  rw [Lib.decode_at, Lib.decode_at, drop_get, drop_get, drop_get, drop_get]
  have : (⟨(s.data.toList.drop pos).toArray⟩ : ByteArray).size - 0 = s.size - pos := by
    show (s.data.toList.drop pos).toArray.size - 0 = s.data.size - pos
    simp
  rw [this]
  simp

theorem bad_iff (s : ByteArray) (pos : Nat) (h : pos < s.size) : (itemAt s pos).1 = -1 ↔ (Utf8.decode s pos).1 = 65533 ∧ (Utf8.decode s pos).2 = 1 := by
  obtain ⟨hp, hk⟩ := itemAt_piece s pos h
  constructor
  · intro hr
    rcases U8.prefix_of_decode s pos h with h1 | ⟨hw, hpre, _⟩
    · exact h1
    · rcases hp with ⟨h1, h2, _⟩ | ⟨_, _, hno⟩
      · rw [hr] at h1
        exact absurd (h1.symm.trans (by decide)) h2
      · exact absurd hpre (hno _ hw)
  · rintro ⟨h1, h2⟩
    rcases hp with ⟨h3, h4, h5⟩ | ⟨h3, _⟩
    · obtain ⟨a, b⟩ := U8.decode_of_prefix s pos h _ (by omega) h5
      rw [h1] at a; rw [h2] at b
      rw [← a] at b
      exact absurd b (by decide)
    · exact h3

def isGood (x : Int × Int × Int) : Bool := x.1 != -1

theorem valid_from (s : ByteArray) : ∀ fuel pos, s.size ≤ pos + fuel → (itemsFrom s fuel pos).all isGood = Lib.validD (s.data.toList.drop pos) := by
  intro fuel
  induction fuel with
  | zero =>
    intro pos h
    have : s.data.toList.drop pos = [] := List.drop_eq_nil_of_le (by rw [← Lib.size_eq]; omega)
    rw [this]; rfl
  | succ f ih =>
    intro pos h
    by_cases hp : pos < s.size
    · have hne : s.data.toList.drop pos ≠ [] := fun e => by
        have := List.drop_eq_nil_iff.1 e
        rw [← Lib.size_eq] at this; omega
      have hw := Lib.decode_width_pos s pos hp
      have hstep : itemsFrom s (f + 1) pos = itemAt s pos :: itemsFrom s f (pos + (Utf8.decode s pos).2) := by simp [itemsFrom, hp]
      rw [hstep, Lib.validD_step _ hne, decodeL_drop, List.all_cons, ih _ (by omega), List.drop_drop]
      have hb := bad_iff s pos hp
      by_cases hr : (itemAt s pos).1 = -1
      · rw [if_pos (hb.1 hr)]
        have : isGood (itemAt s pos) = false := by unfold isGood; rw [hr]; rfl
        rw [this]; rfl
      · rw [if_neg (fun hh => hr (hb.2 hh))]
        have : isGood (itemAt s pos) = true := by unfold isGood; simpa using hr
        rw [this]; simp
    · rw [itemsFrom_end s _ pos hp]
      have : s.data.toList.drop pos = [] := List.drop_eq_nil_of_le (by rw [← Lib.size_eq]; omega)
      rw [this]; rfl

theorem valid_items (s : ByteArray) : (itemsOf s).all isGood = Lib.validD s.data.toList := by
  have := valid_from s s.size 0 (by omega)
  rwa [List.drop_zero] at this

end Go.Proofs.YtlkcnfkfccfhmaaDoor
