/-
  Plain mathematics: the pieces of runes' bytes, by layer 2.
-/
import Derived.Test.YtmibajofbagphaaDoorWideE
import Derived.Test.YtmibajofbagphaaDoorWideD
namespace Go.Proofs.YtmibajofbagphaaDoor
open Go.RowKit

/-- The runes that have bytes. -/
def wkept (l : List Int) : List Int := l.filter fun r => !decide (U16.width r = 0)

theorem wkept_snoc (l : List Int) (r : Int) : wkept (l ++ [r]) = wkept l ++ (if U16.width r ≠ 0 then [r] else []) := by
  unfold wkept; rw [List.filter_append]; congr 1; by_cases h : U16.width r = 0 <;> simp [h]

/-- What pieces of runes' bytes are. -/
def wpieces : List Int → Int → List (Int × Int × Int)
  | [], _ => []
  | r :: l, o => (r, o, U16.width r) :: wpieces l (o + U16.width r)

theorem wpieces_length (l : List Int) (o : Int) : (wpieces l o).length = l.length := by
  induction l generalizing o with
  | nil => rfl
  | cons r l ih => simp [wpieces, ih]
theorem wpieces_at (l : List Int) (o : Int) (k : Nat) (r : Int) (h : l[k]? = some r) : ∃ x, (wpieces l o)[k]? = some x ∧ x.1 = r ∧ x.2.2 = U16.width r := by
  induction l generalizing o k with
  | nil => simp at h
  | cons y l ih =>
    cases k with
    | zero => simp at h; subst h; exact ⟨_, rfl, rfl, rfl⟩
    | succ k => simp at h; obtain ⟨x, a, b⟩ := ih (o + U16.width y) k h; exact ⟨x, by simpa [wpieces] using a, b⟩

theorem wencs_kept (big : Bool) (l : List Int) : U16.encs big (wkept l) = U16.encs big l := by
  induction l with
  | nil => rfl
  | cons r l ih =>
    unfold wkept at *
    by_cases h : U16.width r = 0
    · have he : U16.enc big r = [] := by rw [U16.enc, if_neg (by omega), if_neg (by omega)]
      simp only [U16.encs] at ih
      simp [U16.encs, h, he, ih]
    · simp only [U16.encs] at ih
      simp [U16.encs, h, ih]

theorem unit_put (big : Bool) (u : Int) (h0 : 0 ≤ u) (h1 : u ≤ 65535) (t : List Int) : U16.unitAt (U16.put big u ++ t) big 0 = u := by
  cases big <;> simp [U16.unitAt, U16.unit, U16.put] <;> omega
theorem unit_put2 (big : Bool) (u v : Int) (h0 : 0 ≤ v) (h1 : v ≤ 65535) (t : List Int) : U16.unitAt (U16.put big u ++ (U16.put big v ++ t)) big 2 = v := by
  cases big <;> simp [U16.unitAt, U16.unit, U16.put] <;> omega

/-- The piece at the beginning of a rune's bytes is the rune. -/
theorem piece_enc (big : Bool) (r : Int) (t : List Int) (hw : U16.width r ≠ 0) : U16.piece (U16.enc big r ++ t) big (U16.enc big r ++ t).length 0 = (r, U16.width r) := by
  rcases U16.width_cases r with h | h | h
  · exact absurd h hw
  · have hr : 0 ≤ r ∧ r ≤ 65535 ∧ ¬ (55296 ≤ r ∧ r < 57344) := by rw [U16.width_eq] at h; (repeat' split at h) <;> omega
    have he : U16.enc big r = U16.put big r := by rw [U16.enc, if_pos h]
    have hl := U16.put_length big r
    rw [he, U16.piece, unit_put big r hr.1 hr.2.1, if_neg (by rw [List.length_append]; omega), if_pos (by omega), h]
  · have hr : 65536 ≤ r ∧ r ≤ 1114111 := by rw [U16.width_eq] at h; (repeat' split at h) <;> omega
    have he : U16.enc big r = U16.put big (55296 + (r - 65536) / 1024) ++ U16.put big (56320 + (r - 65536) % 1024) := by rw [U16.enc, if_neg (by omega), if_pos h]
    have hl := U16.put_length big (55296 + (r - 65536) / 1024)
    have hl2 := U16.put_length big (56320 + (r - 65536) % 1024)
    rw [he, List.append_assoc, U16.piece, unit_put big _ (by omega) (by omega), unit_put2 big _ _ (by omega) (by omega)]
    rw [if_neg (by simp only [List.length_append]; omega), if_neg (by omega), if_pos (by simp only [List.length_append]; omega), h]
    simp only [Prod.mk.injEq, and_true]; omega

theorem wfrom_encs (big : Bool) : ∀ (l : List Int) (pre : List Int) (fuel : Nat), (∀ r ∈ l, U16.width r ≠ 0) → (U16.encs big l).length ≤ fuel →
    U16.itemsFrom (pre ++ U16.encs big l) big (pre ++ U16.encs big l).length fuel pre.length = wpieces l pre.length := by
  intro l
  induction l with
  | nil => intro pre fuel _ _; rw [U16.itemsFrom_end _ _ _ _ _ (by simp [U16.encs])]; rfl
  | cons r l ih =>
    intro pre fuel hw hf
    have hr := hw r (by simp)
    have he : U16.encs big (r :: l) = U16.enc big r ++ U16.encs big l := by simp [U16.encs]
    have hel := U16.enc_length big r
    have hwc := U16.width_cases r
    rw [he] at hf ⊢
    rw [List.length_append] at hf
    rw [U16.itemsFrom_step _ _ _ _ _ (by simp only [List.length_append]; omega) (by simp only [List.length_append]; omega)]
    have hp : U16.piece (pre ++ (U16.enc big r ++ U16.encs big l)) big (pre ++ (U16.enc big r ++ U16.encs big l)).length pre.length = (r, U16.width r) := by
      rw [← U16.piece_drop _ _ _ _ (by simp only [List.length_append]; omega)]
      rw [List.drop_left, show (pre ++ (U16.enc big r ++ U16.encs big l)).length - pre.length = (U16.enc big r ++ U16.encs big l).length by simp only [List.length_append]; omega]
      exact piece_enc big r _ hr
    unfold U16.itemAt
    rw [hp]
    have h2 := ih (pre ++ U16.enc big r) (fuel - 1) (fun x hx => hw x (by simp [hx])) (by omega)
    rw [List.append_assoc] at h2
    rw [show (r, U16.width r).2.toNat = (U16.enc big r).length by simp only; omega, ← List.length_append, h2]
    rw [wpieces, List.length_append, Int.natCast_add, hel]

theorem witems_encs (big : Bool) (l : List Int) : U16.items (U16.encs big l) big (U16.encs big l).length = wpieces (wkept l) 0 := by
  have h := wfrom_encs big (wkept l) [] (U16.encs big (wkept l)).length (fun r hr => by simp [wkept] at hr; exact hr.2) (Nat.le_refl _)
  simp only [List.nil_append, List.length_nil] at h
  rw [← wencs_kept]
  exact h

theorem enc_byte16 (big : Bool) (l : List Int) : U16.Byte (U16.encs big l) := by
  intro z hz
  obtain ⟨r, _, h⟩ := List.mem_flatMap.1 hz
  unfold U16.enc at h
  have hp : ∀ u x, x ∈ U16.put big u → 0 ≤ x ∧ x ≤ 255 := by
    intro u x hx
    unfold U16.put at hx
    split at hx <;> simp at hx <;> omega
  split at h
  · exact hp _ _ h
  · split at h
    · rcases List.mem_append.1 h with h | h
      · exact hp _ _ h
      · exact hp _ _ h
    · simp at h

theorem wkept_at (l : List Int) (j : Nat) (hj : j < l.length) (hw : U16.width (l.getD j 0) ≠ 0) : (wkept l)[(wkept (l.take j)).length]? = some (l.getD j 0) := by
  have h1 := U8.take_succ l j hj
  have h2 : wkept l = wkept (l.take (j + 1)) ++ wkept (l.drop (j + 1)) := by
    unfold wkept; rw [← List.filter_append, List.take_append_drop]
  rw [h2, h1, wkept_snoc, if_pos hw, List.append_assoc, List.getElem?_append_right (Nat.le_refl _), Nat.sub_self]
  rfl

end Go.Proofs.YtmibajofbagphaaDoor
