/-
  Plain mathematics: the pieces of runes' bytes, by layer 1.
-/
import Derived.Test.YtmibajofbagphaaDoorScanG
namespace Go.Proofs.YtmibajofbagphaaDoor
open Go.RowKit

/-- The runes that have bytes. -/
def kept (l : List Int) : List Int := l.filter fun r => !decide (U8.width r = 0)

theorem kept_snoc (l : List Int) (r : Int) : kept (l ++ [r]) = kept l ++ (if U8.width r ≠ 0 then [r] else []) := by
  unfold kept; rw [List.filter_append]; congr 1; by_cases h : U8.width r = 0 <;> simp [h]

theorem kept_width (l : List Int) : ∀ r ∈ kept l, U8.width r ≠ 0 := fun r hr => by
  unfold kept at hr
  have := (List.mem_filter.1 hr).2
  simpa using this

theorem encs_kept (l : List Int) : U8.encs (kept l) = U8.encs l := by
  induction l with
  | nil => rfl
  | cons r l ih =>
    unfold kept at *
    by_cases h : U8.width r = 0
    · simp only [U8.encs] at ih
      simp [U8.encs, h, U8.enc_zero h, ih]
    · simp only [U8.encs] at ih
      simp [U8.encs, h, ih]

theorem kept_at (l : List Int) (j : Nat) (hj : j < l.length) (hw : U8.width (l.getD j 0) ≠ 0) : (kept l)[(kept (l.take j)).length]? = some (l.getD j 0) := by
  have h1 := U8.take_succ l j hj
  have h2 : kept l = kept (l.take (j + 1)) ++ kept (l.drop (j + 1)) := by
    unfold kept; rw [← List.filter_append, List.take_append_drop]
  rw [h2, h1, kept_snoc, if_pos hw, List.append_assoc, List.getElem?_append_right (Nat.le_refl _), Nat.sub_self]
  rfl

/-- What pieces of runes' bytes are. -/
def pieces : List Int → Nat → List (Int × Int × Int)
  | [], _ => []
  | r :: l, o => (r, (o : Int), U8.width r) :: pieces l (o + (U8.enc r).length)

theorem pieces_length (l : List Int) (o : Nat) : (pieces l o).length = l.length := by
  induction l generalizing o with
  | nil => rfl
  | cons r l ih => simp [pieces, ih]
theorem pieces_at (l : List Int) (o k : Nat) (r : Int) (h : l[k]? = some r) : ∃ x, (pieces l o)[k]? = some x ∧ x.1 = r := by
  induction l generalizing o k with
  | nil => simp at h
  | cons y l ih =>
    cases k with
    | zero => simp at h; subst h; exact ⟨_, rfl, rfl⟩
    | succ k => simp at h; obtain ⟨x, a, b⟩ := ih (o + (U8.enc y).length) k h; exact ⟨x, by simpa [pieces] using a, b⟩

theorem encs_cons (r : Int) (l : List Int) : U8.encs (r :: l) = U8.enc r ++ U8.encs l := by simp [U8.encs]

theorem from_encs (zs : List Int) (hb : Bys zs) : ∀ (l pre : List Int) (fuel : Nat), (∀ r ∈ l, U8.width r ≠ 0) → zs = pre ++ U8.encs l → zs.length ≤ pre.length + fuel →
    itemsFrom (strOfNums zs) fuel pre.length = pieces l pre.length := by
  intro l
  induction l with
  | nil =>
    intro pre fuel _ hz _
    rw [itemsFrom_end _ _ _ (by rw [strOfNums_size, hz]; simp [U8.encs])]
    rfl
  | cons r l ih =>
    intro pre fuel hw hz hf
    have hwr := hw r (by simp)
    have hlen := U8.enc_length r
    have hbd := U8.width_bd r
    have hp : pre.length < (strOfNums zs).size := by rw [strOfNums_size, hz, encs_cons]; simp; omega
    obtain ⟨f, rfl⟩ : ∃ f, fuel = f + 1 := ⟨fuel - 1, by rw [strOfNums_size] at hp; omega⟩
    obtain ⟨hpc, hk⟩ := itemAt_piece (strOfNums zs) pre.length hp
    rw [nums_drop hb] at hpc
    have hd : zs.drop pre.length = U8.enc r ++ U8.encs l := by rw [hz, encs_cons]; simp
    rw [hd] at hpc
    obtain ⟨e1, e2⟩ := U8.isPiece_unique hpc (.inl ⟨rfl, hwr, List.prefix_append _ _⟩ : U8.IsPiece (U8.enc r ++ U8.encs l) r (U8.width r))
    have hdec : (Utf8.decode (strOfNums zs) pre.length).2 = (U8.enc r).length := by omega
    have ho : (itemAt (strOfNums zs) pre.length).2.1 = (pre.length : Int) := rfl
    have hitem : itemAt (strOfNums zs) pre.length = (r, (pre.length : Int), U8.width r) := by
      rw [← e2, ← ho]
      exact Prod.ext e1 rfl
    have hstep : itemsFrom (strOfNums zs) (f + 1) pre.length = itemAt (strOfNums zs) pre.length :: itemsFrom (strOfNums zs) f (pre.length + (Utf8.decode (strOfNums zs) pre.length).2) := by simp [itemsFrom, hp]
    rw [hstep, hitem, hdec]
    have := ih (pre ++ U8.enc r) f (fun x hx => hw x (by simp [hx])) (by rw [hz, encs_cons]; simp) (by rw [List.length_append]; omega)
    rw [List.length_append] at this
    rw [this, pieces]

theorem encs_bys (l : List Int) : Bys (U8.encs l) := U8.encs_byte l

theorem items_encs (l : List Int) : itemsOf (strOfNums (U8.encs l)) = pieces (kept l) 0 := by
  have h := from_encs (U8.encs l) (encs_bys l) (kept l) [] (U8.encs l).length (kept_width l) (by rw [encs_kept]; rfl) (by simp)
  unfold itemsOf
  rw [strOfNums_size]
  simpa using h

end Go.Proofs.YtmibajofbagphaaDoor
