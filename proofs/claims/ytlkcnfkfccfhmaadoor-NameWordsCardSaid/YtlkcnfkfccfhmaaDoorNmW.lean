/-
  Layer 5: a text's words: by runes, and by bytes, the same.
-/
import Derived.Test.YtlkcnfkfccfhmaaDoorNmA
import Derived.Lib.FieldsP
import Derived.Lib.Strings
namespace Go.Proofs.YtlkcnfkfccfhmaaDoor
open Go.RowKit
set_option linter.unusedVariables false

/-- Reading one byte: the words that are whole, and the one that is not yet. -/
def stepW (st : List (List UInt8) × List UInt8) (b : UInt8) : List (List UInt8) × List UInt8 :=
  if b = 32 then (if st.2 = [] then st.1 else st.1 ++ [st.2], []) else (st.1, st.2 ++ [b])
def foldW (l : List UInt8) : List (List UInt8) × List UInt8 := l.foldl stepW ([], [])
def endW (st : List (List UInt8) × List UInt8) : List (List UInt8) := if st.2 = [] then st.1 else st.1 ++ [st.2]
/-- A text's words. -/
def wordsL (s : ByteArray) : List (List UInt8) := endW (foldW s.data.toList)

theorem foldW_snoc (l : List UInt8) (b : UInt8) : foldW (l ++ [b]) = stepW (foldW l) b := by simp [foldW]
theorem foldW_append (l m : List UInt8) : foldW (l ++ m) = m.foldl stepW (foldW l) := by simp [foldW]

theorem fold_others (m : List UInt8) (h : ∀ b ∈ m, b ≠ 32) (st : List (List UInt8) × List UInt8) : m.foldl stepW st = (st.1, st.2 ++ m) := by
  induction m generalizing st with
  | nil => simp
  | cons b m ih =>
    rw [List.foldl_cons, stepW, if_neg (h b (by simp)), ih (fun x hx => h x (by simp [hx]))]
    simp

theorem enc_space {r : Int} (hr : r ≠ 32) (hw : U8.width r ≠ 0) : ∀ x ∈ U8.enc r, x ≠ 32 := by
  intro x hx
  rcases U8.width_cases r with h | h | h | h | h
  · exact absurd h hw
  · rw [U8.enc_one h] at hx; simp at hx; omega
  · rw [U8.enc_two h] at hx
    have := U8.range_two h
    simp at hx; rcases hx with rfl | rfl <;> omega
  · rw [U8.enc_three h] at hx
    have := U8.range_three h
    simp at hx; rcases hx with rfl | rfl | rfl <;> omega
  · rw [U8.enc_four h] at hx
    have := U8.range_four h
    simp at hx; rcases hx with rfl | rfl | rfl | rfl <;> omega

/-- A rune read at a place: it is a blank, of one byte; or none of its bytes is. -/
theorem rune_bytes (s : ByteArray) (pos : Nat) (h : pos < s.size) :
    ((Utf8.decode s pos).1 = 32 ∧ (Utf8.decode s pos).2 = 1 ∧ s.data.toList[pos]? = some 32) ∨
    ((Utf8.decode s pos).1 ≠ 32 ∧ ∀ b ∈ (s.data.toList.drop pos).take (Utf8.decode s pos).2, b ≠ 32) := by
  have key : s.data.toList[pos]? = some 32 → (Utf8.decode s pos).1 = 32 ∧ (Utf8.decode s pos).2 = 1 := by
    intro hb
    have hp : U8.enc 32 <+: U8.nums (s.data.toList.drop pos) := by
      have e : U8.enc 32 = [32] := by decide
      rw [e, U8.prefix1, U8.nums_at, List.getElem?_drop, Nat.add_zero, hb]
      rfl
    obtain ⟨a, b⟩ := U8.decode_of_prefix s pos h 32 (by decide) hp
    have e : U8.width 32 = 1 := by decide
    rw [e] at b
    exact ⟨by omega, by omega⟩
  by_cases h32 : (Utf8.decode s pos).1 = 32
  · left
    rcases U8.prefix_of_decode s pos h with ⟨h1, _⟩ | ⟨hw, hpre, hk⟩
    · omega
    · rw [h32] at hpre hk
      have e : U8.enc ((32 : Nat) : Int) = [32] := by decide
      have e2 : U8.width ((32 : Nat) : Int) = 1 := by decide
      rw [e2] at hk
      rw [e, U8.prefix1, U8.nums_at, List.getElem?_drop, Nat.add_zero] at hpre
      refine ⟨h32, by omega, ?_⟩
      cases hb : s.data.toList[pos]? with
      | none => rw [hb] at hpre; simp at hpre
      | some b =>
        rw [hb] at hpre
        simp at hpre
        have : b.toNat = 32 := by omega
        rw [show b = 32 from UInt8.toNat_inj.1 this]
  · right
    refine ⟨h32, ?_⟩
    have hne : s.data.toList[pos]? ≠ some 32 := fun hb => h32 (key hb).1
    rcases U8.prefix_of_decode s pos h with ⟨h1, h2⟩ | ⟨hw, hpre, hk⟩
    · rw [h2]
      intro b hb hb32
      subst hb32
      have hl : pos < s.data.toList.length := by rw [Array.length_toList]; exact h
      rw [List.drop_eq_getElem_cons hl] at hb
      simp at hb
      exact hne (by rw [List.getElem?_eq_getElem hl, hb]; rfl)
    · intro b hb hb32
      subst hb32
      have ht := List.prefix_iff_eq_take.1 hpre
      have hlen : (U8.enc ((Utf8.decode s pos).1 : Int)).length = (Utf8.decode s pos).2 := by
        have := U8.enc_length ((Utf8.decode s pos).1 : Int)
        omega
      rw [hlen] at ht
      have hm : ((32 : UInt8).toNat : Int) ∈ U8.enc ((Utf8.decode s pos).1 : Int) := by
        rw [ht]
        unfold U8.nums
        rw [← List.map_take]
        exact List.mem_map_of_mem (f := fun b : UInt8 => (b.toNat : Int)) hb
      exact enc_space (by omega) hw _ hm rfl

def isBlank (r : Nat) : Bool := r == 32

/-- A piece of a text. -/
def pieceW (l : List UInt8) (x : Nat × Nat) : List UInt8 := (l.drop x.1).take (x.2 - x.1)

/-- What the state of the walk over runes is, told by the bytes. -/
def StOk (l : List UInt8) (pos : Nat) (st : Option Nat) (acc : List (Nat × Nat)) : Prop :=
  (foldW (l.take pos)).1 = acc.map (pieceW l) ∧ match st with
    | none => (foldW (l.take pos)).2 = []
    | some a => a < pos ∧ (foldW (l.take pos)).2 = pieceW l (a, pos)

theorem take_more (l : List UInt8) (pos k : Nat) : l.take (pos + k) = l.take pos ++ (l.drop pos).take k := by
  rw [List.take_add]

theorem spans_eq (s : ByteArray) : ∀ (f pos : Nat) (st : Option Nat) (acc : List (Nat × Nat)), s.size ≤ pos + f → pos ≤ s.size → StOk s.data.toList pos st acc →
    (Lib.closeSpans s (Lib.spansFromP isBlank s f pos st acc)).map (pieceW s.data.toList) = wordsL s := by
  have hlen : s.data.toList.length = s.size := by rw [Array.length_toList]; rfl
  have hend : ∀ (st : Option Nat) (acc : List (Nat × Nat)), StOk s.data.toList s.size st acc → (Lib.closeSpans s (acc, st)).map (pieceW s.data.toList) = wordsL s := by
    intro st acc ⟨h1, h2⟩
    have ht : s.data.toList.take s.size = s.data.toList := List.take_of_length_le (by omega)
    rw [ht] at h1 h2
    unfold Lib.closeSpans wordsL endW
    cases st with
    | none => simp only at h2 ⊢; rw [h2, if_pos rfl, h1]
    | some a =>
      obtain ⟨ha, h2⟩ := h2
      have hne : ¬ (foldW s.data.toList).2 = [] := by
        rw [h2]
        intro h
        have := congrArg List.length h
        simp [pieceW] at this
        omega
      simp only
      rw [if_neg hne, h1, h2, List.map_append]
      rfl
  intro f
  induction f with
  | zero =>
    intro pos st acc hf hp hs
    obtain rfl : pos = s.size := by omega
    exact hend st acc hs
  | succ f ih =>
    intro pos st acc hf hp hs
    by_cases hlt : pos < s.size
    · have hw1 := Lib.decode_width_pos s pos hlt
      have hw2 : pos + (Utf8.decode s pos).2 ≤ s.size := by
        have h1 := (itemAt_piece s pos hlt).2
        have h2 := (good_itemAt s pos hlt).fits
        have h3 : (itemAt s pos).2.1 = (pos : Int) := rfl
        omega
      unfold Lib.spansFromP
      rw [if_pos hlt]
      obtain ⟨h1, h2⟩ := hs
      have hl : pos < s.data.toList.length := by rw [hlen]; exact hlt
      have htm := take_more s.data.toList pos (Utf8.decode s pos).2
      rcases rune_bytes s pos hlt with ⟨hr, hk, hb⟩ | ⟨hr, hb⟩
      · have hbl : isBlank (Utf8.decode s pos).1 = true := by unfold isBlank; simp [hr]
        rw [if_pos hbl, hk]
        have h1b : (s.data.toList.drop pos).take 1 = [32] := by
          rw [List.drop_eq_getElem_cons hl]
          have := List.getElem?_eq_getElem hl
          rw [hb] at this
          simp [← Option.some.inj this]
        rw [hk, h1b] at htm
        have hf1 : foldW (s.data.toList.take (pos + 1)) = stepW (foldW (s.data.toList.take pos)) 32 := by rw [htm, foldW_snoc]
        cases st with
        | none =>
          simp only at h2 ⊢
          refine ih (pos + 1) none acc (by omega) (by omega) ⟨?_, ?_⟩
          · rw [hf1, stepW, if_pos rfl, if_pos h2, h1]
          · rw [hf1, stepW, if_pos rfl]
        | some a =>
          obtain ⟨ha, h2⟩ := h2
          have hne : ¬ (foldW (s.data.toList.take pos)).2 = [] := by
            rw [h2]; intro h
            have := congrArg List.length h
            simp [pieceW] at this
            omega
          simp only
          refine ih (pos + 1) none (acc ++ [(a, pos)]) (by omega) (by omega) ⟨?_, ?_⟩
          · rw [hf1, stepW, if_pos rfl, if_neg hne, h1, h2, List.map_append]; rfl
          · rw [hf1, stepW, if_pos rfl]
      · have hbl : ¬ isBlank (Utf8.decode s pos).1 = true := by unfold isBlank; simpa using hr
        rw [if_neg hbl]
        have hf1 : foldW (s.data.toList.take (pos + (Utf8.decode s pos).2)) = ((foldW (s.data.toList.take pos)).1, (foldW (s.data.toList.take pos)).2 ++ (s.data.toList.drop pos).take (Utf8.decode s pos).2) := by
          rw [htm, foldW_append, fold_others _ hb]
        cases st with
        | none =>
          simp only at h2 ⊢
          refine ih _ (some pos) acc (by omega) hw2 ⟨?_, by omega, ?_⟩
          · rw [hf1]; exact h1
          · rw [hf1, h2, List.nil_append]; unfold pieceW; simp
        | some a =>
          obtain ⟨ha, h2⟩ := h2
          simp only
          refine ih _ (some a) acc (by omega) hw2 ⟨?_, by omega, ?_⟩
          · rw [hf1]; exact h1
          · rw [hf1, h2]
            unfold pieceW
            simp only
            have e : pos + (Utf8.decode s pos).2 - a = (pos - a) + (Utf8.decode s pos).2 := by omega
            rw [e, List.take_add, List.drop_drop]
            congr 3
            omega
    · obtain rfl : pos = s.size := by omega
      rw [Lib.spansFromP_end _ _ _ _ _ _ hlt]
      exact hend st acc hs

theorem fields_words (s : ByteArray) : (Lib.goFieldsP isBlank s).map (fun x => x.data.toList) = wordsL s := by
  unfold Lib.goFieldsP
  rw [List.map_map, ← spans_eq s s.size 0 none [] (by omega) (by omega) ⟨rfl, rfl⟩]
  unfold Lib.spansOfP
  refine List.map_congr_left fun x _ => ?_
  show (s.extract x.1 x.2).data.toList = _
  rw [Lib.extract_data]
  rfl

/-- The words as texts. -/
def wordsS (s : ByteArray) : List ByteArray := (wordsL s).map fun l => ⟨l.toArray⟩
theorem fields_eq (s : ByteArray) : Lib.goFieldsP isBlank s = wordsS s := by
  unfold wordsS
  rw [← fields_words, List.map_map]
  conv => lhs; rw [← List.map_id (Lib.goFieldsP isBlank s)]
  refine List.map_congr_left fun x _ => ?_
  show x = (⟨x.data.toList.toArray⟩ : ByteArray)
  simp

end Go.Proofs.YtlkcnfkfccfhmaaDoor
