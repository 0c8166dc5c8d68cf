/-
  The plain side of layer 12's sort: an insertion sort puts one by one. No model.
-/
import Derived.Sort.LotA
import Derived.Sort.WalkA
import Derived.Test.YtbljgoieieoamaaRows0
namespace Go.Proofs.Ytbljgoieieoamaa
open Go.Sort
set_option linter.unusedVariables false

/-- Ahead of j stands o's beginning, at j the one, behind it o's rest. -/
def midL {α : Type} (o : List α) (x : α) (r : List α) (j : Nat) : List α := o.take j ++ x :: (o.drop j ++ r)
theorem midL_length {α : Type} (o : List α) (x : α) (r : List α) (j : Nat) : (midL o x r j).length = o.length + 1 + r.length := by simp [midL]; omega

section
variable {α : Type} [Inhabited α]
/-- Where one is put: behind the last one that it does not stand ahead of. -/
def placeC (lt : α → α → Bool) (d : α) (o : List α) : Nat → Nat
  | 0 => 0
  | k + 1 => if lt d (o.getD k default) then placeC lt d o k else k + 1
theorem placeC_le (lt : α → α → Bool) (d : α) (o : List α) : ∀ k, placeC lt d o k ≤ k
  | 0 => Nat.le_refl _
  | k + 1 => by
    unfold placeC
    split
    · have := placeC_le lt d o k; omega
    · exact Nat.le_refl _
def putC (lt : α → α → Bool) (o : List α) (d : α) : List α := o.take (placeC lt d o o.length) ++ d :: o.drop (placeC lt d o o.length)
theorem putC_length (lt : α → α → Bool) (o : List α) (d : α) : (putC lt o d).length = o.length + 1 := by
  have := placeC_le lt d o o.length
  simp [putC]
  omega
/-- All, one by one. -/
def isort (lt : α → α → Bool) (l : List α) : List α := l.foldl (putC lt) []
theorem foldl_putC_length (lt : α → α → Bool) : ∀ (r s : List α), (r.foldl (putC lt) s).length = s.length + r.length
  | [], s => by simp
  | x :: r, s => by rw [List.foldl_cons, foldl_putC_length lt r, putC_length, List.length_cons]; omega
theorem isort_length (lt : α → α → Bool) (l : List α) : (isort lt l).length = l.length := by unfold isort; rw [foldl_putC_length]; simp
theorem mem_putC {lt : α → α → Bool} {o : List α} {d x : α} : x ∈ putC lt o d ↔ x = d ∨ x ∈ o := by
  unfold putC
  rw [List.mem_append, List.mem_cons]
  constructor
  · rintro (h | h | h)
    · exact .inr (List.mem_of_mem_take h)
    · exact .inl h
    · exact .inr (List.mem_of_mem_drop h)
  · rintro (h | h)
    · exact .inr (.inl h)
    · rw [← List.take_append_drop (placeC lt d o o.length) o, List.mem_append] at h
      rcases h with h | h
      · exact .inl h
      · exact .inr (.inr h)
theorem mem_foldl_putC {lt : α → α → Bool} : ∀ (r s : List α) (x : α), x ∈ r.foldl (putC lt) s ↔ x ∈ s ∨ x ∈ r
  | [], s, x => by simp
  | y :: r, s, x => by rw [List.foldl_cons, mem_foldl_putC r, mem_putC, List.mem_cons]; exact ⟨fun h => by rcases h with (h | h) | h <;> simp [h], fun h => by rcases h with h | (h | h) <;> simp [h]⟩
theorem mem_isort {lt : α → α → Bool} {l : List α} {x : α} : x ∈ isort lt l ↔ x ∈ l := by unfold isort; rw [mem_foldl_putC]; simp

/-- What is sorted stays in step under a map that keeps the order. -/
theorem placeC_map {β : Type} [Inhabited β] {lt : α → α → Bool} {lt' : β → β → Bool} (f : α → β) (hf : ∀ x y, lt' (f x) (f y) = lt x y) (d : α) (o : List α) : ∀ k, k ≤ o.length → placeC lt' (f d) (o.map f) k = placeC lt d o k
  | 0, _ => rfl
  | k + 1, h => by
    have e : (o.map f).getD k default = f (o.getD k default) := by
      rw [List.getD_eq_getElem?_getD, List.getD_eq_getElem?_getD, List.getElem?_map, List.getElem?_eq_getElem (by omega : k < o.length)]; rfl
    unfold placeC
    rw [e, hf, placeC_map f hf d o k (by omega)]
theorem putC_map {β : Type} [Inhabited β] {lt : α → α → Bool} {lt' : β → β → Bool} (f : α → β) (hf : ∀ x y, lt' (f x) (f y) = lt x y) (o : List α) (d : α) : putC lt' (o.map f) (f d) = (putC lt o d).map f := by
  unfold putC
  rw [List.length_map, placeC_map f hf d o _ (Nat.le_refl _), List.map_append, List.map_cons, List.map_take, List.map_drop]
theorem isort_map {β : Type} [Inhabited β] {lt : α → α → Bool} {lt' : β → β → Bool} (f : α → β) (hf : ∀ x y, lt' (f x) (f y) = lt x y) (l : List α) : isort lt' (l.map f) = (isort lt l).map f := by
  unfold isort
  have h : ∀ (r s : List α), (r.map f).foldl (putC lt') (s.map f) = (r.foldl (putC lt) s).map f := by
    intro r
    induction r with
    | nil => intro s; rfl
    | cons x r ih => intro s; rw [List.map_cons, List.foldl_cons, List.foldl_cons, putC_map f hf, ih]
  exact h l []

/-! ### The sort of an array -/
theorem toList_of_get {d : Array α} {L : List α} (hs : d.size = L.length) (h : ∀ i, i < L.length → d[i]! = L.getD i default) : d.toList = L := by
  refine List.ext_getElem (by rw [Array.length_toList, hs]) fun i h1 h2 => ?_
  have := h i h2
  rw [getElem!_pos d i (by omega), List.getD_eq_getElem?_getD, List.getElem?_eq_getElem h2] at this
  rw [Array.getElem_toList]
  exact this
theorem get_of_toList {d : Array α} {L : List α} (h : d.toList = L) (i : Nat) (hi : i < L.length) : d[i]! = L.getD i default := by
  subst h
  rw [Array.length_toList] at hi
  rw [getElem!_pos d i hi, List.getD_eq_getElem?_getD, List.getElem?_eq_getElem (by rw [Array.length_toList]; exact hi), Array.getElem_toList]
  rfl
theorem midL_at (o : List α) (x : α) (r : List α) (j : Nat) (hj : j ≤ o.length) (i : Nat) : (midL o x r j).getD i default = if i < j then o.getD i default else if i = j then x else (o ++ r).getD (i - 1) default := by
  have hl : (o.take j).length = j := by rw [List.length_take]; omega
  unfold midL
  by_cases h1 : i < j
  · rw [if_pos h1, List.getD_eq_getElem?_getD, List.getElem?_append_left (by omega), List.getElem?_take, if_pos h1, ← List.getD_eq_getElem?_getD]
  · rw [if_neg h1]
    by_cases h2 : i = j
    · rw [if_pos h2, List.getD_eq_getElem?_getD, List.getElem?_append_right (by omega), hl, h2, Nat.sub_self]; rfl
    · rw [if_neg h2, List.getD_eq_getElem?_getD, List.getElem?_append_right (by omega), hl]
      obtain ⟨m, rfl⟩ : ∃ m, i = j + 1 + m := ⟨i - j - 1, by omega⟩
      rw [show j + 1 + m - j = m + 1 by omega, List.getElem?_cons_succ, show j + 1 + m - 1 = j + m by omega]
      have : o.drop j ++ r = (o ++ r).drop j := by rw [List.drop_append_of_le_length hj]
      rw [this, List.getElem?_drop, ← List.getD_eq_getElem?_getD]
theorem midL_swp {d : Array α} {o : List α} {x : α} {r : List α} {j : Nat} (h : d.toList = midL o x r (j + 1)) (hj : j + 1 ≤ o.length) : (swp d (j + 1) j).toList = midL o x r j := by
  have hs : d.size = o.length + 1 + r.length := by have := congrArg List.length h; rwa [Array.length_toList, midL_length] at this
  have hg := fun i hi => get_of_toList h i hi
  have hg2 : ∀ i, i < d.size → d[i]! = if i < j + 1 then o.getD i default else if i = j + 1 then x else (o ++ r).getD (i - 1) default := fun i hi => by
    rw [hg i (by rw [midL_length]; omega), midL_at _ _ _ _ hj]
  refine toList_of_get (by rw [size_swp, midL_length, hs]) fun i hi => ?_
  rw [midL_length] at hi
  rw [swp_get d (by omega) (by omega), midL_at _ _ _ _ (by omega)]
  by_cases c1 : i = j
  · subst c1
    rw [if_pos rfl, hg2 (i + 1) (by omega), if_neg (by omega), if_pos rfl, if_neg (by omega), if_pos rfl]
  · rw [if_neg c1]
    by_cases c2 : i = j + 1
    · subst c2
      rw [if_pos rfl, hg2 j (by omega), if_pos (by omega), if_neg (by omega), if_neg (by omega), Nat.add_sub_cancel]
      rw [List.getD_eq_getElem?_getD, List.getD_eq_getElem?_getD, List.getElem?_append_left (by omega)]
    · rw [if_neg c2, hg2 i (by omega)]
      by_cases c3 : i < j
      · rw [if_pos (by omega), if_pos c3]
      · rw [if_neg (by omega), if_neg c2, if_neg c3, if_neg c1]
theorem insInner_list (lt : α → α → Bool) (o : List α) (x : α) (r : List α) : ∀ (j : Nat) (d : Array α), j ≤ o.length → d.toList = midL o x r j → (insInner lt 0 j d).toList = midL o x r (placeC lt x o j) := by
  intro j
  induction j with
  | zero => intro d _ h; rw [insInner_stop lt 0 0 d (.inl (Nat.le_refl _))]; exact h
  | succ j ih =>
    intro d hj h
    have hlen : (midL o x r (j + 1)).length = o.length + 1 + r.length := midL_length ..
    have e1 : d[j + 1]! = x := by rw [get_of_toList h (j + 1) (by omega), midL_at _ _ _ _ hj, if_neg (by omega), if_pos rfl]
    have e2 : d[j]! = o.getD j default := by rw [get_of_toList h j (by omega), midL_at _ _ _ _ hj, if_pos (by omega)]
    unfold placeC
    cases hl : lt x (o.getD j default)
    · rw [if_neg (by decide), insInner_stop lt 0 (j + 1) d (.inr (by rw [Nat.add_sub_cancel, e1, e2]; exact hl))]
      exact h
    · rw [if_pos rfl, insInner_go lt 0 (j + 1) d (by omega) (by rw [Nat.add_sub_cancel, e1, e2]; exact hl), Nat.add_sub_cancel]
      exact ih _ (by omega) (midL_swp h hj)
theorem insOuter_list (lt : α → α → Bool) : ∀ (r s : List α) (d : Array α), d.toList = s ++ r → (insOuter lt 0 d.size s.length d).toList = r.foldl (putC lt) s := by
  intro r
  induction r with
  | nil =>
    intro s d h
    have hs : d.size = s.length := by have := congrArg List.length h; simpa using this
    rw [insOuter_stop lt _ _ _ _ (by omega), h, List.append_nil]; rfl
  | cons x r ih =>
    intro s d h
    have hs : d.size = s.length + 1 + r.length := by have := congrArg List.length h; simp at this; omega
    rw [insOuter_go lt _ _ _ _ (by omega), List.foldl_cons]
    have hm : d.toList = midL s x r s.length := by unfold midL; rw [List.take_length, List.drop_length]; exact h
    have h2 := insInner_list lt s x r s.length d (Nat.le_refl _) hm
    have h3 : (insInner lt 0 s.length d).toList = putC lt s x ++ r := by rw [h2]; unfold midL putC; simp
    have hs2 : (insInner lt 0 s.length d).size = d.size := by
      have := congrArg List.length h2
      rw [Array.length_toList, midL_length] at this
      omega
    have := ih (putC lt s x) _ h3
    rw [hs2, putC_length] at this
    exact this
theorem insertionSort_list (lt : α → α → Bool) (d : Array α) : (insertionSort lt d 0 d.size).toList = isort lt d.toList := by
  unfold insertionSort
  cases h : d.toList with
  | nil =>
    have hs : d.size = 0 := by have := congrArg List.length h; simpa using this
    rw [insOuter_stop lt _ _ _ _ (by omega), h]; rfl
  | cons x r =>
    have := insOuter_list lt r [x] d h
    rw [show 0 + 1 = [x].length from rfl, this]
    rfl
end

end Go.Proofs.Ytbljgoieieoamaa
