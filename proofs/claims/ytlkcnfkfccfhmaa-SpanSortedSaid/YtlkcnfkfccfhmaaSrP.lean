/-
  The plain side of layer 6's sort: the order of three numbers, the one sorted row, and how the reference puts them one by one. No model.
-/
import Derived.Test.YtlkcnfkfccfhmaaSrM
import Derived.Shelf.SlSortCmp.Insertion
namespace Go.Proofs.Ytlkcnfkfccfhmaa
open Go.Sort
set_option linter.unusedVariables false

abbrev Tri : Type := Int × Int × Int

def cmpI (x y : Int) : Int := if x < y then -1 else if y < x then 1 else 0
def orI (a b c : Int) : Int := if a ≠ 0 then a else if b ≠ 0 then b else c
def cfD (x y : Tri) : Int := orI (cmpI x.1 y.1) (cmpI x.2.1 y.2.1) (cmpI x.2.2 y.2.2)
def encD (x : Tri) : List Value := [.int .i64 x.1, .int .i64 x.2.1, .int .i64 x.2.2]

/-- One comes ahead of the other. -/
def ltD (x y : Tri) : Bool := decide (x.1 < y.1 ∨ x.1 = y.1 ∧ (x.2.1 < y.2.1 ∨ x.2.1 = y.2.1 ∧ x.2.2 < y.2.2))

theorem ltOf_cfD : ltOf cfD = ltD := by
  funext x y
  unfold ltOf ltD cfD orI cmpI
  rw [decide_eq_decide]
  repeat' split
  all_goals omega

theorem swoD : SWO ltD where
  irrefl x := by unfold ltD; exact decide_eq_false (by omega)
  trans x y z h1 h2 := by
    unfold ltD at *
    rw [decide_eq_true_eq] at *
    omega
  ntrans x y z h1 h2 := by
    unfold ltD at *
    rw [decide_eq_false_iff_not] at *
    omega

theorem tri_eq {x y : Tri} (h1 : x.1 = y.1) (h2 : x.2.1 = y.2.1) (h3 : x.2.2 = y.2.2) : x = y := by
  obtain ⟨a, b, c⟩ := x
  obtain ⟨d, e, f⟩ := y
  simp only at h1 h2 h3
  subst h1 h2 h3
  rfl

theorem totalD (x y : Tri) (h1 : ltD x y = false) (h2 : ltD y x = false) : x = y := by
  unfold ltD at *
  rw [decide_eq_false_iff_not] at *
  exact tri_eq (by omega) (by omega) (by omega)

/-- The one sorted row. -/
def srtD (l : List Tri) : List Tri := l.mergeSort fun x y => !ltD y x

theorem srtD_length (l : List Tri) : (srtD l).length = l.length := by simp [srtD]

theorem srtD_of {d d' : Array Tri} (h1 : PermIn 0 d.size d d') (h2 : SortedIn (ltOf cfD) 0 d.size d') : d'.toList = srtD d.toList :=
  sorted_unique_holds swoD totalD d d' h1 (by rw [← ltOf_cfD]; exact h2)

/-! ### One by one -/
def place (d : Tri) (o : List Tri) : Nat → Nat
  | 0 => 0
  | k + 1 => if ltD d (o.getD k default) then place d o k else k + 1

theorem place_le (d : Tri) (o : List Tri) : ∀ k, place d o k ≤ k
  | 0 => Nat.le_refl _
  | k + 1 => by
    unfold place
    split
    · have := place_le d o k; omega
    · exact Nat.le_refl _

def putD (o : List Tri) (d : Tri) : List Tri := o.take (place d o o.length) ++ d :: o.drop (place d o o.length)

theorem putD_length (o : List Tri) (d : Tri) : (putD o d).length = o.length + 1 := by
  have := place_le d o o.length
  simp [putD]
  omega

theorem putD_perm (o : List Tri) (d : Tri) : (putD o d).Perm (d :: o) := by
  unfold putD
  refine List.perm_middle.trans ?_
  rw [List.take_append_drop]

def Asc (o : List Tri) : Prop := ∀ i j, i < j → j < o.length → ltD (o.getD j default) (o.getD i default) = false

theorem place_spec (d : Tri) (o : List Tri) (hA : Asc o) : ∀ k, k ≤ o.length → (∀ j, k ≤ j → j < o.length → ltD d (o.getD j default) = true) →
    (∀ i, i < place d o k → ltD d (o.getD i default) = false) ∧ ∀ j, place d o k ≤ j → j < o.length → ltD d (o.getD j default) = true
  | 0, _, h => ⟨fun i hi => by simp [place] at hi, fun j _ hj => h j (Nat.zero_le _) hj⟩
  | k + 1, hk, h => by
    unfold place
    split
    · rename_i c
      exact place_spec d o hA k (by omega) fun j h1 h2 => by
        by_cases e : j = k
        · rw [e]; exact c
        · exact h j (by omega) h2
    · rename_i c
      have c' : ltD d (o.getD k default) = false := by simpa using c
      refine ⟨fun i hi => ?_, h⟩
      by_cases e : i = k
      · rw [e]; exact c'
      · exact swoD.ntrans _ _ _ c' (hA i k (by omega) (by omega))

theorem asc_of_pairwise {o : List Tri} (h : o.Pairwise fun x y => (!ltD y x) = true) : Asc o := by
  intro i j hij hj
  have := List.pairwise_iff_getElem.1 h i j (by omega) hj hij
  rw [List.getD_eq_getElem?_getD, List.getD_eq_getElem?_getD, List.getElem?_eq_getElem hj, List.getElem?_eq_getElem (by omega : i < o.length)]
  simpa using this

theorem pairwise_of_asc {o : List Tri} (h : Asc o) : o.Pairwise fun x y => (!ltD y x) = true := by
  rw [List.pairwise_iff_getElem]
  intro i j hi hj hij
  have := h i j hij hj
  rw [List.getD_eq_getElem?_getD, List.getD_eq_getElem?_getD, List.getElem?_eq_getElem hj, List.getElem?_eq_getElem hi] at this
  simpa using this

theorem getD_of_mem_take {o : List Tri} {k : Nat} {x : Tri} (h : x ∈ o.take k) : ∃ i, i < k ∧ i < o.length ∧ o.getD i default = x := by
  obtain ⟨i, hi, e⟩ := List.mem_iff_getElem.1 h
  have hi' := hi
  rw [List.length_take] at hi'
  refine ⟨i, by omega, by omega, ?_⟩
  rw [List.getD_eq_getElem?_getD, List.getElem?_eq_getElem (by omega : i < o.length)]
  rw [List.getElem_take] at e
  simpa using e

theorem getD_of_mem_drop {o : List Tri} {k : Nat} {x : Tri} (h : x ∈ o.drop k) : ∃ i, k ≤ i ∧ i < o.length ∧ o.getD i default = x := by
  obtain ⟨i, hi, e⟩ := List.mem_iff_getElem.1 h
  have hi' := hi
  rw [List.length_drop] at hi'
  refine ⟨k + i, by omega, by omega, ?_⟩
  rw [List.getD_eq_getElem?_getD, List.getElem?_eq_getElem (by omega : k + i < o.length)]
  rw [List.getElem_drop] at e
  simpa using e

theorem putD_asc {o : List Tri} (d : Tri) (h : Asc o) : Asc (putD o d) := by
  obtain ⟨h1, h2⟩ := place_spec d o h o.length (Nat.le_refl _) (fun j a b => by omega)
  have hp := pairwise_of_asc h
  refine asc_of_pairwise ?_
  unfold putD
  generalize place d o o.length = k at h1 h2
  rw [List.pairwise_append, List.pairwise_cons]
  refine ⟨hp.sublist (List.take_sublist _ _), ⟨fun y hy => ?_, hp.sublist (List.drop_sublist _ _)⟩, fun x hx y hy => ?_⟩
  · obtain ⟨i, a1, a2, rfl⟩ := getD_of_mem_drop hy
    rw [swoD.asymmA (h2 i a1 a2)]; rfl
  · obtain ⟨i, a1, a2, rfl⟩ := getD_of_mem_take hx
    rcases List.mem_cons.1 hy with rfl | hy
    · rw [h1 i a1]; rfl
    · obtain ⟨j, b1, b2, rfl⟩ := getD_of_mem_drop hy
      rw [h i j (by omega) b2]; rfl

/-- All that were put, one by one. -/
def putsD (l : List Tri) : List Tri := l.foldl putD []

theorem putsD_asc (l : List Tri) : ∀ o, Asc o → Asc (l.foldl putD o) ∧ (l.foldl putD o).Perm (o ++ l) := by
  induction l with
  | nil => intro o h; exact ⟨h, by simp⟩
  | cons d l ih =>
    intro o h
    obtain ⟨h1, h2⟩ := ih (putD o d) (putD_asc d h)
    refine ⟨h1, h2.trans ?_⟩
    exact ((putD_perm o d).append_right l).trans List.perm_middle.symm

theorem putsD_srt (l : List Tri) : putsD l = srtD l := by
  obtain ⟨h1, h2⟩ := putsD_asc l [] (fun i j _ h => by simp at h)
  refine List.Perm.eq_of_pairwise (le := fun x y => (!ltD y x) = true) ?_ (pairwise_of_asc h1) ?_ (show (l.foldl putD []).Perm (l.mergeSort fun x y => !ltD y x) from (by simpa using h2 : (l.foldl putD []).Perm l).trans (List.mergeSort_perm l _).symm)
  · intro a b _ _ h1 h2
    simp only [Bool.not_eq_true'] at h1 h2
    exact totalD a b h2 h1
  · refine List.pairwise_mergeSort ?_ ?_ _
    · intro a b c h1 h2
      simp only [Bool.not_eq_true'] at h1 h2 ⊢
      exact swoD.ntrans c b a h2 h1
    · intro a b
      cases h : ltD b a with
      | false => simp
      | true => simp [swoD.asymmA h]

theorem putsD_snoc (l : List Tri) (d : Tri) : putsD (l ++ [d]) = putD (putsD l) d := by simp [putsD]
theorem putsD_length : ∀ (l : List Tri) (o : List Tri), (l.foldl putD o).length = o.length + l.length
  | [], o => rfl
  | d :: l, o => by rw [List.foldl_cons, putsD_length l, putD_length, List.length_cons]; omega

end Go.Proofs.Ytlkcnfkfccfhmaa
