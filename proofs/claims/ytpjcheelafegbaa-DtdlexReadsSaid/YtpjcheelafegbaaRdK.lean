/-
  Contract of the reference's layer 9: Read of any row.
-/
import Derived.Test.YtpjcheelafegbaaRdH
import Derived.Test.YtpjcheelafegbaaRdI2
import Derived.Test.YtpjcheelafegbaaRdI3
import Derived.Test.YtpjcheelafegbaaRdI4
namespace Go.Proofs.Ytpjcheelafegbaa
open Go.RowKit
set_option linter.unusedVariables false

theorem kindN_cons0 (x : PartA) (Q : List PartA) : kindN (x :: Q) 0 = x.1 := rfl
theorem kindN_consS (x : PartA) (Q : List PartA) (j : Nat) : kindN (x :: Q) (j + 1) = kindN Q j := rfl
theorem kindN_nil (j : Nat) : kindN [] j = 0 := rfl
theorem kindN_drop (P : List PartA) (i j : Nat) : kindN (P.drop i) j = kindN P (i + j) := by
  unfold kindN
  rw [List.getD_eq_getElem?_getD, List.getD_eq_getElem?_getD, List.getElem?_drop]
theorem kindN_shift (d : Nat) (P : List PartA) (j : Nat) : kindN (shiftP d P) j = kindN P j := by
  unfold kindN shiftP
  rw [List.getD_eq_getElem?_getD, List.getD_eq_getElem?_getD, List.getElem?_map]
  cases P[j]? <;> rfl
theorem getD_drop' (P : List PartA) (i j : Nat) : (P.drop i).getD j zP = P.getD (i + j) zP := by
  rw [List.getD_eq_getElem?_getD, List.getD_eq_getElem?_getD, List.getElem?_drop]
/-- Behind the opening of a subset stands what the chapter says. -/
def First5 (P : List PartA) : Prop := ∀ j, kindN P j = 5 → (∀ i, i < j → kindN P i ≠ 5) → P.length ≤ j + 1 ∨ kindN P (j + 1) = 5 ∨ (kindN P (j + 1) = 6 ∧ (P.length ≤ j + 2 ∨ kindN P (j + 2) = 5))
theorem wdP_kinds (s : List Int) : (wdP s).1 = 3 ∨ (wdP s).1 = 2 ∨ (wdP s).1 = 4 ∨ (wdP s).1 = 8 := by
  unfold wdP quoD
  split
  · simp
  · split
    · simp
    · split
      · split <;> simp
      · simp
theorem dtF_five : ∀ (f k : Nat) (s : List Int), s.length ≤ f → First5 (dtF f false k s) := by
  intro f
  induction f with
  | zero => intro k s _ j h _; rw [show dtF 0 false k s = [] from rfl, kindN_nil] at h; cases h
  | succ f ih =>
    intro k s hf j h hi
    cases s with
    | nil => rw [dtF_nil, kindN_nil] at h; cases h
    | cons r s =>
      rw [dtF] at h hi ⊢
      by_cases hA : r = 91 ∧ false = false
      · rw [if_pos hA] at h hi ⊢
        have hz : j = 0 := by
          cases j with
          | zero => rfl
          | succ j =>
            exfalso
            refine hi 0 (by omega) ?_
            unfold brP
            rfl
        subst hz
        have hL : brL (r :: s) ≤ (r :: s).length := (brL_ok (r :: s) (by simp)).2
        unfold brL at hL ⊢
        unfold brP
        obtain ⟨q, hq⟩ : ∃ q, sbP ((r :: s).drop 1) = q := ⟨_, rfl⟩
        rw [hq] at hL ⊢
        by_cases hq0 : 0 < q
        · rw [if_pos hq0]
          by_cases he : 1 + q < (r :: s).length
          · simp only [if_pos he]
            exact .inr (.inr ⟨rfl, .inr rfl⟩)
          · simp only [if_neg he, Nat.add_zero, show dtF f true (k + (1 + q)) ((r :: s).drop (1 + q)) = [] from by rw [List.drop_eq_nil_of_le (by omega), dtF_nil]]
            exact .inr (.inr ⟨rfl, .inl (by simp)⟩)
        · rw [if_neg hq0]
          by_cases he : 1 + q < (r :: s).length
          · simp only [if_pos he]
            exact .inr (.inl rfl)
          · simp only [if_neg he, Nat.add_zero, show dtF f true (k + (1 + q)) ((r :: s).drop (1 + q)) = [] from by rw [List.drop_eq_nil_of_le (by omega), dtF_nil]]
            exact .inl (by simp)
      · rw [if_neg hA] at h hi ⊢
        by_cases hB : r = 62 ∧ s = []
        · rw [if_pos hB] at h
          exfalso
          cases j with
          | zero => rw [kindN_cons0] at h; cases h
          | succ j => rw [kindN_consS, kindN_nil] at h; cases h
        · rw [if_neg hB] at h hi ⊢
          cases j with
          | zero =>
            exfalso
            rw [kindN_cons0] at h
            have := wdP_kinds (r :: s)
            simp only at h
            omega
          | succ j =>
            rw [kindN_consS] at h
            have hw := wdP_ok (r :: s) (by simp)
            have := ih (k + (wdP (r :: s)).2) ((r :: s).drop (wdP (r :: s)).2) (by rw [dropl]; simp only [List.length_cons] at hf ⊢; omega) j h (fun i hij => by have := hi (i + 1) (by omega); rwa [kindN_consS] at this)
            rw [List.length_cons]
            rcases this with h1 | h1 | ⟨h1, h2⟩
            · exact .inl (by omega)
            · exact .inr (.inl (by rw [kindN_consS]; exact h1))
            · refine .inr (.inr ⟨by rw [kindN_consS]; exact h1, ?_⟩)
              rcases h2 with h2 | h2
              · exact .inl (by omega)
              · exact .inr (by rw [show j + 1 + 2 = (j + 2) + 1 by omega, kindN_consS]; exact h2)
theorem kindN_app {A B : List PartA} {j : Nat} : kindN (A ++ B) j = if j < A.length then kindN A j else kindN B (j - A.length) := by
  unfold kindN
  rw [List.getD_eq_getElem?_getD]
  by_cases h : j < A.length
  · rw [if_pos h, List.getElem?_append_left h, ← List.getD_eq_getElem?_getD]
  · rw [if_neg h, List.getElem?_append_right (by omega), ← List.getD_eq_getElem?_getD]
theorem brP_kinds (k : Nat) (s : List Int) (j : Nat) : kindN (brP k s) j ≠ 7 := by
  unfold brP
  generalize sbP (s.drop 1) = q
  have h3 : ∀ j, j < 3 ∨ 3 ≤ j := fun j => by omega
  split <;> split <;> (rcases j with _ | _ | _ | j <;> (simp [kindN]))
theorem dtF_seven : ∀ (f : Nat) (op : Bool) (k : Nat) (s : List Int), s.length ≤ f → Last7 (dtF f op k s) := by
  intro f
  induction f with
  | zero => intro op k s _ j h; rw [show dtF 0 op k s = [] from rfl, kindN_nil] at h; cases h
  | succ f ih =>
    intro op k s hf j h
    cases s with
    | nil => rw [dtF_nil, kindN_nil] at h; cases h
    | cons r s =>
      rw [dtF] at h ⊢
      split at h
      · rename_i hA
        rw [if_pos hA]
        rw [kindN_app] at h
        split at h
        · exact absurd h (brP_kinds _ _ _)
        · have hw := brL_ok (r :: s) (by simp)
          have := ih true (k + brL (r :: s)) ((r :: s).drop (brL (r :: s))) (by rw [dropl]; simp only [List.length_cons] at hf ⊢; omega) _ h
          rw [List.length_append]
          omega
      · rename_i hA
        rw [if_neg hA]
        split at h
        · rename_i hB
          rw [if_pos hB]
          cases j with
          | zero => rfl
          | succ j => rw [kindN_consS, kindN_nil] at h; cases h
        · rename_i hB
          rw [if_neg hB]
          cases j with
          | zero =>
            exfalso
            rw [kindN_cons0] at h
            have := wdP_kinds (r :: s)
            simp only at h
            omega
          | succ j =>
            rw [kindN_consS] at h
            have hw := wdP_ok (r :: s) (by simp)
            have := ih op (k + (wdP (r :: s)).2) ((r :: s).drop (wdP (r :: s)).2) (by rw [dropl]; simp only [List.length_cons] at hf ⊢; omega) j h
            rw [List.length_cons]
            omega
theorem rowF_kinds : ∀ (f k : Nat) (s : List Int) (j : Nat), kindN (rowF wdP f k s) j ≠ 7 ∧ kindN (rowF wdP f k s) j ≠ 5 := by
  intro f
  induction f with
  | zero => intro k s j; rw [show rowF wdP 0 k s = [] from rfl, kindN_nil]; omega
  | succ f ih =>
    intro k s j
    cases s with
    | nil => rw [rowF_end, kindN_nil]; omega
    | cons r s =>
      rw [rowF]
      cases j with
      | zero => rw [kindN_cons0]; have := wdP_kinds (r :: s); simp only; omega
      | succ j => rw [kindN_consS]; exact ih _ _ j
theorem dtP_five (l : List Int) : First5 (dtP l) := by
  unfold dtP
  split
  · intro j h hi
    cases j with
    | zero => rw [kindN_cons0] at h; cases h
    | succ j =>
      rw [kindN_consS] at h
      have := dtF_five l.length 9 (l.drop 9) (by rw [dropl]; omega) j h (fun i hij => by have := hi (i + 1) (by omega); rwa [kindN_consS] at this)
      rw [List.length_cons]
      rcases this with h1 | h1 | ⟨h1, h2⟩
      · exact .inl (by omega)
      · exact .inr (.inl (by rw [kindN_consS]; exact h1))
      · refine .inr (.inr ⟨by rw [kindN_consS]; exact h1, ?_⟩)
        rcases h2 with h2 | h2
        · exact .inl (by omega)
        · exact .inr (by rw [show j + 1 + 2 = (j + 2) + 1 by omega, kindN_consS]; exact h2)
  · intro j h; exact absurd h (rowF_kinds _ _ _ j).2
theorem dtP_seven (l : List Int) : Last7 (dtP l) := by
  unfold dtP
  split
  · intro j h
    cases j with
    | zero => rw [kindN_cons0] at h; cases h
    | succ j =>
      rw [kindN_consS] at h
      have := dtF_seven l.length false 9 (l.drop 9) (by rw [dropl]; omega) j h
      rw [List.length_cons]
      omega
  · intro j h; exact absurd h (rowF_kinds _ _ _ j).1
theorem inP_five (l : List Int) (f t : Int) : First5 (inP dtP l f t) := by
  unfold inP
  split
  · intro j h hi
    simp only [kindN_shift, shiftP_length] at h hi ⊢
    exact dtP_five _ j h hi
  · intro j h; rw [kindN_nil] at h; cases h
theorem inP_seven (l : List Int) (f t : Int) : Last7 (inP dtP l f t) := by
  unfold inP
  split
  · intro j h
    simp only [kindN_shift, shiftP_length] at h ⊢
    exact dtP_seven _ j h
  · intro j h; rw [kindN_nil] at h; cases h

/-- Whether parts of these kinds are taken is told by their numbers. -/
theorem takeN {P : List PartA} {K : List Nat} {k : Nat} (hK : ∀ x ∈ K, x ≠ 0) : takeP K (P.drop k) = if (∀ i, i < K.length → kindN P (k + i) = K.getD i 0) then ((P.drop k).take K.length, true, P.drop (k + K.length)) else ([], false, P.drop k) := by
  unfold takeP
  have h : ((P.drop k).take K.length).map (·.1) = K ↔ ∀ i, i < K.length → kindN P (k + i) = K.getD i 0 := by
    constructor
    · intro he i hi
      rw [← kindN_drop]
      have h2 : (((P.drop k).take K.length).map (·.1)).getD i 0 = K.getD i 0 := by rw [he]
      rw [← h2, List.getD_eq_getElem?_getD, List.getElem?_map, List.getElem?_take, if_pos hi]
      unfold kindN
      rw [List.getD_eq_getElem?_getD]
      cases (P.drop k)[i]? <;> rfl
    · intro hk
      have hlen : K.length ≤ (P.drop k).length := by
        by_cases h0 : K.length = 0
        · omega
        · have h1 := hk (K.length - 1) (by omega)
          have h2 : K.getD (K.length - 1) 0 ≠ 0 := by
            rw [List.getD_eq_getElem?_getD, List.getElem?_eq_getElem (by omega)]
            exact hK _ (List.getElem_mem _)
          have := kindN_lt (P := P) h1 h2
          rw [List.length_drop]
          omega
      refine List.ext_getElem (by rw [List.length_map, List.length_take]; omega) fun i h1 h2 => ?_
      have h3 := hk i h2
      rw [← kindN_drop] at h3
      unfold kindN at h3
      rw [List.getElem_map, List.getElem_take]
      rw [List.getD_eq_getElem?_getD, List.getElem?_eq_getElem (by omega), List.getD_eq_getElem?_getD, List.getElem?_eq_getElem h2] at h3
      exact h3
  by_cases hc : ∀ i, i < K.length → kindN P (k + i) = K.getD i 0
  · rw [if_pos (h.2 hc), if_pos hc, List.drop_drop]
  · rw [if_neg (fun he => hc (h.1 he)), if_neg hc]
theorem takeN' {P : List PartA} {K : List Nat} {k : Nat} (hK : ∀ x ∈ K, x ≠ 0) {C : Prop} [Decidable C] (hC : (∀ i, i < K.length → kindN P (k + i) = K.getD i 0) ↔ C) : takeP K (P.drop k) = if C then ((P.drop k).take K.length, true, P.drop (k + K.length)) else ([], false, P.drop k) := by
  rw [takeN hK]
  by_cases hc : C
  · rw [if_pos hc, if_pos (hC.2 hc)]
  · rw [if_neg hc, if_neg (fun h => hc (hC.1 h))]
theorem take1N (P : List PartA) (a k : Nat) (ha : a ≠ 0) : takeP [a] (P.drop k) = if kindN P k = a then ((P.drop k).take 1, true, P.drop (k + 1)) else ([], false, P.drop k) := by
  rw [takeN (by simpa using ha)]
  by_cases h : kindN P k = a
  · have hc : ∀ i, i < [a].length → kindN P (k + i) = [a].getD i 0 := fun i hi => by
      have h0 : i = 0 := by have : i < 1 := hi; omega
      subst h0; exact h
    rw [if_pos hc, if_pos h]; rfl
  · rw [if_neg (fun he => h (he 0 (by simp))), if_neg h]
theorem getD_take1 (P : List PartA) (k : Nat) : ((P.drop k).take 1).getD 0 zP = P.getD k zP := by
  rw [List.getD_eq_getElem?_getD, List.getElem?_take, if_pos (by omega), List.getElem?_drop, Nat.add_zero, ← List.getD_eq_getElem?_getD]
theorem getD_takeN (P : List PartA) (k m i : Nat) (h : i < m) : ((P.drop k).take m).getD i zP = P.getD (k + i) zP := by
  rw [List.getD_eq_getElem?_getD, List.getElem?_take, if_pos h, List.getElem?_drop, ← List.getD_eq_getElem?_getD]

/-- The subset and the Close: the same both ways. -/
theorem tail_eq {P : List PartA} (h5 : First5 P) (k : Nat) (hk : ∀ i, i < blankN P k → kindN P i ≠ 5) :
    (if (takeP [7] (subR (takeP [3] (P.drop k)).2.2).2).2.1 then some (subR (takeP [3] (P.drop k)).2.2).1 else none) = tailR P k := by
  have e3 : (takeP [3] (P.drop k)).2.2 = P.drop (blankN P k) := by
    rw [take1N _ _ _ (by decide)]
    unfold blankN
    split <;> rfl
  rw [e3]
  obtain ⟨j, hj⟩ : ∃ j, blankN P k = j := ⟨_, rfl⟩
  have hsp : ∀ m, (takeP [3] (P.drop m)).2.2 = P.drop (blankN P m) := fun m => by
    rw [take1N _ _ _ (by decide)]
    unfold blankN
    split <;> rfl
  unfold tailR
  rw [hj] at hk ⊢
  unfold subR
  rw [take1N _ _ _ (by decide)]
  by_cases h : kindN P j = 5
  · have hs := h5 j h hk
    simp only [if_pos h]
    rw [take1N _ _ _ (by decide)]
    by_cases h6 : kindN P (j + 1) = 6
    · simp only [if_pos h6, if_true, getD_take1]
      rw [take1N P 5 (j + 1 + 1) (by decide)]
      by_cases h55 : kindN P (j + 1 + 1) = 5
      · simp only [if_pos h55]
        rw [hsp, take1N _ _ _ (by decide)]
        by_cases h7 : kindN P (blankN P (j + 1 + 1 + 1)) = 7
        · simp [h7, h55]
        · simp [h7]
      · simp only [if_neg h55]
        rw [hsp]
        have hnil : P.length ≤ j + 2 := by
          rcases hs with h1 | h1 | ⟨_, h2⟩
          · omega
          · rw [h6] at h1; cases h1
          · rcases h2 with h2 | h2
            · exact h2
            · exact absurd h2 h55
        have hb : blankN P (j + 1 + 1) = j + 1 + 1 := by unfold blankN; rw [kindN_none (by omega)]; rfl
        rw [hb, take1N _ _ _ (by decide), kindN_none (P := P) (by omega)]
        simp
    · simp only [if_neg h6, Bool.false_eq_true, if_false, if_true]
      rw [take1N P 5 (j + 1) (by decide)]
      by_cases h55 : kindN P (j + 1) = 5
      · simp only [if_pos h55]
        rw [hsp, take1N _ _ _ (by decide)]
        by_cases h7 : kindN P (blankN P (j + 1 + 1)) = 7
        · simp [h7, h55]
        · simp [h7]
      · simp only [if_neg h55]
        rw [hsp]
        have hnil : P.length ≤ j + 1 := by
          rcases hs with h1 | h1 | ⟨h1, _⟩
          · exact h1
          · exact absurd h1 h55
          · exact absurd h1 h6
        have hb : blankN P (j + 1) = j + 1 := by unfold blankN; rw [kindN_none (by omega)]; rfl
        rw [hb, take1N _ _ _ (by decide), kindN_none (P := P) (by omega)]
        simp
  · simp only [if_neg h, Bool.false_eq_true, if_false]
    rw [take1N _ _ _ (by decide)]
    by_cases h7 : kindN P j = 7
    · simp [h7]
    · simp [h7]

theorem all4 {P : List PartA} {k a b c d : Nat} : (∀ i, i < [a, b, c, d].length → kindN P (k + i) = [a, b, c, d].getD i 0) ↔ (kindN P k = a ∧ kindN P (k + 1) = b ∧ kindN P (k + 2) = c ∧ kindN P (k + 3) = d) := by
  constructor
  · intro h; exact ⟨h 0 (by simp), h 1 (by simp), h 2 (by simp), h 3 (by simp)⟩
  · rintro ⟨h0, h1, h2, h3⟩ i hi
    have hi4 : i < 4 := hi
    match i, hi4 with
    | 0, _ => exact h0
    | 1, _ => exact h1
    | 2, _ => exact h2
    | 3, _ => exact h3
theorem all6 {P : List PartA} {k a b c d e f : Nat} : (∀ i, i < [a, b, c, d, e, f].length → kindN P (k + i) = [a, b, c, d, e, f].getD i 0) ↔ (kindN P k = a ∧ kindN P (k + 1) = b ∧ kindN P (k + 2) = c ∧ kindN P (k + 3) = d ∧ kindN P (k + 4) = e ∧ kindN P (k + 5) = f) := by
  constructor
  · intro h; exact ⟨h 0 (by simp), h 1 (by simp), h 2 (by simp), h 3 (by simp), h 4 (by simp), h 5 (by simp)⟩
  · rintro ⟨h0, h1, h2, h3, h4, h5⟩ i hi
    have hi6 : i < 6 := hi
    match i, hi6 with
    | 0, _ => exact h0
    | 1, _ => exact h1
    | 2, _ => exact h2
    | 3, _ => exact h3
    | 4, _ => exact h4
    | 5, _ => exact h5
theorem all3 {P : List PartA} {k a b c : Nat} : (∀ i, i < [a, b, c].length → kindN P (k + i) = [a, b, c].getD i 0) ↔ (kindN P k = a ∧ kindN P (k + 1) = b ∧ kindN P (k + 2) = c) := by
  constructor
  · intro h; exact ⟨h 0 (by simp), h 1 (by simp), h 2 (by simp)⟩
  · rintro ⟨h0, h1, h2⟩ i hi
    have hi3 : i < 3 := hi
    match i, hi3 with
    | 0, _ => exact h0
    | 1, _ => exact h1
    | 2, _ => exact h2

/-- A part is some signs if what the reference makes of it is they. -/
theorem strOfNums_bytes' (t : ByteArray) : strOfNums (sg t) = t := by
  cases t with
  | mk a =>
    unfold strOfNums sg
    simp only [List.map_map]
    have : (a.toList.map ((fun n : Int => UInt8.ofNat n.toNat) ∘ fun b : UInt8 => (b.toNat : Int))) = a.toList := by
      conv => rhs; rw [← List.map_id a.toList]
      refine List.map_congr_left fun b _ => ?_
      simp
    rw [this]
theorem sg_ofNums {zs : List Int} (h : ∀ z ∈ zs, 0 ≤ z ∧ z < 256) : sg (strOfNums zs) = zs := by
  unfold sg
  rw [strOfNums_data, List.map_map]
  conv => rhs; rw [← List.map_id zs]
  refine List.map_congr_left fun z hz => ?_
  have := h z hz
  simp only [Function.comp, id]
  rw [UInt8.toNat_ofNat']
  omega
theorem isP_txt {l : List Int} {a0 a1 a2 : Nat} (h1 : a1 ≤ a2) (h2 : a2 ≤ l.length) {s : ByteArray} (hs : ∀ z ∈ sg s, 0 < z ∧ z < 128) : isP l (a0, a1, a2) s = decide (strOfNums (txt ((l.take a2).drop a1)) = s) := by
  have hlen : ((l.take a2).drop a1).length = a2 - a1 := by rw [List.length_drop, List.length_take]; omega
  have e1 : (l.take a2).drop a1 = (l.drop a1).take (a2 - a1) := by rw [List.drop_take]
  unfold isP
  rw [Bool.eq_iff_iff, Bool.and_eq_true, decide_eq_true_eq, decide_eq_true_eq]
  constructor
  · rintro ⟨e, hsw⟩
    simp only at e hsw
    have hsw := of_decide_eq_true hsw
    rw [sg_length] at hsw
    rw [e1, show a2 - a1 = s.size by omega, hsw]
    have : txt (sg s) = sg s := by
      unfold txt
      conv => rhs; rw [← List.map_id (sg s)]
      refine List.map_congr_left fun z hz => ?_
      unfold txt1
      rw [if_pos (hs z hz)]; rfl
    rw [this]
    exact strOfNums_bytes' s
  · intro e
    have hb : ∀ z ∈ txt ((l.take a2).drop a1), 0 ≤ z ∧ z < 256 := fun z hz => by
      obtain ⟨r, _, rfl⟩ := List.mem_map.1 hz
      unfold txt1
      split <;> omega
    have e2 := sg_ofNums hb
    rw [e] at e2
    have hl2 := congrArg List.length e2
    rw [sg_length] at hl2
    have hl3 : (txt ((l.take a2).drop a1)).length = a2 - a1 := by unfold txt; rw [List.length_map, hlen]
    rw [hl3] at hl2
    refine ⟨by simp only; omega, decide_eq_true ?_⟩
    simp only
    rw [sg_length, hl2, ← e1]
    rw [e2]
    unfold txt
    conv => lhs; rw [← List.map_id ((l.take a2).drop a1)]
    refine List.map_congr_left fun r hr => ?_
    have hm : txt1 r ∈ sg s := by rw [e2]; exact List.mem_map_of_mem hr
    have := hs _ hm
    unfold txt1 at this ⊢
    split
    · rfl
    · rename_i hc; rw [if_neg hc] at this; omega

/-- What names something outside: the same both ways, but where it is wrong. -/
theorem first_eq {l : List Int} {P : List PartA} (hw : WFP l.length P) :
    (match firstR l P with
      | some (uv, k) => outR l (P.drop 3) = (uv, P.drop k) ∧ 3 ≤ k ∧ (∀ i, 3 ≤ i → i < k → kindN P i ≠ 5)
      | none => outR l (P.drop 3) = ((zP, zP), P.drop 3) ∧ kindN P 3 = 3 ∧ kindN P 4 = 2) := by
  unfold firstR outR
  rw [takeN' (K := [3, 2, 3, 4]) (by decide) all4, takeN' (K := [3, 2, 3, 4, 3, 4]) (by decide) all6]
  simp only [Nat.reduceAdd]
  by_cases h34 : kindN P 3 = 3 ∧ kindN P 4 = 2
  case neg =>
    have n1 : ¬ (kindN P 3 = 3 ∧ kindN P 4 = 2 ∧ kindN P 5 = 3 ∧ kindN P 6 = 4) := fun h => h34 ⟨h.1, h.2.1⟩
    have n2 : ¬ (kindN P 3 = 3 ∧ kindN P 4 = 2 ∧ kindN P 5 = 3 ∧ kindN P 6 = 4 ∧ kindN P 7 = 3 ∧ kindN P 8 = 4) := fun h => h34 ⟨h.1, h.2.1⟩
    simp only [if_neg h34, if_neg n1, if_neg n2, Bool.false_and, Bool.false_eq_true, if_false]
    exact ⟨trivial, by omega, fun i a b => by omega⟩
  have hx4 : P.getD 4 zP ∈ P := List.mem_of_getElem? (getD_some (kindN_lt h34.2 (by decide)))
  have hw4 := hw _ hx4
  have hS' : isP l (P.getD 4 zP) kSYS = decide (strOfNums (txt ((l.take (P.getD 4 zP).2.2).drop (P.getD 4 zP).2.1)) = kSYS) := isP_txt (l := l) (a0 := (P.getD 4 zP).1) hw4.1 hw4.2.1 (s := kSYS) (by decide)
  have hU' : isP l (P.getD 4 zP) kPUB = decide (strOfNums (txt ((l.take (P.getD 4 zP).2.2).drop (P.getD 4 zP).2.1)) = kPUB) := isP_txt (l := l) (a0 := (P.getD 4 zP).1) hw4.1 hw4.2.1 (s := kPUB) (by decide)
  obtain ⟨T, hT⟩ : ∃ T, strOfNums (txt ((l.take (P.getD 4 zP).2.2).drop (P.getD 4 zP).2.1)) = T := ⟨_, rfl⟩
  rw [hT] at hS' hU' ⊢
  have g1 : (((P.drop 3).take [3, 2, 3, 4].length)).getD 1 zP = P.getD 4 zP := getD_takeN P 3 4 1 (by omega)
  have g3 : (((P.drop 3).take [3, 2, 3, 4].length)).getD 3 zP = P.getD 6 zP := getD_takeN P 3 4 3 (by omega)
  have k1 : (((P.drop 3).take [3, 2, 3, 4, 3, 4].length)).getD 1 zP = P.getD 4 zP := getD_takeN P 3 6 1 (by omega)
  have k3 : (((P.drop 3).take [3, 2, 3, 4, 3, 4].length)).getD 3 zP = P.getD 6 zP := getD_takeN P 3 6 3 (by omega)
  have k5 : (((P.drop 3).take [3, 2, 3, 4, 3, 4].length)).getD 5 zP = P.getD 8 zP := getD_takeN P 3 6 5 (by omega)
  have d7 : 3 + [3, 2, 3, 4].length = 7 := rfl
  have d9 : 3 + [3, 2, 3, 4, 3, 4].length = 9 := rfl
  rw [d7, d9]
  obtain ⟨h3, h4⟩ := h34
  have z1 : ([] : List PartA).getD 1 zP = zP := rfl
  by_cases h56 : kindN P 5 = 3 ∧ kindN P 6 = 4
  case neg =>
    have n1 : ¬ (kindN P 3 = 3 ∧ kindN P 4 = 2 ∧ kindN P 5 = 3 ∧ kindN P 6 = 4) := fun h => h56 ⟨h.2.2.1, h.2.2.2⟩
    have n2 : ¬ (kindN P 3 = 3 ∧ kindN P 4 = 2 ∧ kindN P 5 = 3 ∧ kindN P 6 = 4 ∧ kindN P 7 = 3 ∧ kindN P 8 = 4) := fun h => h56 ⟨h.2.2.1, h.2.2.2.1⟩
    have n3 : kindN P 5 ≠ 3 ∨ kindN P 6 ≠ 4 := by omega
    simp only [if_pos (And.intro h3 h4), if_neg n1, if_neg n2, if_pos n3, Bool.false_and, Bool.false_eq_true, if_false]
    exact ⟨trivial, h3, h4⟩
  obtain ⟨h5, h6⟩ := h56
  have n3 : ¬ (kindN P 5 ≠ 3 ∨ kindN P 6 ≠ 4) := by omega
  simp only [if_pos (And.intro h3 h4), if_pos (show kindN P 3 = 3 ∧ kindN P 4 = 2 ∧ kindN P 5 = 3 ∧ kindN P 6 = 4 from ⟨h3, h4, h5, h6⟩), if_neg n3, Bool.true_and]
  rw [g1, g3, hS']
  by_cases hs : T = kSYS
  · simp only [if_pos hs, decide_eq_true hs, if_true]
    refine ⟨trivial, by omega, fun i a b => ?_⟩
    rcases (show i = 3 ∨ i = 4 ∨ i = 5 ∨ i = 6 by omega) with rfl | rfl | rfl | rfl <;> omega
  simp only [if_neg hs, decide_eq_false hs, Bool.false_eq_true, if_false]
  by_cases h78 : kindN P 7 = 3 ∧ kindN P 8 = 4
  case neg =>
    have n2 : ¬ (kindN P 3 = 3 ∧ kindN P 4 = 2 ∧ kindN P 5 = 3 ∧ kindN P 6 = 4 ∧ kindN P 7 = 3 ∧ kindN P 8 = 4) := fun h => h78 ⟨h.2.2.2.2.1, h.2.2.2.2.2⟩
    have n4 : kindN P 7 ≠ 3 ∨ kindN P 8 ≠ 4 ∨ pubP l (P.getD 6 zP) = false := by omega
    simp only [if_neg n2, if_pos n4, Bool.false_and, Bool.false_eq_true, if_false]
    by_cases hu : T = kPUB
    · simp only [if_pos hu]
      exact ⟨trivial, h3, h4⟩
    · simp only [if_neg hu]
      exact ⟨trivial, h3, h4⟩
  obtain ⟨h7, h8⟩ := h78
  simp only [if_pos (show kindN P 3 = 3 ∧ kindN P 4 = 2 ∧ kindN P 5 = 3 ∧ kindN P 6 = 4 ∧ kindN P 7 = 3 ∧ kindN P 8 = 4 from ⟨h3, h4, h5, h6, h7, h8⟩), Bool.true_and]
  rw [k1, k3, k5, hU']
  by_cases hu : T = kPUB
  · simp only [if_pos hu, decide_eq_true hu, Bool.true_and]
    cases hp : pubP l (P.getD 6 zP)
    · simp only [or_true, if_true, Bool.false_eq_true, if_false]
      exact ⟨trivial, h3, h4⟩
    · have n4 : ¬ (kindN P 7 ≠ 3 ∨ kindN P 8 ≠ 4 ∨ true = false) := by simp; omega
      simp only [if_neg n4, if_true]
      refine ⟨trivial, by omega, fun i a b => ?_⟩
      rcases (show i = 3 ∨ i = 4 ∨ i = 5 ∨ i = 6 ∨ i = 7 ∨ i = 8 by omega) with rfl | rfl | rfl | rfl | rfl | rfl <;> omega
  · simp only [if_neg hu, decide_eq_false hu, Bool.false_and, Bool.false_eq_true, if_false]
    exact ⟨trivial, h3, h4⟩

/-- A head told by taking parts is the head told by numbers of parts. -/
theorem read_eq {l : List Int} {P : List PartA} (hw : WFP l.length P) (h5 : First5 P) : readR l P = readD l P := by
  have hT := takeN' (P := P) (K := [1, 3, 2]) (k := 0) (by decide) all3
  rw [List.drop_zero] at hT
  simp only [Nat.zero_add] at hT
  unfold readR readD
  by_cases h : kindN P 0 = 1 ∧ kindN P 1 = 3 ∧ kindN P 2 = 2
  · rw [if_pos h] at hT ⊢
    rw [hT]
    have g2 : (P.take [1, 3, 2].length).getD 2 zP = P.getD 2 zP := by
      have := getD_takeN P 0 3 2 (by omega)
      rw [List.drop_zero] at this
      exact this
    simp only [if_true]
    rw [g2, show [1, 3, 2].length = 3 from rfl]
    have hF := first_eq hw
    cases hf : firstR l P with
    | none =>
      rw [hf] at hF
      simp only at hF ⊢
      obtain ⟨ho, k3, k4⟩ := hF
      rw [ho]
      simp only
      have e3 : (takeP [3] (P.drop 3)).2.2 = P.drop 4 := by rw [take1N _ _ _ (by decide), if_pos k3]
      rw [e3]
      have es : subR (P.drop 4) = (zP, P.drop 4) := by
        unfold subR
        rw [take1N _ _ _ (by decide), if_neg (show ¬ kindN P 4 = 5 by omega)]
        first | done | rfl
      rw [es, take1N _ _ _ (by decide), if_neg (show ¬ kindN P 4 = 7 by omega)]
      first | done | rfl
    | some x =>
      obtain ⟨uv, k⟩ := x
      rw [hf] at hF
      simp only at hF ⊢
      obtain ⟨ho, hk3, hk5⟩ := hF
      rw [ho]
      simp only
      have hpre : ∀ i, i < blankN P k → kindN P i ≠ 5 := fun i hi => by
        by_cases h0 : i < 3
        · rcases (show i = 0 ∨ i = 1 ∨ i = 2 by omega) with rfl | rfl | rfl <;> omega
        · by_cases hk : i < k
          · exact hk5 i (by omega) hk
          · unfold blankN at hi
            split at hi
            · rename_i h3
              obtain rfl : i = k := by omega
              omega
            · omega
      have ht := tail_eq h5 k hpre
      rw [← ht]
      cases hc : (takeP [7] (subR (takeP [3] (P.drop k)).2.2).2).2.1
      · simp
      · simp
  · rw [if_neg h] at hT ⊢
    rw [hT]
    rfl

end Go.Proofs.Ytpjcheelafegbaa

namespace Go.Proofs.Ytpjcheelafegbaa
open Go.RowKit
set_option linter.unusedVariables false

theorem blankN_le (P : List PartA) (k : Nat) : blankN P k ≤ k + 1 := by unfold blankN; split <;> omega
section
variable {w : World} {n cap : Nat} {l : List Int} {P : List PartA} {f t : Int}
abbrev RGoal (w : World) (b off n cap : Nat) (f t : Int) (r : (PartA × PartA × PartA × PartA) × Bool) : Prop :=
  Calls Try.prog 21 #[.slice (some ⟨b, off, none⟩) n cap, .int .i64 f, .int .i64 t] w (HeadD w r)

theorem tail_ways {P : List PartA} (k : Nat) (hk : k ≤ 9) (h7 : Last7 P) (G : Option PartA → Prop)
    (t1 : ∀ {j1 : Nat} (hb1 : blankN P k = j1) (hj1 : j1 ≤ 100) (g0 : kindN P j1 = 5) (g1 : kindN P (j1 + 1) = 6) {x : Nat} (g2 : kindN P (j1 + 2) = x) (gx : x ≠ 5) {y0 y1 y2 : Nat} (hpy : P[j1 + 1]? = some (y0, y1, y2)), G none)
    (t2 : ∀ {j1 : Nat} (hb1 : blankN P k = j1) (hj1 : j1 ≤ 100) {j4 : Nat} (hb4 : blankN P (j1 + 3) = j4) (hj4 : j4 ≤ 200) (g0 : kindN P j1 = 5) (g1 : kindN P (j1 + 1) = 6) (g2 : kindN P (j1 + 2) = 5) (g3 : kindN P j4 = 7) {y0 y1 y2 : Nat} (hpy : P[j1 + 1]? = some (y0, y1, y2)) (hL7 : j4 + 1 = P.length), G (some (y0, y1, y2)))
    (t3 : ∀ {j1 : Nat} (hb1 : blankN P k = j1) (hj1 : j1 ≤ 100) {j4 : Nat} (hb4 : blankN P (j1 + 3) = j4) (hj4 : j4 ≤ 200) (g0 : kindN P j1 = 5) (g1 : kindN P (j1 + 1) = 6) (g2 : kindN P (j1 + 2) = 5) {x : Nat} (g3 : kindN P j4 = x) (gx : x ≠ 7) {y0 y1 y2 : Nat} (hpy : P[j1 + 1]? = some (y0, y1, y2)), G none)
    (t4 : ∀ {j1 : Nat} (hb1 : blankN P k = j1) (hj1 : j1 ≤ 100) (g0 : kindN P j1 = 5) {x : Nat} (g1 : kindN P (j1 + 1) = x) (gx6 : x ≠ 6) (gx5 : x ≠ 5), G none)
    (t5 : ∀ {j1 : Nat} (hb1 : blankN P k = j1) (hj1 : j1 ≤ 100) {j4 : Nat} (hb4 : blankN P (j1 + 2) = j4) (hj4 : j4 ≤ 200) (g0 : kindN P j1 = 5) (g1 : kindN P (j1 + 1) = 5) (g2 : kindN P j4 = 7) (hL7 : j4 + 1 = P.length), G (some zP))
    (t6 : ∀ {j1 : Nat} (hb1 : blankN P k = j1) (hj1 : j1 ≤ 100) {j4 : Nat} (hb4 : blankN P (j1 + 2) = j4) (hj4 : j4 ≤ 200) (g0 : kindN P j1 = 5) (g1 : kindN P (j1 + 1) = 5) {x : Nat} (g2 : kindN P j4 = x) (gx : x ≠ 7), G none)
    (t7 : ∀ {j1 : Nat} (hb1 : blankN P k = j1) (hj1 : j1 ≤ 100) (g0 : kindN P j1 = 7) (hL7 : j1 + 1 = P.length), G (some zP))
    (t8 : ∀ {j1 : Nat} (hb1 : blankN P k = j1) (hj1 : j1 ≤ 100) {x : Nat} (g0 : kindN P j1 = x) (gx5 : x ≠ 5) (gx7 : x ≠ 7), G none) :
    G (tailR P k) := by
  have hb := blankN_le P k
  obtain ⟨j1, hj⟩ : ∃ j, blankN P k = j := ⟨_, rfl⟩
  rw [hj] at hb
  unfold tailR
  rw [hj]
  by_cases h5 : kindN P j1 = 5
  · rw [if_pos h5]
    by_cases h6 : kindN P (j1 + 1) = 6
    · rw [if_pos h6]
      have hpy := getD_some (kindN_lt h6 (by decide))
      obtain ⟨⟨y0, y1, y2⟩, hy⟩ : ∃ y, P.getD (j1 + 1) zP = y := ⟨_, rfl⟩
      rw [hy] at hpy ⊢
      by_cases h55 : kindN P (j1 + 2) = 5
      · have hb2 := blankN_le P (j1 + 3)
        by_cases h77 : kindN P (blankN P (j1 + 3)) = 7
        · rw [if_pos ⟨h55, h77⟩]
          exact t2 hj (by omega) rfl (by omega) h5 h6 h55 h77 hpy (h7 _ h77)
        · rw [if_neg (fun h => h77 h.2)]
          exact t3 hj (by omega) rfl (by omega) h5 h6 h55 rfl h77 hpy
      · rw [if_neg (fun h => h55 h.1)]
        exact t1 hj (by omega) h5 h6 rfl h55 hpy
    · rw [if_neg h6]
      by_cases h55 : kindN P (j1 + 1) = 5
      · have hb2 := blankN_le P (j1 + 2)
        by_cases h77 : kindN P (blankN P (j1 + 2)) = 7
        · rw [if_pos ⟨h55, h77⟩]
          exact t5 hj (by omega) rfl (by omega) h5 h55 h77 (h7 _ h77)
        · rw [if_neg (fun h => h77 h.2)]
          exact t6 hj (by omega) rfl (by omega) h5 h55 rfl h77
      · rw [if_neg (fun h => h55 h.1)]
        exact t4 hj (by omega) h5 rfl h6 h55
  · rw [if_neg h5]
    by_cases h77 : kindN P j1 = 7
    · rw [if_pos h77]
      exact t7 hj (by omega) h77 (h7 _ h77)
    · rw [if_neg h77]
      exact t8 hj (by omega) rfl h5 h77

theorem rread_some {b off : Nat} (RR : RRow w b off n cap l) (hwf : ∀ j, -2147483648 ≤ l.getD j 0 ∧ l.getD j 0 ≤ 2147483647) (hn : n ≤ 900) (hP : inP dtP l f t = P) (hw : WFP n P) (h7 : Last7 P) (h0 : kindN P 0 = 1) (h1 : kindN P 1 = 3) (h2 : kindN P 2 = 2) :
    RGoal w b off n cap f t (match firstR l P with
      | none => ((zP, zP, zP, zP), false)
      | some (uv, k) => match tailR P k with
        | none => ((zP, zP, zP, zP), false)
        | some y => ((P.getD 2 zP, uv.1, uv.2, y), true)) := by
  have hp2 := getD_some (kindN_lt h2 (by decide))
  obtain ⟨⟨m0, m1, m2⟩, hm⟩ : ∃ y, P.getD 2 zP = y := ⟨_, rfl⟩
  rw [hm] at hp2 ⊢
  unfold firstR
  by_cases h34 : kindN P 3 = 3 ∧ kindN P 4 = 2
  case neg =>
    rw [if_neg h34]
    simp only
    by_cases h3 : kindN P 3 = 3
    · have h4 : kindN P 4 ≠ 2 := fun h => h34 ⟨h3, h⟩
      refine tail_ways 3 (by omega) h7 (fun o => RGoal w b off n cap f t (match o with | none => ((zP, zP, zP, zP), false) | some y => (((m0, m1, m2), zP, zP, y), true))) ?_ ?_ ?_ ?_ ?_ ?_ ?_ ?_
      · intro j1 a1 a2 a3 a4 x a5 a6 y0 y1 y2 a7; exact rr_n4_t1 RR hwf hn hP h0 h1 h2 hp2 h3 rfl h4 a1 a2 a3 a4 a5 a6 a7
      · intro j1 a1 a2 j4 a3 a4 a5 a6 a7 a8 y0 y1 y2 a9 a10; exact rr_n4_t2 RR hwf hn hP h0 h1 h2 hp2 h3 rfl h4 a1 a2 a3 a4 a5 a6 a7 a8 a9 a10
      · intro j1 a1 a2 j4 a3 a4 a5 a6 a7 x a8 a9 y0 y1 y2 a10; exact rr_n4_t3 RR hwf hn hP h0 h1 h2 hp2 h3 rfl h4 a1 a2 a3 a4 a5 a6 a7 a8 a9 a10
      · intro j1 a1 a2 a3 x a4 a5 a6; exact rr_n4_t4 RR hwf hn hP h0 h1 h2 hp2 h3 rfl h4 a1 a2 a3 a4 a5 a6
      · intro j1 a1 a2 j4 a3 a4 a5 a6 a7 a8; exact rr_n4_t5 RR hwf hn hP h0 h1 h2 hp2 h3 rfl h4 a1 a2 a3 a4 a5 a6 a7 a8
      · intro j1 a1 a2 j4 a3 a4 a5 a6 x a7 a8; exact rr_n4_t6 RR hwf hn hP h0 h1 h2 hp2 h3 rfl h4 a1 a2 a3 a4 a5 a6 a7 a8
      · intro j1 a1 a2 a3 a4; exact rr_n4_t7 RR hwf hn hP h0 h1 h2 hp2 h3 rfl h4 a1 a2 a3 a4
      · intro j1 a1 a2 x a3 a4 a5; exact rr_n4_t8 RR hwf hn hP h0 h1 h2 hp2 h3 rfl h4 a1 a2 a3 a4 a5
    · refine tail_ways 3 (by omega) h7 (fun o => RGoal w b off n cap f t (match o with | none => ((zP, zP, zP, zP), false) | some y => (((m0, m1, m2), zP, zP, y), true))) ?_ ?_ ?_ ?_ ?_ ?_ ?_ ?_
      · intro j1 a1 a2 a3 a4 x a5 a6 y0 y1 y2 a7; exact rr_n3_t1 RR hwf hn hP h0 h1 h2 hp2 rfl h3 a1 a2 a3 a4 a5 a6 a7
      · intro j1 a1 a2 j4 a3 a4 a5 a6 a7 a8 y0 y1 y2 a9 a10; exact rr_n3_t2 RR hwf hn hP h0 h1 h2 hp2 rfl h3 a1 a2 a3 a4 a5 a6 a7 a8 a9 a10
      · intro j1 a1 a2 j4 a3 a4 a5 a6 a7 x a8 a9 y0 y1 y2 a10; exact rr_n3_t3 RR hwf hn hP h0 h1 h2 hp2 rfl h3 a1 a2 a3 a4 a5 a6 a7 a8 a9 a10
      · intro j1 a1 a2 a3 x a4 a5 a6; exact rr_n3_t4 RR hwf hn hP h0 h1 h2 hp2 rfl h3 a1 a2 a3 a4 a5 a6
      · intro j1 a1 a2 j4 a3 a4 a5 a6 a7 a8; exact rr_n3_t5 RR hwf hn hP h0 h1 h2 hp2 rfl h3 a1 a2 a3 a4 a5 a6 a7 a8
      · intro j1 a1 a2 j4 a3 a4 a5 a6 x a7 a8; exact rr_n3_t6 RR hwf hn hP h0 h1 h2 hp2 rfl h3 a1 a2 a3 a4 a5 a6 a7 a8
      · intro j1 a1 a2 a3 a4; exact rr_n3_t7 RR hwf hn hP h0 h1 h2 hp2 rfl h3 a1 a2 a3 a4
      · intro j1 a1 a2 x a3 a4 a5; exact rr_n3_t8 RR hwf hn hP h0 h1 h2 hp2 rfl h3 a1 a2 a3 a4 a5
  obtain ⟨h3, h4⟩ := h34
  rw [if_pos ⟨h3, h4⟩]
  have hp4 := getD_some (kindN_lt h4 (by decide))
  have hw4 := hw _ (List.mem_of_getElem? hp4)
  obtain ⟨⟨a0, a1, a2⟩, ha⟩ : ∃ y, P.getD 4 zP = y := ⟨_, rfl⟩
  rw [ha] at hp4 hw4 ⊢
  simp only at hw4 ⊢
  by_cases h5 : kindN P 5 = 3
  case neg =>
    rw [if_pos (.inl h5)]
    exact rr_f5 RR hwf hn hP h0 h1 h2 hp2 h3 h4 rfl h5 hp4 hw4.1 hw4.2.1 rfl
  by_cases h6 : kindN P 6 = 4
  case neg =>
    rw [if_pos (.inr h6)]
    exact rr_f6 RR hwf hn hP h0 h1 h2 hp2 h3 h4 h5 rfl h6 hp4 hw4.1 hw4.2.1 rfl
  rw [if_neg (by omega)]
  have hp6 := getD_some (kindN_lt h6 (by decide))
  have hw6 := hw _ (List.mem_of_getElem? hp6)
  have hk6 : (P.getD 6 zP).1 = 4 := h6
  obtain ⟨⟨b0, b1, b2⟩, hb⟩ : ∃ y, P.getD 6 zP = y := ⟨_, rfl⟩
  rw [hb] at hp6 hw6 hk6 ⊢
  simp only at hw6 hk6
  have hb12 := hw6.2.2 hk6
  by_cases hs : strOfNums (txt ((l.take a2).drop a1)) = kSYS
  · rw [if_pos hs]
    simp only
    refine tail_ways 7 (by omega) h7 (fun o => RGoal w b off n cap f t (match o with | none => ((zP, zP, zP, zP), false) | some y => (((m0, m1, m2), zP, (b0, b1, b2), y), true))) ?_ ?_ ?_ ?_ ?_ ?_ ?_ ?_
    · intro j1 c1 c2 c3 c4 x c5 c6 y0 y1 y2 c7; exact rr_sys_t1 RR hwf hn hP h0 h1 h2 hp2 h3 h4 h5 h6 hp4 hw4.1 hw4.2.1 hs hp6 c1 c2 c3 c4 c5 c6 c7
    · intro j1 c1 c2 j4 c3 c4 c5 c6 c7 c8 y0 y1 y2 c9 c10; exact rr_sys_t2 RR hwf hn hP h0 h1 h2 hp2 h3 h4 h5 h6 hp4 hw4.1 hw4.2.1 hs hp6 c1 c2 c3 c4 c5 c6 c7 c8 c9 c10
    · intro j1 c1 c2 j4 c3 c4 c5 c6 c7 x c8 c9 y0 y1 y2 c10; exact rr_sys_t3 RR hwf hn hP h0 h1 h2 hp2 h3 h4 h5 h6 hp4 hw4.1 hw4.2.1 hs hp6 c1 c2 c3 c4 c5 c6 c7 c8 c9 c10
    · intro j1 c1 c2 c3 x c4 c5 c6; exact rr_sys_t4 RR hwf hn hP h0 h1 h2 hp2 h3 h4 h5 h6 hp4 hw4.1 hw4.2.1 hs hp6 c1 c2 c3 c4 c5 c6
    · intro j1 c1 c2 j4 c3 c4 c5 c6 c7 c8; exact rr_sys_t5 RR hwf hn hP h0 h1 h2 hp2 h3 h4 h5 h6 hp4 hw4.1 hw4.2.1 hs hp6 c1 c2 c3 c4 c5 c6 c7 c8
    · intro j1 c1 c2 j4 c3 c4 c5 c6 x c7 c8; exact rr_sys_t6 RR hwf hn hP h0 h1 h2 hp2 h3 h4 h5 h6 hp4 hw4.1 hw4.2.1 hs hp6 c1 c2 c3 c4 c5 c6 c7 c8
    · intro j1 c1 c2 c3 c4; exact rr_sys_t7 RR hwf hn hP h0 h1 h2 hp2 h3 h4 h5 h6 hp4 hw4.1 hw4.2.1 hs hp6 c1 c2 c3 c4
    · intro j1 c1 c2 x c3 c4 c5; exact rr_sys_t8 RR hwf hn hP h0 h1 h2 hp2 h3 h4 h5 h6 hp4 hw4.1 hw4.2.1 hs hp6 c1 c2 c3 c4 c5
  rw [if_neg hs]
  by_cases hu : strOfNums (txt ((l.take a2).drop a1)) = kPUB
  case neg =>
    rw [if_neg hu]
    exact rr_fs RR hwf hn hP h0 h1 h2 hp2 h3 h4 h5 h6 hp4 hw4.1 hw4.2.1 rfl hs hu
  rw [if_pos hu]
  by_cases h7' : kindN P 7 = 3
  case neg =>
    rw [if_pos (.inl h7')]
    exact rr_p7 RR hwf hn hP h0 h1 h2 hp2 h3 h4 h5 h6 rfl h7' hp4 hw4.1 hw4.2.1 hu hp6
  by_cases h8 : kindN P 8 = 4
  case neg =>
    rw [if_pos (.inr (.inl h8))]
    exact rr_p8 RR hwf hn hP h0 h1 h2 hp2 h3 h4 h5 h6 h7' rfl h8 hp4 hw4.1 hw4.2.1 hu hp6
  cases hp : pubP l (b0, b1, b2)
  · rw [if_pos (.inr (.inr rfl))]
    exact rr_pn RR hwf hn hP h0 h1 h2 hp2 h3 h4 h5 h6 h7' h8 hp4 hw4.1 hw4.2.1 hu hp6 hb12 hw6.2.1 hp
  rw [if_neg (by simp; omega)]
  have hp8 := getD_some (kindN_lt h8 (by decide))
  obtain ⟨⟨c0, c1, c2⟩, hc⟩ : ∃ y, P.getD 8 zP = y := ⟨_, rfl⟩
  rw [hc] at hp8 ⊢
  simp only
  refine tail_ways 9 (by omega) h7 (fun o => RGoal w b off n cap f t (match o with | none => ((zP, zP, zP, zP), false) | some y => (((m0, m1, m2), (b0, b1, b2), (c0, c1, c2), y), true))) ?_ ?_ ?_ ?_ ?_ ?_ ?_ ?_
  · intro j1 e1 e2 e3 e4 x e5 e6 y0 y1 y2 e7; exact rr_pub_t1 RR hwf hn hP h0 h1 h2 hp2 h3 h4 h5 h6 h7' h8 hp4 hw4.1 hw4.2.1 hu hp6 hb12 hw6.2.1 hp hp8 e1 e2 e3 e4 e5 e6 e7
  · intro j1 e1 e2 j4 e3 e4 e5 e6 e7 e8 y0 y1 y2 e9 e10; exact rr_pub_t2 RR hwf hn hP h0 h1 h2 hp2 h3 h4 h5 h6 h7' h8 hp4 hw4.1 hw4.2.1 hu hp6 hb12 hw6.2.1 hp hp8 e1 e2 e3 e4 e5 e6 e7 e8 e9 e10
  · intro j1 e1 e2 j4 e3 e4 e5 e6 e7 x e8 e9 y0 y1 y2 e10; exact rr_pub_t3 RR hwf hn hP h0 h1 h2 hp2 h3 h4 h5 h6 h7' h8 hp4 hw4.1 hw4.2.1 hu hp6 hb12 hw6.2.1 hp hp8 e1 e2 e3 e4 e5 e6 e7 e8 e9 e10
  · intro j1 e1 e2 e3 x e4 e5 e6; exact rr_pub_t4 RR hwf hn hP h0 h1 h2 hp2 h3 h4 h5 h6 h7' h8 hp4 hw4.1 hw4.2.1 hu hp6 hb12 hw6.2.1 hp hp8 e1 e2 e3 e4 e5 e6
  · intro j1 e1 e2 j4 e3 e4 e5 e6 e7 e8; exact rr_pub_t5 RR hwf hn hP h0 h1 h2 hp2 h3 h4 h5 h6 h7' h8 hp4 hw4.1 hw4.2.1 hu hp6 hb12 hw6.2.1 hp hp8 e1 e2 e3 e4 e5 e6 e7 e8
  · intro j1 e1 e2 j4 e3 e4 e5 e6 x e7 e8; exact rr_pub_t6 RR hwf hn hP h0 h1 h2 hp2 h3 h4 h5 h6 h7' h8 hp4 hw4.1 hw4.2.1 hu hp6 hb12 hw6.2.1 hp hp8 e1 e2 e3 e4 e5 e6 e7 e8
  · intro j1 e1 e2 e3 e4; exact rr_pub_t7 RR hwf hn hP h0 h1 h2 hp2 h3 h4 h5 h6 h7' h8 hp4 hw4.1 hw4.2.1 hu hp6 hb12 hw6.2.1 hp hp8 e1 e2 e3 e4
  · intro j1 e1 e2 x e3 e4 e5; exact rr_pub_t8 RR hwf hn hP h0 h1 h2 hp2 h3 h4 h5 h6 h7' h8 hp4 hw4.1 hw4.2.1 hu hp6 hb12 hw6.2.1 hp hp8 e1 e2 e3 e4 e5

theorem rRead_any {a : Option Addr} (R : NRow w a n cap l) (hwf : ∀ j, -2147483648 ≤ l.getD j 0 ∧ l.getD j 0 ≤ 2147483647) (hn : n ≤ 900) (f t : Int) :
    Calls Try.prog 21 #[.slice a n cap, .int .i64 f, .int .i64 t] w (HeadD w (readD l (inP dtP l f t))) := by
  obtain ⟨P, hP⟩ : ∃ P, inP dtP l f t = P := ⟨_, rfl⟩
  have hw := inP_wf R.len f t
  have h5 := inP_five l f t
  have h7 := inP_seven l f t
  rw [hP] at hw h5 h7 ⊢
  rw [← read_eq (by rw [R.len]; exact hw) h5]
  unfold readR
  by_cases h0 : kindN P 0 = 1
  case neg => rw [if_neg (fun h => h0 h.1)]; exact rr_s0 R hwf hn hP rfl h0
  by_cases h1 : kindN P 1 = 3
  case neg => rw [if_neg (fun h => h1 h.2.1)]; exact rr_s1 R hwf hn hP h0 rfl h1
  by_cases h2 : kindN P 2 = 2
  case neg => rw [if_neg (fun h => h2 h.2.2)]; exact rr_s2 R hwf hn hP h0 h1 rfl h2
  rw [if_pos ⟨h0, h1, h2⟩]
  have hn0 : 0 < n := by
    by_cases h : 0 < n
    · exact h
    · exfalso
      have hl : l = [] := List.length_eq_zero_iff.1 (by have := R.len; omega)
      have : P = [] := by
        rw [← hP]
        unfold inP
        split
        · subst hl
          simp [dtP, sw, sTo, rowP, rowF, shiftP]
        · rfl
      rw [this, kindN_nil] at h0
      cases h0
  obtain ⟨b, off, rfl, RR⟩ := R.some hn0
  exact rread_some RR hwf hn hP hw h7 h0 h1 h2
end

end Go.Proofs.Ytpjcheelafegbaa
