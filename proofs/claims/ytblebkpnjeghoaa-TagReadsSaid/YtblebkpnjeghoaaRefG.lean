/-
  Contracts of the reference's layer 8: kind, blank; which attribute begins with a part, by its number.
-/
import Derived.Test.YtblebkpnjeghoaaRefF
namespace Go.Proofs.Ytblebkpnjeghoaa
open Go.RowKit
set_option linter.unusedVariables false

/-- The kind of part number k; 0: there is none. -/
def kindP (P : List PartA) (k : Nat) : Nat := (P.getD k (0, 0, 0)).1
def blankP (P : List PartA) (k : Nat) : Nat := if kindP P k = 3 then k + 1 else k

/-- A row of the reference's parts that lies somewhere. -/
structure PRow (w : World) (A : Option Addr) (q c : Nat) (P : List PartA) : Prop where
  len : P.length = q
  le : q ≤ c
  max : c ≤ maxLen
  cells : AtCells w A (parsCells P)
theorem PRow.below {w w' : World} {A : Option Addr} {q c : Nat} {P : List PartA} (h : PRow w A q c P) (hb : Below w.heap.size w w') : PRow w' A q c P := ⟨h.len, h.le, h.max, h.cells.below hb⟩

set_option maxHeartbeats 1000000 in
theorem kind_any {w : World} {A : Option Addr} {q c : Nat} {P : List PartA} (R : PRow w A q c P) (k : Nat) (hk : k ≤ 2000) {v : Nat} (hv : kindP P k = v) :
    Calls Try.prog 80 #[.slice A q c, .int .i64 k] w fun e w' => e = .returned (.int .i64 v) ∧ w' = w := by
  have hm := R.max
  have hc := R.le
  unfold maxLen at hm
  by_cases h : k < q
  · obtain ⟨x, hx⟩ : ∃ x, P[k]? = some x := ⟨_, List.getElem?_eq_getElem (by rw [R.len]; exact h)⟩
    obtain ⟨vb, vo, rfl, c0, c1, c2⟩ := par_cells R.cells hx
    have HV := Lib.hid (show x.1 = v by rw [← hv, kindP, List.getD_eq_getElem?_getD, hx]; rfl)
    have h' : ¬ (q : Int) ≤ k := by omega
    clear R hx hv
    go_enter Try.func80, Try.ntmps80
    go_wp2
    go_ret
    exact ⟨ret_num (by rw [HV.out]), rfl⟩
  · have HV := Lib.hid (show v = 0 by rw [← hv, kindP, List.getD_eq_getElem?_getD, List.getElem?_eq_none (by rw [R.len]; omega)]; rfl)
    have h' : (q : Int) ≤ k := by omega
    clear R hv
    go_enter Try.func80, Try.ntmps80
    go_wp2
    go_ret
    exact ⟨ret_num (by rw [HV.out]; rfl), rfl⟩

set_option maxHeartbeats 1000000 in
theorem blank_any {w : World} {A : Option Addr} {q c : Nat} {P : List PartA} (R : PRow w A q c P) (k : Nat) (hk : k ≤ 1000) {v : Nat} (hv : blankP P k = v) :
    Calls Try.prog 82 #[.slice A q c, .int .i64 k] w fun e w' => e = .returned (.int .i64 v) ∧ w' = w := by
  obtain ⟨x, hx⟩ : ∃ x, kindP P k = x := ⟨_, rfl⟩
  have HK := Lib.hid (kind_any R k (by omega) hx)
  unfold blankP at hv
  rw [hx] at hv
  have HV := Lib.hid hv
  clear hv hx R
  by_cases h3 : x = 3
  · have HW := Lib.hid (show v = k + 1 by have := HV.out; rw [if_pos h3] at this; exact this.symm)
    subst h3
    go_enter Try.func82, Try.ntmps82
    go_wp2_with (go_at_call 80; (with_reducible refine HK.out.mono ?_); rintro e w1 ⟨rfl, rfl⟩)
    go_ret
    exact ⟨ret_num (by rw [HW.out]; omega), rfl⟩
  · have HW := Lib.hid (show v = k by have := HV.out; rw [if_neg h3] at this; exact this.symm)
    have h3' : ((x : Int) == 3) = false := by simp; omega
    go_enter Try.func82, Try.ntmps82
    go_wp2_with (go_at_call 80; (with_reducible refine HK.out.mono ?_); rintro e w1 ⟨rfl, rfl⟩)
    go_ret
    exact ⟨ret_num (by rw [HW.out]), rfl⟩

/-- The attribute that begins with part number k, and behind which part it ends. -/
def attrR (P : List PartA) (k : Nat) : Option (AttA × Nat) :=
  if kindP P k = 3 ∧ kindP P (k + 1) = 2 then
    if kindP P (blankP P (k + 2)) = 4 then
      if kindP P (blankP P (blankP P (k + 2) + 1)) = 5 then
        some ((P.getD (k + 1) (0, 0, 0), P.getD (blankP P (blankP P (k + 2) + 1)) (0, 0, 0), (7, (P.getD k (0, 0, 0)).2.1, (P.getD (blankP P (blankP P (k + 2) + 1)) (0, 0, 0)).2.2)), blankP P (blankP P (k + 2) + 1) + 1)
      else none
    else none
  else none

theorem drop_one {P : List PartA} {k : Nat} (hk : k < P.length) : P.drop k = P.getD k (0, 0, 0) :: P.drop (k + 1) := by
  rw [List.drop_eq_getElem_cons hk, List.getD_eq_getElem?_getD, List.getElem?_eq_getElem hk]; rfl
theorem kindP_past {P : List PartA} {k : Nat} (hk : ¬ k < P.length) : kindP P k = 0 := by
  rw [kindP, List.getD_eq_getElem?_getD, List.getElem?_eq_none (by omega)]; rfl
theorem take_one {P : List PartA} {k x : Nat} (hx : 0 < x) : takeP [x] (P.drop k) = if kindP P k = x then ([P.getD k (0, 0, 0)], true, P.drop (k + 1)) else ([], false, P.drop k) := by
  by_cases hk : k < P.length
  · rw [drop_one hk]
    by_cases h : kindP P k = x
    · rw [if_pos h]
      unfold kindP at h
      unfold takeP
      rw [if_pos (by simpa using h)]
      rfl
    · rw [if_neg h]
      unfold kindP at h
      unfold takeP
      rw [if_neg (by simpa using h)]
  · have e : P.drop k = [] := List.drop_eq_nil_of_le (by omega)
    have h0 : kindP P k = 0 := kindP_past hk
    unfold takeP
    rw [if_neg (by rw [e]; simp), if_neg (by omega)]
theorem take_three (P : List PartA) (k : Nat) : (takeP [3] (P.drop k)).2.2 = P.drop (blankP P k) := by
  rw [take_one (by omega), blankP]
  split <;> rfl
theorem take_pair {P : List PartA} {k x y : Nat} (hx : 0 < x) (hy : 0 < y) : takeP [x, y] (P.drop k) = if kindP P k = x ∧ kindP P (k + 1) = y then ([P.getD k (0, 0, 0), P.getD (k + 1) (0, 0, 0)], true, P.drop (k + 2)) else ([], false, P.drop k) := by
  by_cases hk : k + 1 < P.length
  · rw [drop_one (show k < P.length by omega), drop_one hk]
    by_cases h : kindP P k = x ∧ kindP P (k + 1) = y
    · rw [if_pos h]
      unfold kindP at h
      unfold takeP
      rw [if_pos (by simpa using h)]
      rfl
    · rw [if_neg h]
      unfold kindP at h
      unfold takeP
      rw [if_neg (by simpa using h)]
  · have h0 : kindP P (k + 1) = 0 := kindP_past hk
    unfold takeP
    rw [if_neg (fun h => by have := congrArg List.length h; simp at this; omega), if_neg (by omega)]

theorem attrR_eq (P : List PartA) (k : Nat) : attrP (P.drop k) = (attrR P k).map fun y => (y.1, P.drop y.2) := by
  unfold attrP attrR
  rw [take_pair (by omega) (by omega)]
  by_cases h1 : kindP P k = 3 ∧ kindP P (k + 1) = 2
  · rw [if_pos h1, if_pos h1]
    simp only []
    rw [take_three, take_one (by omega)]
    by_cases h4 : kindP P (blankP P (k + 2)) = 4
    · rw [if_pos h4, if_pos h4]
      simp only []
      rw [take_three, take_one (by omega)]
      by_cases h5 : kindP P (blankP P (blankP P (k + 2) + 1)) = 5
      · rw [if_pos h5, if_pos h5]; rfl
      · rw [if_neg h5, if_neg h5]; rfl
    · rw [if_neg h4, if_neg h4]; rfl
  · rw [if_neg h1, if_neg h1]; rfl

end Go.Proofs.Ytblebkpnjeghoaa
