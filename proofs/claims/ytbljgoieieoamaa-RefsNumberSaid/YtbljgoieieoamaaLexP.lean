/-
  Layer 7, plainly: what a row of runes begins with, where a sign stands first, how far a row of like runes goes, where something in no quotes stands.
-/
import Derived.Test.YtbljgoieieoamaaNmB
namespace Go.Proofs.Ytbljgoieieoamaa
open Go.RowKit
set_option linter.unusedVariables false

/-- A sign's bytes, as numbers. -/
def sg (s : ByteArray) : List Int := s.data.toList.map fun b => (b.toNat : Int)
theorem sg_length (s : ByteArray) : (sg s).length = s.size := by
  unfold sg; rw [List.length_map, Array.length_toList]; rfl
theorem sg_get (s : ByteArray) (j : Nat) (h : j < s.size) : (sg s).getD j 0 = ((s[j]).toNat : Int) := by
  have hl : j < s.data.toList.length := by rw [Array.length_toList]; exact h
  unfold sg
  rw [List.getD_eq_getElem?_getD, List.getElem?_map, List.getElem?_eq_getElem hl]
  rfl

/-- Does a row begin with these? -/
def sw (a l : List Int) : Bool := decide (l.take a.length = a)
theorem sw_length {a l : List Int} (h : sw a l = true) : a.length ≤ l.length := by
  have h := of_decide_eq_true h
  have := congrArg List.length h
  rw [List.length_take] at this
  omega
theorem sw_get {a l : List Int} (h : sw a l = true) (j : Nat) (hj : j < a.length) : l.getD j 0 = a.getD j 0 := by
  have h := of_decide_eq_true h
  rw [← h, List.getD_eq_getElem?_getD, List.getD_eq_getElem?_getD, List.getElem?_take, if_pos hj]
theorem sw_of {a l : List Int} (hl : a.length ≤ l.length) (h : ∀ j, j < a.length → l.getD j 0 = a.getD j 0) : sw a l = true := by
  refine decide_eq_true (List.ext_getElem (by rw [List.length_take]; omega) fun j h1 h2 => ?_)
  have := h j h2
  rw [List.getElem_take]
  rw [List.getD_eq_getElem?_getD, List.getElem?_eq_getElem (by omega), List.getD_eq_getElem?_getD, List.getElem?_eq_getElem h2] at this
  exact this
theorem sw_no {a l : List Int} (j : Nat) (hj : j < a.length) (h : l.getD j 0 ≠ a.getD j 0) : sw a l = false := by
  cases hs : sw a l
  · rfl
  · exact absurd (sw_get hs j hj) h
theorem sw_short {a l : List Int} (h : l.length < a.length) : sw a l = false := by
  cases hs : sw a l
  · rfl
  · have := sw_length hs; omega

/-- Where a row first goes on with a sign. -/
def fnd (a : List Int) : List Int → Option Nat
  | [] => none
  | r :: l => if sw a (r :: l) then some 0 else (fnd a l).map (· + 1)
theorem fnd_some (a : List Int) (ha : 0 < a.length) : ∀ (l : List Int) (k : Nat), (∀ j, j < k → sw a (l.drop j) = false) → sw a (l.drop k) = true → fnd a l = some k := by
  intro l
  induction l with
  | nil => intro k _ h; rw [List.drop_nil] at h; have := sw_length h; simp at this; subst this; simp at ha
  | cons r l ih =>
    intro k h1 h2
    cases k with
    | zero => rw [List.drop_zero] at h2; rw [fnd, if_pos h2]
    | succ k =>
      have h0 := h1 0 (by omega)
      rw [List.drop_zero] at h0
      rw [fnd, if_neg (by rw [h0]; decide), ih k (fun j hj => by simpa using h1 (j + 1) (by omega)) (by simpa using h2)]
      rfl
theorem fnd_none (a : List Int) (ha : 0 < a.length) : ∀ (l : List Int), (∀ j, j + a.length ≤ l.length → sw a (l.drop j) = false) → fnd a l = none := by
  intro l
  induction l with
  | nil => intro _; rfl
  | cons r l ih =>
    intro h1
    have h0 : sw a (r :: l) = false := by
      by_cases h : a.length ≤ (r :: l).length
      · simpa using h1 0 (by omega)
      · exact sw_short (by omega)
    rw [fnd, if_neg (by rw [h0]; decide), ih (fun j hj => by simpa using h1 (j + 1) (by simp; omega))]
    rfl
theorem fnd_le (a : List Int) : ∀ (l : List Int) (k : Nat), fnd a l = some k → k + a.length ≤ l.length ∧ sw a (l.drop k) = true ∧ ∀ j, j < k → sw a (l.drop j) = false := by
  intro l
  induction l with
  | nil => intro k h; simp [fnd] at h
  | cons r l ih =>
    intro k h
    rw [fnd] at h
    by_cases hs : sw a (r :: l) = true
    · rw [if_pos hs] at h
      obtain rfl := Option.some.inj h
      have := sw_length hs
      exact ⟨by omega, by simpa using hs, fun j hj => by omega⟩
    · rw [if_neg hs] at h
      cases hf : fnd a l with
      | none => rw [hf] at h; simp at h
      | some m =>
        rw [hf] at h
        have h : m + 1 = k := Option.some.inj h
        subst h
        obtain ⟨h1, h2, h3⟩ := ih m hf
        refine ⟨by simp; omega, by simpa using h2, fun j hj => ?_⟩
        cases j with
        | zero => simpa using hs
        | succ j => simpa using h3 j (by omega)

/-- How many of a row, from its beginning on, are such ones. -/
def runP (p : Int → Bool) (l : List Int) : Nat := (l.takeWhile p).length
theorem runP_le (p : Int → Bool) (l : List Int) : runP p l ≤ l.length := by unfold runP; exact (List.takeWhile_prefix _).length_le
theorem runP_of (p : Int → Bool) (l : List Int) (k : Nat) (h1 : ∀ j, j < k → p (l.getD j 0) = true) (hk : k < l.length) (h2 : p (l.getD k 0) = false) : runP p l = k := by
  induction l generalizing k with
  | nil => simp at hk
  | cons x l ih =>
    cases k with
    | zero => simp only [List.getD_cons_zero] at h2; simp [runP, h2]
    | succ k =>
      have hx : p x = true := by simpa using h1 0 (by omega)
      have := ih k (fun j hj => by simpa using h1 (j + 1) (by omega)) (by simpa using hk) (by simpa using h2)
      unfold runP at this ⊢
      rw [List.takeWhile_cons, if_pos hx, List.length_cons, this]
theorem runP_all (p : Int → Bool) (l : List Int) (h : ∀ j, j < l.length → p (l.getD j 0) = true) : runP p l = l.length := by
  induction l with
  | nil => rfl
  | cons x l ih =>
    have hx : p x = true := by simpa using h 0 (by simp)
    have := ih (fun j hj => by simpa using h (j + 1) (by simpa using hj))
    unfold runP at this ⊢
    rw [List.takeWhile_cons, if_pos hx, List.length_cons, this, List.length_cons]

def plainB (r : Int) : Bool := !(r == 60) && !(r == 38) && !(r == -1)
def inEndB (r : Int) : Bool := !(r == 60) && !(r == 62)
def digitB (r : Int) : Bool := decide (48 ≤ r) && decide (r ≤ 57)
def hexB (r : Int) : Bool := (decide (97 ≤ r) && decide (r ≤ 102)) || (decide (65 ≤ r) && decide (r ≤ 70)) || (decide (48 ≤ r) && decide (r ≤ 57))

/-- What a rune makes of the quote that is open (0: none is). -/
def qstep (q r : Int) : Int := if q ≠ 0 then (if r = q then 0 else q) else if r = 34 ∨ r = 39 then r else 0
/-- Is a rune a sign in no quotes? -/
def qstop (S : List Int) (q r : Int) : Bool := decide (q = 0) && !(decide (r = 34) || decide (r = 39)) && S.contains r
/-- How far it is to the first of some signs that stands in no quotes, or to the end. -/
def bareP (S : List Int) : Int → List Int → Nat
  | _, [] => 0
  | q, r :: l => if qstop S q r then 0 else 1 + bareP S (qstep q r) l
theorem bareP_le (S : List Int) : ∀ (l : List Int) (q : Int), bareP S q l ≤ l.length := by
  intro l
  induction l with
  | nil => intro q; simp [bareP]
  | cons r l ih =>
    intro q
    rw [bareP]
    split
    · simp
    · have := ih (qstep q r); simp; omega

/-- Behind a sign that closes; else to the end. -/
def behP (a : List Int) (l : List Int) : Nat × Bool := match fnd a l with | some k => (k + a.length, true) | none => (l.length, false)
theorem behP_le (a l : List Int) : (behP a l).1 ≤ l.length := by
  unfold behP
  split
  · rename_i k h; exact (fnd_le a l k h).1
  · simp
def gt : List Int := [62]
def edgeP (l : List Int) : Nat × Bool := if sw gt l then (1, true) else (0, false)
theorem edgeP_le (l : List Int) : (edgeP l).1 ≤ l.length := by
  unfold edgeP
  split
  · rename_i h; exact sw_length h
  · simp

end Go.Proofs.Ytbljgoieieoamaa
