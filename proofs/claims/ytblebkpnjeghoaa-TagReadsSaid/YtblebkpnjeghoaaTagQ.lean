/-
  Layer 8, plainly: a tag read from its parts; parts and attributes lie one behind the other.
-/
import Derived.Test.YtblebkpnjeghoaaTagK
import Derived.Test.YtblebkpnjeghoaaTagL
import Derived.Test.YtblebkpnjeghoaaTagM
import Derived.Test.YtblebkpnjeghoaaTagO
namespace Go.Proofs.Ytblebkpnjeghoaa
open Go.RowKit
set_option linter.unusedVariables false

/-- A tag, read from its parts: its name, its attributes, is it right, does it end with a /? -/
def readP (P : List PartA) : PartA × List AttA × Bool × Bool :=
  match takeP [1, 2] P with
  | ([h, nm], true, Q1) => match takeP [6] (takeP [3] (attrsP Q1).2).2.2 with
    | ([c], true, _) => if lenB h 2 && (lenB c 2 || decide (0 < (attrsP Q1).1.length)) then (nm, (attrsP Q1).1, false, false) else (nm, (attrsP Q1).1, true, lenB c 2)
    | _ => (nm, (attrsP Q1).1, false, false)
  | _ => ((0, 0, 0), [], false, false)

/-- Parts lie one behind the other, from a place up to another one; none is empty. -/
def chain : Nat → List PartA → Nat → Prop
  | k, [], e => k = e
  | k, x :: P, e => x.2.1 = k ∧ k < x.2.2 ∧ (x.1 = 5 → x.2.1 + 2 ≤ x.2.2) ∧ 1 ≤ x.1 ∧ x.1 ≤ 7 ∧ chain x.2.2 P e

theorem chain_le {P : List PartA} {k e : Nat} (h : chain k P e) : k ≤ e := by
  induction P generalizing k with
  | nil => exact Nat.le_of_eq h
  | cons x P ih =>
    obtain ⟨_, h2, _, _, _, h6⟩ := h
    have := ih h6
    omega
theorem chain_append {A B : List PartA} {k e : Nat} (h : chain k (A ++ B) e) : ∃ m, chain k A m ∧ chain m B e := by
  induction A generalizing k with
  | nil => exact ⟨k, rfl, h⟩
  | cons x A ih =>
    obtain ⟨h1, h2, h3, h4, h5, h6⟩ := h
    obtain ⟨m, a, b⟩ := ih h6
    exact ⟨m, ⟨h1, h2, h3, h4, h5, a⟩, b⟩
theorem chain_mem {P : List PartA} {k e : Nat} (h : chain k P e) : ∀ x ∈ P, x.2.1 ≤ e ∧ x.2.2 ≤ e := by
  induction P generalizing k with
  | nil => intro x hx; simp at hx
  | cons y P ih =>
    obtain ⟨h1, h2, _, _, _, h6⟩ := h
    have hle := chain_le h6
    intro x hx
    rcases List.mem_cons.1 hx with rfl | hx
    · omega
    · exact ih h6 x hx
theorem prt_five {s : List Int} (h : (prt s).1 = 5) : 2 ≤ (prt s).2 := by
  unfold prt at h ⊢
  split at h
  · simp at h
  split at h
  · simp at h
  split at h
  · simp at h
  split at h
  · unfold quo at h ⊢
    rename_i h1 h2 h3 h4
    rw [if_neg h1, if_neg h2, if_neg h3, if_pos h4]
    split at h
    · simp
    · simp at h
  split at h
  · simp at h
  · simp at h
theorem parF_chain : ∀ (f k : Nat) (s : List Int), s.length ≤ f → chain k (parF f k s) (k + s.length) := by
  intro f
  induction f with
  | zero => intro k s h; obtain rfl : s = [] := List.length_eq_zero_iff.1 (by omega); simp [parF, chain]
  | succ f ih =>
    intro k s h
    cases s with
    | nil => simp [parF, chain]
    | cons r s =>
      obtain ⟨h1, h2, h3, h4⟩ := prt_ok (r :: s) (by simp)
      have h5 : (prt (r :: s)).1 = 5 → 2 ≤ (prt (r :: s)).2 := prt_five
      rw [parF]
      have hl : ((r :: s).drop (prt (r :: s)).2).length = (r :: s).length - (prt (r :: s)).2 := List.length_drop
      have := ih (k + (prt (r :: s)).2) ((r :: s).drop (prt (r :: s)).2) (by omega)
      rw [hl] at this
      refine ⟨rfl, by simp only; omega, fun h => by have := h5 h; simp only; omega, by simp only; omega, by simp only; omega, ?_⟩
      rw [show k + (r :: s).length = k + (prt (r :: s)).2 + ((r :: s).length - (prt (r :: s)).2) by omega]
      exact this
theorem parS_chain (k : Nat) (s : List Int) : chain k (parS k s) (k + s.length) := by
  unfold parS
  split
  · rename_i j h
    obtain ⟨h1, h2⟩ := opn_le h
    have := parF_chain s.length (k + j) (s.drop j) (by simp)
    rw [List.length_drop] at this
    refine ⟨rfl, by simp only; omega, fun h => by simp at h, by simp, by simp, ?_⟩
    rw [show k + s.length = k + j + (s.length - j) by omega]
    exact this
  · exact parF_chain s.length k s (Nat.le_refl _)
theorem parts_mem {l : List Int} {f t : Int} {x : PartA} (h : x ∈ parts l f t) : x.2.1 ≤ l.length ∧ x.2.2 ≤ l.length := by
  unfold parts at h
  split at h
  · simp at h
  · have := chain_mem (parS_chain f.toNat ((l.take t.toNat).drop f.toNat)) x h
    rw [List.length_drop, List.length_take] at this
    omega

theorem takeP_mem {K : List Nat} {Q n Q' : List PartA} {o : Bool} (h : takeP K Q = (n, o, Q')) : (∀ x ∈ n, x ∈ Q) ∧ ∀ x ∈ Q', x ∈ Q := by
  unfold takeP at h
  split at h
  · simp only [Prod.mk.injEq] at h
    obtain ⟨rfl, _, rfl⟩ := h
    exact ⟨fun x hx => List.mem_of_mem_take hx, fun x hx => List.mem_of_mem_drop hx⟩
  · simp only [Prod.mk.injEq] at h
    obtain ⟨rfl, _, rfl⟩ := h
    exact ⟨fun x hx => by simp at hx, fun x hx => hx⟩
theorem takeP_chain {K : List Nat} {Q n Q' : List PartA} {o : Bool} (h : takeP K Q = (n, o, Q')) {k e : Nat} (hc : chain k Q e) : ∃ m, chain k n m ∧ chain m Q' e := by
  unfold takeP at h
  split at h
  · simp only [Prod.mk.injEq] at h
    obtain ⟨rfl, _, rfl⟩ := h
    exact chain_append (by rw [List.take_append_drop]; exact hc)
  · simp only [Prod.mk.injEq] at h
    obtain ⟨rfl, _, rfl⟩ := h
    exact ⟨k, rfl, hc⟩

/-- An attribute that lies behind a place. -/
def attOk (k : Nat) (x : AttA) : Prop := x.2.2.2.1 = k ∧ k < x.1.2.1 ∧ x.1.2.2 ≤ x.2.1.2.1 ∧ x.2.1.2.2 = x.2.2.2.2 ∧ x.2.1.2.1 + 2 ≤ x.2.1.2.2 ∧ x.1.2.1 < x.1.2.2
theorem attrP_chain {Q Q' : List PartA} {x : AttA} (h : attrP Q = some (x, Q')) {k e : Nat} (hc : chain k Q e) : attOk k x ∧ chain x.2.2.2.2 Q' e ∧ (∀ y ∈ Q', y ∈ Q) := by
  unfold attrP at h
  split at h
  · rename_i a b Q1 h1
    split at h
    · rename_i n3 Q3 h3
      split at h
      · rename_i v Q5 h5
        simp only [Option.some.injEq, Prod.mk.injEq] at h
        obtain ⟨rfl, rfl⟩ := h
        obtain ⟨⟨n2, o2, Q2⟩, h2⟩ : ∃ t, takeP [3] Q1 = t := ⟨_, rfl⟩
        obtain ⟨⟨n4, o4, Q4⟩, h4⟩ : ∃ t, takeP [3] Q3 = t := ⟨_, rfl⟩
        rw [h2] at h3
        rw [h4] at h5
        obtain ⟨m1, c1, d1⟩ := takeP_chain h1 hc
        obtain ⟨m2, c2, d2⟩ := takeP_chain h2 d1
        obtain ⟨m3, c3, d3⟩ := takeP_chain h3 d2
        obtain ⟨m4, c4, d4⟩ := takeP_chain h4 d3
        obtain ⟨m5, c5, d5⟩ := takeP_chain h5 d4
        have k5 := (takeP_yes h5).1
        simp only [List.map_cons, List.map_nil, List.cons.injEq, and_true] at k5
        obtain ⟨a1, a2, _, _, _, b1, b2, _, _, _, e1⟩ := c1
        obtain ⟨v1, v2, v3, _, _, v6⟩ := c5
        have l2 := chain_le c2
        have l3 := chain_le c3
        have l4 := chain_le c4
        have hv := v3 k5
        have e1' : b.2.2 = m1 := e1
        have v6' : v.2.2 = m5 := v6
        refine ⟨⟨a1, ?_, ?_, rfl, hv, ?_⟩, ?_, ?_⟩
        · show k < b.2.1; omega
        · show b.2.2 ≤ v.2.1; omega
        · show b.2.1 < b.2.2; omega
        · show chain v.2.2 Q5 e; rw [v6']; exact d5
        · exact fun y hy => (takeP_mem h1).2 y ((takeP_mem h2).2 y ((takeP_mem h3).2 y ((takeP_mem h4).2 y ((takeP_mem h5).2 y hy))))
      · simp at h
    · simp at h
  · simp at h

/-- Attributes that lie one behind the other, from a place up to another one. -/
def achain : Nat → List AttA → Nat → Prop
  | k, [], e => k = e
  | k, x :: al, e => attOk k x ∧ achain x.2.2.2.2 al e
theorem attrsF_chain : ∀ (f : Nat) (Q : List PartA) (k e : Nat), chain k Q e → ∃ m, achain k (attrsF f Q).1 m ∧ chain m (attrsF f Q).2 e ∧ ∀ y ∈ (attrsF f Q).2, y ∈ Q := by
  intro f
  induction f with
  | zero => intro Q k e h; exact ⟨k, rfl, h, fun y hy => hy⟩
  | succ f ih =>
    intro Q k e h
    cases ha : attrP Q with
    | none => rw [attrsF_none ha]; exact ⟨k, rfl, h, fun y hy => hy⟩
    | some y =>
      obtain ⟨x, Q'⟩ := y
      rw [attrsF_some ha]
      obtain ⟨h1, h2, h3⟩ := attrP_chain ha h
      obtain ⟨m, m1, m2, m3⟩ := ih Q' _ e h2
      exact ⟨m, ⟨h1, m1⟩, m2, fun y hy => h3 y (m3 y hy)⟩
theorem attrsP_len (Q : List PartA) : (attrsP Q).1.length ≤ Q.length := by
  unfold attrsP
  suffices h : ∀ (f : Nat) (Q : List PartA), (attrsF f Q).1.length ≤ f from h _ _
  intro f
  induction f with
  | zero => intro Q; simp [attrsF]
  | succ f ih =>
    intro Q
    rw [attrsF]
    split
    · rename_i x Q' h
      have := ih Q'
      simp; omega
    · simp

end Go.Proofs.Ytblebkpnjeghoaa
