/-
  Contract of layer 8: a reader takes all attributes.
-/
import Derived.Test.YtblebkpnjeghoaaTagF
namespace Go.Proofs.Ytblebkpnjeghoaa
open Go.RowKit
set_option linter.unusedVariables false

/-- The attribute with which parts begin, and what is left behind it. -/
def attrP (Q : List PartA) : Option (AttA × List PartA) :=
  match takeP [3, 2] Q with
  | ([a, b], true, Q1) => match takeP [4] (takeP [3] Q1).2.2 with
    | (_, true, Q3) => match takeP [5] (takeP [3] Q3).2.2 with
      | ([v], true, Q5) => some ((b, v, (7, a.2.1, v.2.2)), Q5)
      | _ => none
    | _ => none
  | _ => none

theorem takeP_yes {K : List Nat} {Q n Q' : List PartA} (h : takeP K Q = (n, true, Q')) : n.map (·.1) = K ∧ Q = n ++ Q' := by
  unfold takeP at h
  split at h
  · rename_i hc
    simp only [Prod.mk.injEq] at h
    obtain ⟨rfl, _, rfl⟩ := h
    exact ⟨hc, (List.take_append_drop _ _).symm⟩
  · simp at h
theorem takeP_no {K : List Nat} {Q n Q' : List PartA} (h : takeP K Q = (n, false, Q')) : Q' = Q := by
  unfold takeP at h
  split at h
  · simp at h
  · simp only [Prod.mk.injEq] at h
    exact h.2.2.symm
theorem takeP_len (K : List Nat) (Q : List PartA) : (takeP K Q).2.2.length ≤ Q.length := by
  unfold takeP
  split
  · simp
  · simp

theorem attrP_len {Q Q' : List PartA} {x : AttA} (h : attrP Q = some (x, Q')) : Q'.length < Q.length := by
  unfold attrP at h
  split at h
  · rename_i a b Q1 h1
    split at h
    · rename_i n3 Q3 h3
      split at h
      · rename_i v Q5 h5
        simp only [Option.some.injEq, Prod.mk.injEq] at h
        obtain ⟨_, rfl⟩ := h
        have e1 := congrArg List.length (takeP_yes h1).2
        have e5 := congrArg List.length (takeP_yes h5).2
        have e3 := congrArg List.length (takeP_yes h3).2
        have l2 := takeP_len [3] Q1
        have l4 := takeP_len [3] Q3
        simp at e1 e3 e5
        omega
      · simp at h
    · simp at h
  · simp at h

theorem two_of {n : List PartA} {x y : Nat} (h : n.map (·.1) = [x, y]) : ∃ a b, n = [a, b] := by
  match n with
  | [] => simp at h
  | [a] => simp at h
  | [a, b] => exact ⟨a, b, rfl⟩
  | a :: b :: c :: n => simp at h
theorem one_of {n : List PartA} {x : Nat} (h : n.map (·.1) = [x]) : ∃ a, n = [a] := by
  match n with
  | [] => simp at h
  | [a] => exact ⟨a, rfl⟩
  | a :: b :: n => simp at h

theorem attr_some {w : World} {rp : Nat} {Q Q' : List PartA} {x : AttA} (R : RD w rp Q) (h : attrP Q = some (x, Q')) :
    Calls Try.prog 102 #[.pointer (some ⟨rp, 0, none⟩)] w (Attred (attV x) true Q' rp w) := by
  unfold attrP at h
  split at h
  · rename_i a b Q1 h1
    split at h
    · rename_i n3 Q3 h3
      split at h
      · rename_i v Q5 h5
        simp only [Option.some.injEq, Prod.mk.injEq] at h
        obtain ⟨rfl, rfl⟩ := h
        obtain ⟨a0, a1, a2⟩ := a
        obtain ⟨b0, b1, b2⟩ := b
        obtain ⟨u0, u1, u2⟩ := v
        obtain ⟨⟨n2, o2, Q2⟩, h2⟩ : ∃ t, takeP [3] Q1 = t := ⟨_, rfl⟩
        obtain ⟨⟨n4, o4, Q4⟩, h4⟩ : ∃ t, takeP [3] Q3 = t := ⟨_, rfl⟩
        rw [h2] at h3
        rw [h4] at h5
        exact attr_yes R (Lib.hid h1) (Lib.hid h2) (Lib.hid h3) (Lib.hid h4) (Lib.hid h5)
      · simp at h
    · simp at h
  · simp at h

theorem attr_none {w : World} {rp : Nat} {Q : List PartA} (R : RD w rp Q) (h : attrP Q = none) :
    Calls Try.prog 102 #[.pointer (some ⟨rp, 0, none⟩)] w (Attred (attI 0 0 0 0 0 0 0 0 0) false Q rp w) := by
  obtain ⟨⟨n1, o1, Q1⟩, h1⟩ : ∃ t, takeP [3, 2] Q = t := ⟨_, rfl⟩
  obtain ⟨⟨n2, o2, Q2⟩, h2⟩ : ∃ t, takeP [3] Q1 = t := ⟨_, rfl⟩
  obtain ⟨⟨n3, o3, Q3⟩, h3⟩ : ∃ t, takeP [4] Q2 = t := ⟨_, rfl⟩
  obtain ⟨⟨n4, o4, Q4⟩, h4⟩ : ∃ t, takeP [3] Q3 = t := ⟨_, rfl⟩
  obtain ⟨⟨n5, o5, Q5⟩, h5⟩ : ∃ t, takeP [5] Q4 = t := ⟨_, rfl⟩
  refine attr_no R (Lib.hid h1) (Lib.hid h2) (Lib.hid h3) (Lib.hid h4) (Lib.hid h5) ?_
  cases o1
  · rfl
  cases o3
  · rfl
  cases o5
  · rfl
  exfalso
  obtain ⟨a, b, rfl⟩ := two_of (takeP_yes h1).1
  obtain ⟨v, rfl⟩ := one_of (takeP_yes h5).1
  unfold attrP at h
  simp only [h1, h2, h3, h4, h5] at h
  simp at h

/-- All attributes with which parts begin, and what is left behind them. -/
def attrsF : Nat → List PartA → List AttA × List PartA
  | 0, Q => ([], Q)
  | f + 1, Q => match attrP Q with
    | some (x, Q') => (x :: (attrsF f Q').1, (attrsF f Q').2)
    | none => ([], Q)
def attrsP (Q : List PartA) : List AttA × List PartA := attrsF Q.length Q
theorem attrsF_some {f : Nat} {Q Q' : List PartA} {x : AttA} (h : attrP Q = some (x, Q')) : attrsF (f + 1) Q = (x :: (attrsF f Q').1, (attrsF f Q').2) := by rw [attrsF, h]
theorem attrsF_none {f : Nat} {Q : List PartA} (h : attrP Q = none) : attrsF f Q = ([], Q) := by
  cases f with
  | zero => rfl
  | succ f => rw [attrsF, h]

/-- All attributes' cells. -/
def attsCells (l : List AttA) : List Value := l.flatMap attCells
theorem attsCells_snoc (l : List AttA) (x : AttA) : attsCells (l ++ [x]) = attsCells l ++ attCells x := by simp [attsCells]
theorem attCells_one (x : AttA) : ∀ u ∈ attCells x, u.oneCell' = true := by
  intro u hu
  simp only [attCells, List.mem_append] at hu
  rcases hu with (hu | hu) | hu
  · exact parCells_one _ u hu
  · exact parCells_one _ u hu
  · exact parCells_one _ u hu

/-- What a call that takes attributes answers. -/
def OwnAtts (w : World) (rp : Nat) (l : List AttA) (Q' : List PartA) (e : Ending) (w' : World) : Prop :=
  ∃ v, e = .returned v ∧ w'.ownsRow w.heap.size 89 9 v l.length (attsCells l) ∧ RD w' rp Q' ∧ Kept rp w w'

theorem Kept.grown {p : Nat} {w w' : World} (h : Kept p w w') : w.grownBy w' (some p) := ⟨h.os, h.tape, h.output, h.size, fun k hk hne => h.block k hk (fun e => hne (by rw [e]))⟩
theorem own_kept {p : Nat} {w w' : World} {base n : Nat} {e : TypeId} {size : Nat} {v : Value} {xs : List Value} (h : w.ownsRow base e size v n xs) (hk : Kept p w w') (hp : p < base) : w'.ownsRow base e size v n xs :=
  h.kept hk.grown (.inr fun hc => by have := (h.lt p hc).1; omega)
theorem RD.belowS {w w' : World} {rp : Nat} {Q : List PartA} (h : RD w rp Q) (hb : Below (rp + 1) w w') : RD w' rp Q := by
  obtain ⟨A, c, r0, h1, h2, h3⟩ := h.ex
  refine ⟨⟨A, c, by rw [hb.cell (p := ⟨rp, 0, none⟩) (Nat.lt_succ_self rp)]; exact r0, h1, h2, ?_⟩, by rw [hb.frozen (p := ⟨rp, 0, none⟩) (Nat.lt_succ_self rp)]; exact h.frozen⟩
  intro j u hj
  obtain ⟨b, off, ha, hl, hc⟩ := h3 j u hj
  exact ⟨b, off, ha, hl, by rw [hb.cell (p := ⟨b, off + j, none⟩) (Nat.lt_succ_of_lt hl)]; exact hc⟩
theorem Kept.more {p : Nat} {w W w' : World} {o : Obj} {row : Option Nat} (h : Kept p w W) (hg : (W.alloc o).grownBy w' row) (hr : ∀ k, row = some k → w.heap.size ≤ k) : Kept p w w' := by
  have hs := h.size
  have hz := hg.size
  simp at hz
  refine ⟨hg.os.trans h.os, hg.tape.trans h.tape, hg.output.trans h.output, by omega, fun k hk hp => ?_⟩
  rw [hg.block k (by simp; omega) (fun e => absurd (hr k e.symm) (by omega)), Below.heap_alloc W o k (by omega)]
  exact h.block k hk hp

/-- A box of nine cells. -/
structure Box9 (w : World) (g : Nat) (a0 a1 a2 a3 a4 a5 a6 a7 a8 : Value) : Prop where
  c0 : w.cell? ⟨g, 0, none⟩ = some a0
  c1 : w.cell? ⟨g, 1, none⟩ = some a1
  c2 : w.cell? ⟨g, 2, none⟩ = some a2
  c3 : w.cell? ⟨g, 3, none⟩ = some a3
  c4 : w.cell? ⟨g, 4, none⟩ = some a4
  c5 : w.cell? ⟨g, 5, none⟩ = some a5
  c6 : w.cell? ⟨g, 6, none⟩ = some a6
  c7 : w.cell? ⟨g, 7, none⟩ = some a7
  c8 : w.cell? ⟨g, 8, none⟩ = some a8

theorem Box9.lt {w : World} {g : Nat} {a0 a1 a2 a3 a4 a5 a6 a7 a8 : Value} (h : Box9 w g a0 a1 a2 a3 a4 a5 a6 a7 a8) : g < w.heap.size := cell_lt h.c0
theorem Box9.map {w w' : World} {g : Nat} {a0 a1 a2 a3 a4 a5 a6 a7 a8 : Value} (h : Box9 w g a0 a1 a2 a3 a4 a5 a6 a7 a8) (k : ∀ i, w'.cell? ⟨g, i, none⟩ = w.cell? ⟨g, i, none⟩) : Box9 w' g a0 a1 a2 a3 a4 a5 a6 a7 a8 := ⟨(k 0).trans h.c0, (k 1).trans h.c1, (k 2).trans h.c2, (k 3).trans h.c3, (k 4).trans h.c4, (k 5).trans h.c5, (k 6).trans h.c6, (k 7).trans h.c7, (k 8).trans h.c8⟩
theorem Box9.kept {p : Nat} {w w' : World} {g : Nat} {a0 a1 a2 a3 a4 a5 a6 a7 a8 : Value} (h : Box9 w g a0 a1 a2 a3 a4 a5 a6 a7 a8) (hk : Kept p w w') (hg : g ≠ p) : Box9 w' g a0 a1 a2 a3 a4 a5 a6 a7 a8 := h.map fun i => World.cell?_of_block (hk.block g h.lt hg)
theorem Box9.grown {w w' : World} {g : Nat} {a0 a1 a2 a3 a4 a5 a6 a7 a8 : Value} (h : Box9 w g a0 a1 a2 a3 a4 a5 a6 a7 a8) {o : Obj} {row : Option Nat} (hg : (w.alloc o).grownBy w' row) (hne : row ≠ some g) : Box9 w' g a0 a1 a2 a3 a4 a5 a6 a7 a8 := h.map fun i => by
  rw [World.cell?_of_block (a := ⟨g, i, none⟩) (hg.block g (by simp; have := h.lt; omega) hne.symm), World.cell?_of_block (a := ⟨g, i, none⟩) (Below.heap_alloc _ o g h.lt)]
theorem Box9.new (w : World) (a0 a1 a2 a3 a4 a5 a6 a7 a8 : Value) (e : TypeId) : Box9 (w.alloc (.cells #[a0, a1, a2, a3, a4, a5, a6, a7, a8] e)) w.heap.size a0 a1 a2 a3 a4 a5 a6 a7 a8 := by
  constructor <;> simp
theorem Box9.set {w : World} {g : Nat} {a0 a1 a2 a3 a4 a5 a6 a7 a8 : Value} (h : Box9 w g a0 a1 a2 a3 a4 a5 a6 a7 a8) (b0 b1 b2 b3 b4 b5 b6 b7 b8 : Value) : Box9 (setA w g b0 b1 b2 b3 b4 b5 b6 b7 b8) g b0 b1 b2 b3 b4 b5 b6 b7 b8 := by
  unfold setA
  constructor <;> simp [go_sem, h.c0, h.c1, h.c2, h.c3, h.c4, h.c5, h.c6, h.c7, h.c8]
theorem setA_own {w : World} {base : Nat} {e : TypeId} {size : Nat} {v : Value} {n : Nat} {xs : List Value} (h : w.ownsRow base e size v n xs) {g : Nat} (hne : v.ownBlock ≠ some g) (a0 a1 a2 a3 a4 a5 a6 a7 a8 : Value) : (setA w g a0 a1 a2 a3 a4 a5 a6 a7 a8).ownsRow base e size v n xs := by
  unfold setA
  exact (ownsRow_setCell_other (a := ⟨g, 8, none⟩) (ownsRow_setCell_other (a := ⟨g, 7, none⟩) (ownsRow_setCell_other (a := ⟨g, 6, none⟩) (ownsRow_setCell_other (a := ⟨g, 5, none⟩) (ownsRow_setCell_other (a := ⟨g, 4, none⟩) (ownsRow_setCell_other (a := ⟨g, 3, none⟩) (ownsRow_setCell_other (a := ⟨g, 2, none⟩) (ownsRow_setCell_other (a := ⟨g, 1, none⟩) (ownsRow_setCell_other (a := ⟨g, 0, none⟩) h hne _) hne _) hne _) hne _) hne _) hne _) hne _) hne _) hne _)

/-- A round's beginning, where there is one more attribute. -/
structure TA (w wr : World) (rp : Nat) (v : Value) (g : Nat) (Q : List PartA) (f m : Nat) (acc : List AttA) (x : AttA) (res : List AttA × List PartA) : Prop where
  kept : Kept rp w wr
  own : wr.ownsRow w.heap.size 89 9 v acc.length (attsCells acc)
  ne : v.ownBlock ≠ some g
  base : w.heap.size ≤ g
  len : acc.length + Q.length + 1 ≤ m
  fuel : Q.length ≤ f
  all : (acc ++ x :: (attrsF f Q).1, (attrsF f Q).2) = res
  rd : RD wr rp Q
  box : Box9 wr g ((attCells x).getD 0 (.int .i64 0)) ((attCells x).getD 1 (.int .i64 0)) ((attCells x).getD 2 (.int .i64 0)) ((attCells x).getD 3 (.int .i64 0)) ((attCells x).getD 4 (.int .i64 0)) ((attCells x).getD 5 (.int .i64 0)) ((attCells x).getD 6 (.int .i64 0)) ((attCells x).getD 7 (.int .i64 0)) ((attCells x).getD 8 (.int .i64 0))
/-- A round's beginning, where there is none. -/
structure TZ (w wr : World) (rp : Nat) (v : Value) (res : List AttA × List PartA) : Prop where
  kept : Kept rp w wr
  own : wr.ownsRow w.heap.size 89 9 v res.1.length (attsCells res.1)
  rd : RD wr rp res.2

end Go.Proofs.Ytblebkpnjeghoaa
