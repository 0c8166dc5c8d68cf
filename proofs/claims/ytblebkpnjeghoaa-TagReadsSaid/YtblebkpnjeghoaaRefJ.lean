/-
  What the contract of the reference's Read wants: the tag's box.
-/
import Derived.Test.YtblebkpnjeghoaaRefI8
import Derived.Test.YtblebkpnjeghoaaRefF
namespace Go.Proofs.Ytblebkpnjeghoaa
open Go.RowKit
set_option linter.unusedVariables false

/-- What the reference's Read answers. -/
def OwnRTag (w : World) (nm : PartA) (al : List AttA) (r m : Bool) (e : Ending) (w' : World) : Prop :=
  ∃ v, e = .returned (tagI nm.1 nm.2.1 nm.2.2 v r m) ∧ w'.ownsRow w.heap.size 87 9 v al.length (attsCells al) ∧ Below w.heap.size w w'

abbrev rtagB : Obj := .cells #[.int .i64 0, .int .i64 0, .int .i64 0, .slice none 0 0, .bool false, .bool false] 83

/-- The tag's box while its attributes are taken. -/
structure RB (W1 wr : World) (tb : Nat) (nm : PartA) (av : Value) (acc : List AttA) : Prop where
  kept : Kept tb W1 wr
  own : wr.ownsRow W1.heap.size 87 9 av acc.length (attsCells acc)
  lt : W1.heap.size = tb + 1
  t0 : wr.cell? ⟨tb, 0, none⟩ = some (.int .i64 (nm.1 : Nat))
  t1 : wr.cell? ⟨tb, 1, none⟩ = some (.int .i64 (nm.2.1 : Nat))
  t2 : wr.cell? ⟨tb, 2, none⟩ = some (.int .i64 (nm.2.2 : Nat))
  t3 : wr.cell? ⟨tb, 3, none⟩ = some av
  t4 : wr.cell? ⟨tb, 4, none⟩ = some (.bool false)
  t5 : wr.cell? ⟨tb, 5, none⟩ = some (.bool false)
  fz : ∀ i, wr.frozen? ⟨tb, i, none⟩ = false
theorem RB.ne {W1 wr : World} {tb : Nat} {nm : PartA} {av : Value} {acc : List AttA} (h : RB W1 wr tb nm av acc) : av.ownBlock ≠ some tb := fun hc => by
  have := (h.own.lt _ hc).1
  have := h.lt
  omega
theorem RB.next {W1 wr w' : World} {tb : Nat} {nm : PartA} {av : Value} {acc : List AttA} (h : RB W1 wr tb nm av acc) (hb : Below wr.heap.size wr w') : RB W1 w' tb nm av acc := by
  have hlt : tb < wr.heap.size := cell_lt h.t0
  obtain ⟨k1, k2⟩ := bcell hb
  exact ⟨h.kept.next hb, owns_below h.own hb, h.lt, (k1 _ _ hlt).trans h.t0, (k1 _ _ hlt).trans h.t1, (k1 _ _ hlt).trans h.t2, (k1 _ _ hlt).trans h.t3, (k1 _ _ hlt).trans h.t4, (k1 _ _ hlt).trans h.t5, fun i => (k2 _ _ hlt).trans (h.fz i)⟩
/-- The box behind an append that put a new row into it. -/
theorem RB.grow {W1 wr w' : World} {tb : Nat} {nm : PartA} {av av' : Value} {acc acc' : List AttA} {o : Obj} {row : Option Nat} (h : RB W1 wr tb nm av acc) (hg : (wr.alloc o).grownBy w' row) (hr : ∀ k, row = some k → W1.heap.size ≤ k)
    (own : w'.ownsRow W1.heap.size 87 9 av' acc'.length (attsCells acc')) (hne : av'.ownBlock ≠ some tb) : RB W1 (w'.setCell ⟨tb, 3, none⟩ av') tb nm av' acc' := by
  have hlt : tb < wr.heap.size := cell_lt h.t0
  have hl := h.lt
  have e : w'.heap[tb]? = wr.heap[tb]? := by
    rw [hg.block tb (by simp; omega) (fun e => absurd (hr tb e.symm) (by omega)), Below.heap_alloc wr o tb hlt]
  have c : ∀ i, w'.cell? ⟨tb, i, none⟩ = wr.cell? ⟨tb, i, none⟩ := fun i => World.cell?_of_block e
  have f : ∀ i, w'.frozen? ⟨tb, i, none⟩ = wr.frozen? ⟨tb, i, none⟩ := fun i => World.frozen?_of_block e
  have n : ∀ i, i ≠ 3 → (w'.setCell ⟨tb, 3, none⟩ av').cell? ⟨tb, i, none⟩ = wr.cell? ⟨tb, i, none⟩ := fun i hi => by
    rw [World.cell?_setCell_other _ _ _ _ (fun e => hi (by cases e; rfl))]; exact c i
  exact ⟨(h.kept.more hg hr).put 3 _, ownsRow_setCell_other (a := ⟨tb, 3, none⟩) own hne _, hl, (n 0 (by omega)).trans h.t0, (n 1 (by omega)).trans h.t1, (n 2 (by omega)).trans h.t2, World.cell?_setCell_same _ _ _ ((c 3).trans h.t3), (n 4 (by omega)).trans h.t4, (n 5 (by omega)).trans h.t5, fun i => by have := (f i).trans (h.fz i); simp [go_sem, this]⟩
theorem AtB.row {w : World} {B : Nat} {a : Option Addr} {c : Nat} {P : List PartA} (h : AtB w B a (parsCells P)) (hc : P.length ≤ c) (hm : c ≤ maxLen) : PRow w a P.length c P :=
  ⟨rfl, hc, hm, fun j u hj => by obtain ⟨b, off, ha, _, hl⟩ := h j u hj; exact ⟨b, off, ha, hl⟩⟩
theorem attr_next {P : List PartA} {k k' : Nat} {x : AttA} (h : attrR P k = some (x, k')) : k' ≤ P.length := by
  unfold attrR at h
  split at h
  · split at h
    · split at h
      · rename_i h5
        simp only [Option.some.injEq, Prod.mk.injEq] at h
        by_cases hk : blankP P (blankP P (k + 2) + 1) < P.length
        · omega
        · rw [kindP_past hk] at h5; omega
      · cases h
    · cases h
  · cases h
theorem rattr_some {w : World} {A : Option Addr} {q c : Nat} {P : List PartA} (R : PRow w A q c P) (k : Nat) (hk : k ≤ 900) {x : AttA} {k' : Nat} (h : attrR P k = some (x, k')) :
    Calls Try.prog 81 #[.slice A q c, .int .i64 k] w fun e w' => e = .returned (.tuple #[attV x, .int .i64 (k' : Nat)]) ∧ Below w.heap.size w w' := by
  unfold attrR at h
  split at h
  · rename_i h1
    split at h
    · rename_i h4
      split at h
      · rename_i h5
        simp only [Option.some.injEq, Prod.mk.injEq] at h
        obtain ⟨rfl, rfl⟩ := h
        have g : ∀ i v, kindP P i = v → 0 < v → P[i]? = some (P.getD i (0, 0, 0)) := fun i v hv h0 => by
          have hl : i < P.length := by
            by_cases hl : i < P.length
            · exact hl
            · rw [kindP_past hl] at hv; omega
          rw [List.getD_eq_getElem?_getD, List.getElem?_eq_getElem hl]; rfl
        exact rattr_yes R k hk h1.1 h1.2 rfl h4 rfl h5 (g _ _ h1.1 (by omega)) (g _ _ h1.2 (by omega)) (g _ _ h5 (by omega))
      · cases h
    · cases h
  · cases h

theorem RB.at3 {W1 wr w' : World} {tb : Nat} {nm : PartA} {av : Value} {acc : List AttA} {o : Obj} {row : Option Nat} (h : RB W1 wr tb nm av acc) (hg : (wr.alloc o).grownBy w' row) (hr : ∀ k, row = some k → W1.heap.size ≤ k) :
    w'.cell? ⟨tb, 3, none⟩ = some av ∧ w'.frozen? ⟨tb, 3, none⟩ = false := by
  have hlt : tb < wr.heap.size := cell_lt h.t0
  have hl := h.lt
  have e : w'.heap[tb]? = wr.heap[tb]? := by
    rw [hg.block tb (by simp; omega) (fun e => absurd (hr tb e.symm) (by omega)), Below.heap_alloc wr o tb hlt]
  exact ⟨(World.cell?_of_block e).trans h.t3, (World.frozen?_of_block e).trans (h.fz 3)⟩
theorem rattr_some' {w : World} {A : Option Addr} {q c : Nat} {P : List PartA} (R : PRow w A q c P) (k : Nat) (hk : k ≤ 900) {b0 b1 b2 u0 u1 u2 k0 k1 k2 k' : Nat} (h : attrR P k = some (((b0, b1, b2), (u0, u1, u2), (k0, k1, k2)), k')) :
    Calls Try.prog 81 #[.slice A q c, .int .i64 k] w fun e w' => e = .returned (.tuple #[attI b0 b1 b2 u0 u1 u2 k0 k1 k2, .int .i64 (k' : Nat)]) ∧ Below w.heap.size w w' := rattr_some R k hk h

theorem rres_cells {w w1 w2 : World} {rd : Obj} (hb : Below (w.alloc rtagB).heap.size (w.alloc rtagB) w1) (hk : Kept w1.heap.size (w1.alloc rd) w2) :
    w2.cell? ⟨w.heap.size, 0, none⟩ = some (.int .i64 0) ∧ w2.cell? ⟨w.heap.size, 1, none⟩ = some (.int .i64 0) ∧ w2.cell? ⟨w.heap.size, 2, none⟩ = some (.int .i64 0) ∧ w2.cell? ⟨w.heap.size, 3, none⟩ = some (.slice none 0 0) ∧ w2.cell? ⟨w.heap.size, 4, none⟩ = some (.bool false) ∧ w2.cell? ⟨w.heap.size, 5, none⟩ = some (.bool false) ∧ (∀ i, w2.frozen? ⟨w.heap.size, i, none⟩ = false) := by
  have hs : w.heap.size < w1.heap.size := by have := hb.size; simp at this; omega
  have e : w2.heap[w.heap.size]? = (w.alloc rtagB).heap[w.heap.size]? := by
    rw [hk.block w.heap.size (by simp; omega) (by omega), Below.heap_alloc w1 rd w.heap.size hs, hb.block w.heap.size (by simp)]
  have c : ∀ i, w2.cell? ⟨w.heap.size, i, none⟩ = (w.alloc rtagB).cell? ⟨w.heap.size, i, none⟩ := fun i => World.cell?_of_block e
  have f : ∀ i, w2.frozen? ⟨w.heap.size, i, none⟩ = (w.alloc rtagB).frozen? ⟨w.heap.size, i, none⟩ := fun i => World.frozen?_of_block e
  refine ⟨?_, ?_, ?_, ?_, ?_, ?_, fun i => by rw [f]; simp [go_sem]⟩ <;> (rw [c]; simp)
theorem RB.done {w w1 wr : World} {nm : PartA} {av : Value} {acc : List AttA} {o : Obj} (h : RB (w1.alloc o) wr w1.heap.size nm av acc) (hb : Below (w.alloc rtagB).heap.size (w.alloc rtagB) w1) (a0 a1 a2 a3 a4 a5 : Value) :
    (setT wr w.heap.size a0 a1 a2 a3 a4 a5).ownsRow w.heap.size 87 9 av acc.length (attsCells acc) ∧ Below w.heap.size w (setT wr w.heap.size a0 a1 a2 a3 a4 a5) := by
  have hs : w.heap.size + 1 ≤ w1.heap.size := by have := hb.size; simp at this; omega
  refine ⟨setT_own (owns_lower h.own (by simp; omega)) (fun hc => ?_) _ _ _ _ _ _, setT_below (h.kept.below (((one_ok w rtagB).trans (hb.mono (by simp))).alloc (by omega) _) (by omega) (by simp; omega)) (Nat.le_refl _) _ _ _ _ _ _⟩
  have := (h.own.lt _ hc).1
  simp at this
  omega
theorem readI_no {P : List PartA} {ae : List AttA} {ke bl : Nat} (h0 : kindP P 0 = 1) (h1 : kindP P 1 = 2) (ha : attrsI P P.length 2 = (ae, ke)) (hb : blankP P ke = bl) (hn : ¬ (kindP P bl = 6 ∧ bl + 1 = P.length)) : readI P = (P.getD 1 (0, 0, 0), ae, false, false) := by
  unfold readI
  rw [if_pos ⟨h0, h1⟩, ha]
  simp only []
  rw [hb, if_neg hn]
theorem readI_yes {P : List PartA} {ae : List AttA} {ke bl : Nat} (h0 : kindP P 0 = 1) (h1 : kindP P 1 = 2) (ha : attrsI P P.length 2 = (ae, ke)) (hb : blankP P ke = bl) (hn : kindP P bl = 6 ∧ bl + 1 = P.length) :
    readI P = if lenB (P.getD 0 (0, 0, 0)) 2 && (lenB (P.getD bl (0, 0, 0)) 2 || decide (0 < ae.length)) then (P.getD 1 (0, 0, 0), ae, false, false) else (P.getD 1 (0, 0, 0), ae, true, lenB (P.getD bl (0, 0, 0)) 2) := by
  unfold readI
  rw [if_pos ⟨h0, h1⟩, ha]
  simp only []
  rw [hb, if_pos hn]

theorem RB.doneF {w w1 wr : World} {nm : PartA} {av : Value} {acc : List AttA} {o : Obj} (h : RB (w1.alloc o) wr w1.heap.size nm av acc) (hb : Below (w.alloc rtagB).heap.size (w.alloc rtagB) w1) (r m : Bool) (a0 a1 a2 a3 a4 a5 : Value) :
    (setT ((wr.setCell ⟨w1.heap.size, 4, none⟩ (.bool r)).setCell ⟨w1.heap.size, 5, none⟩ (.bool m)) w.heap.size a0 a1 a2 a3 a4 a5).ownsRow w.heap.size 87 9 av acc.length (attsCells acc) ∧ Below w.heap.size w (setT ((wr.setCell ⟨w1.heap.size, 4, none⟩ (.bool r)).setCell ⟨w1.heap.size, 5, none⟩ (.bool m)) w.heap.size a0 a1 a2 a3 a4 a5) := by
  have hs : w.heap.size + 1 ≤ w1.heap.size := by have := hb.size; simp at this; omega
  refine ⟨setT_own (owns_lower (ownsRow_setCell_other (a := ⟨w1.heap.size, 5, none⟩) (ownsRow_setCell_other (a := ⟨w1.heap.size, 4, none⟩) h.own h.ne _) h.ne _) (by simp; omega)) (fun hc => ?_) _ _ _ _ _ _, setT_below (((h.kept.put 4 _).put 5 _).below (((one_ok w rtagB).trans (hb.mono (by simp))).alloc (by omega) _) (by omega) (by simp; omega)) (Nat.le_refl _) _ _ _ _ _ _⟩
  have := (h.own.lt _ hc).1
  simp at this
  omega

theorem RB.fin {w w1 wr : World} {nm : PartA} {av : Value} {acc : List AttA} {o : Obj} (h : RB (w1.alloc o) wr w1.heap.size nm av acc) (hb : Below (w.alloc rtagB).heap.size (w.alloc rtagB) w1) (r m : Bool) (a0 a1 a2 a3 a4 a5 : Value) (q : Nat) :
    (setT (((wr.drewN q).setCell ⟨w1.heap.size, 4, none⟩ (.bool r)).setCell ⟨w1.heap.size, 5, none⟩ (.bool m)) w.heap.size a0 a1 a2 a3 a4 a5).ownsRow w.heap.size 87 9 av acc.length (attsCells acc) ∧ Below w.heap.size w (setT (((wr.drewN q).setCell ⟨w1.heap.size, 4, none⟩ (.bool r)).setCell ⟨w1.heap.size, 5, none⟩ (.bool m)) w.heap.size a0 a1 a2 a3 a4 a5) :=
  RB.doneF (h.next (below_drewN (Below.refl _ _) q)) hb r m a0 a1 a2 a3 a4 a5

/-- Which way a tag's parts go behind its attributes. -/
def wayP (P : List PartA) : Nat :=
  if kindP P (blankP P (attrsI P P.length 2).2) ≠ 6 then 0
  else if blankP P (attrsI P P.length 2).2 + 1 ≠ P.length then 1
  else if lenB (P.getD 0 (0, 0, 0)) 2 then
    (if lenB (P.getD (blankP P (attrsI P P.length 2).2) (0, 0, 0)) 2 then (if (attrsI P P.length 2).1.length = 0 then 4 else 5) else (if (attrsI P P.length 2).1.length = 0 then 6 else 7))
  else (if lenB (P.getD (blankP P (attrsI P P.length 2).2) (0, 0, 0)) 2 then 3 else 2)
theorem wayP_lt (P : List PartA) : wayP P = 0 ∨ wayP P = 1 ∨ wayP P = 2 ∨ wayP P = 3 ∨ wayP P = 4 ∨ wayP P = 5 ∨ wayP P = 6 ∨ wayP P = 7 := by
  unfold wayP
  repeat' split
  all_goals simp

end Go.Proofs.Ytblebkpnjeghoaa
