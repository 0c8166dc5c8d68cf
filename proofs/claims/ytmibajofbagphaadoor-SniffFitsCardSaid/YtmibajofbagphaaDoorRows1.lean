/-
  Boxes: three cells that the call made, kept and written while other calls make memory.
-/
import Derived.Test.YtmibajofbagphaaDoorRows0
import Derived.OneCell
namespace Go.Proofs.YtmibajofbagphaaDoor
open Go.RowKit

/-- Block b holds three cells that may be written. -/
structure Box (w : World) (b : Nat) (a0 a1 a2 : Value) : Prop where
  c0 : w.cell? ⟨b, 0, none⟩ = some a0
  c1 : w.cell? ⟨b, 1, none⟩ = some a1
  c2 : w.cell? ⟨b, 2, none⟩ = some a2
  f0 : w.frozen? ⟨b, 0, none⟩ = false
  f1 : w.frozen? ⟨b, 1, none⟩ = false
  f2 : w.frozen? ⟨b, 2, none⟩ = false

theorem Box.lt {w : World} {b : Nat} {a0 a1 a2 : Value} (h : Box w b a0 a1 a2) : b < w.heap.size := cell_lt h.c0

theorem Box.new (w : World) (a0 a1 a2 : Value) (e : TypeId) : Box (w.alloc (.cells #[a0, a1, a2] e)) w.heap.size a0 a1 a2 := by
  have hc : ∀ i, (w.alloc (.cells #[a0, a1, a2] e)).cell? ⟨w.heap.size, i, none⟩ = #[a0, a1, a2][i]? := fun i => World.cell?_alloc_at _ _ _ i rfl
  have hf : ∀ i, (w.alloc (.cells #[a0, a1, a2] e)).frozen? ⟨w.heap.size, i, none⟩ = false := fun i => World.frozen?_alloc_at _ _ _ i rfl
  exact ⟨hc 0, hc 1, hc 2, hf 0, hf 1, hf 2⟩

theorem Box.below {w w' : World} {b : Nat} {a0 a1 a2 : Value} (h : Box w b a0 a1 a2) (hb : Below w.heap.size w w') : Box w' b a0 a1 a2 := by
  have hl := h.lt
  have c : ∀ i, w'.cell? ⟨b, i, none⟩ = w.cell? ⟨b, i, none⟩ := fun i => hb.cell (p := ⟨b, i, none⟩) hl
  have f : ∀ i, w'.frozen? ⟨b, i, none⟩ = w.frozen? ⟨b, i, none⟩ := fun i => hb.frozen (p := ⟨b, i, none⟩) hl
  exact ⟨by rw [c]; exact h.c0, by rw [c]; exact h.c1, by rw [c]; exact h.c2, by rw [f]; exact h.f0, by rw [f]; exact h.f1, by rw [f]; exact h.f2⟩

/-- The world with a box written anew. -/
def setBox (w : World) (b : Nat) (a0 a1 a2 : Value) : World := ((w.setCell ⟨b, 0, none⟩ a0).setCell ⟨b, 1, none⟩ a1).setCell ⟨b, 2, none⟩ a2

theorem Box.grown {w w' : World} {b : Nat} {a0 a1 a2 : Value} {o : Obj} {base n size : Nat} {e : TypeId} {v : Value} {xs : List Value} (h : Box w b a0 a1 a2) (ho : w.ownsRow base e size v n xs) (hne : v.ownBlock ≠ some b)
    (hg : (w.alloc o).grownBy w' v.ownBlock) : w'.cell? ⟨b, 0, none⟩ = some a0 ∧ w'.cell? ⟨b, 1, none⟩ = some a1 ∧ w'.cell? ⟨b, 2, none⟩ = some a2 := by
  have hl := h.lt
  have key : ∀ i u, w.cell? ⟨b, i, none⟩ = some u → w'.cell? ⟨b, i, none⟩ = some u := fun i u hu =>
    hg.cell (a := ⟨b, i, none⟩) (by rw [World.cell?_of_block (Below.heap_alloc w o b hl)]; exact hu) (fun h => hne h.symm)
  exact ⟨key 0 _ h.c0, key 1 _ h.c1, key 2 _ h.c2⟩

theorem setBox_owns {w : World} {b : Nat} {a0 a1 a2 : Value} {base n size : Nat} {e : TypeId} {v : Value} {xs : List Value} (ho : w.ownsRow base e size v n xs) (hne : v.ownBlock ≠ some b) : (setBox w b a0 a1 a2).ownsRow base e size v n xs :=
  ownsRow_setCell_other (ownsRow_setCell_other (ownsRow_setCell_other ho hne _) hne _) hne _

theorem setBox_below {B : Nat} {w0 w : World} {b : Nat} {a0 a1 a2 : Value} (h : Below B w0 w) (hb : B ≤ b) : Below B w0 (setBox w b a0 a1 a2) :=
  ((h.setCell (p := ⟨b, 0, none⟩) hb _).setCell (p := ⟨b, 1, none⟩) hb _).setCell (p := ⟨b, 2, none⟩) hb _

theorem setBox_size (w : World) (b : Nat) (a0 a1 a2 : Value) : (setBox w b a0 a1 a2).heap.size = w.heap.size := by simp [setBox, World.setCell]

theorem frozen_setCell (w : World) (p q : Addr) (u : Value) : (w.setCell p u).frozen? q = w.frozen? q := by
  unfold World.frozen? World.setCell
  simp only [Array.getElem?_modify]
  by_cases h : p.block = q.block
  · rw [if_pos h]
    cases hq : w.heap[q.block]? with
    | none => rfl
    | some o => cases o <;> rfl
  · rw [if_neg h]

theorem setBox_box {w : World} {b : Nat} {a0 a1 a2 : Value} (h : Box w b a0 a1 a2) (x0 x1 x2 : Value) : Box (setBox w b x0 x1 x2) b x0 x1 x2 := by
  unfold setBox
  have d01 : (⟨b, 0, none⟩ : Addr) ≠ ⟨b, 1, none⟩ := by simp
  have d02 : (⟨b, 0, none⟩ : Addr) ≠ ⟨b, 2, none⟩ := by simp
  have d12 : (⟨b, 1, none⟩ : Addr) ≠ ⟨b, 2, none⟩ := by simp
  refine ⟨?_, ?_, ?_, ?_, ?_, ?_⟩
  · rw [World.cell?_setCell_other _ _ _ _ d02.symm, World.cell?_setCell_other _ _ _ _ d01.symm]; exact World.cell?_setCell_same _ _ _ h.c0
  · rw [World.cell?_setCell_other _ _ _ _ d12.symm]; exact World.cell?_setCell_same _ _ _ (by rw [World.cell?_setCell_other _ _ _ _ d01]; exact h.c1)
  · exact World.cell?_setCell_same _ _ _ (by rw [World.cell?_setCell_other _ _ _ _ d12, World.cell?_setCell_other _ _ _ _ d02]; exact h.c2)
  · rw [frozen_setCell, frozen_setCell, frozen_setCell]; exact h.f0
  · rw [frozen_setCell, frozen_setCell, frozen_setCell]; exact h.f1
  · rw [frozen_setCell, frozen_setCell, frozen_setCell]; exact h.f2

theorem owns_not_new {w : World} {base n size : Nat} {e : TypeId} {v : Value} {xs : List Value} (h : w.ownsRow base e size v n xs) : v.ownBlock ≠ some w.heap.size := fun h' => absurd (h.lt _ h').2 (by omega)

end Go.Proofs.YtmibajofbagphaaDoor
