/-
  Rows of cells that are read: where a slice's elements lie, and that they stay there while the call only makes new memory.
-/
import Derived.WalkKit
import Derived.WalkSpells
import Derived.Lib.Hide
import Derived.Lib.OthersKept
import Derived.WalkSmall
import Derived.Deep.QuietTactic
namespace Go.Proofs.Ytbljgoieieoamaa
open Go.RowKit

/-- From address a on the cells xs lie, one behind the other. -/
def AtCells (w : World) (a : Option Addr) (xs : List Value) : Prop :=
  ∀ j u, xs[j]? = some u → ∃ b off, a = some ⟨b, off, none⟩ ∧ w.cell? ⟨b, off + j, none⟩ = some u

theorem cell_lt {w : World} {b off : Nat} {v : Value} (h : w.cell? ⟨b, off, none⟩ = some v) : b < w.heap.size := by
  by_cases hb : b < w.heap.size
  · exact hb
  · have : w.heap[b]? = none := by simp; omega
    simp [World.cell?, this] at h

theorem AtCells.below {w w' : World} {a : Option Addr} {xs : List Value} (h : AtCells w a xs) (hb : Below w.heap.size w w') : AtCells w' a xs := by
  intro j u hj
  obtain ⟨b, off, ha, hc⟩ := h j u hj
  exact ⟨b, off, ha, by rw [hb.cell (p := ⟨b, off + j, none⟩) (cell_lt hc)]; exact hc⟩

theorem AtCells.alloc {w : World} {a : Option Addr} {xs : List Value} (h : AtCells w a xs) (o : Obj) : AtCells (w.alloc o) a xs :=
  h.below ((Below.refl _ _).alloc (Nat.le_refl _) _)

theorem AtCells.nil (w : World) (a : Option Addr) : AtCells w a [] := fun j u h => by simp at h

theorem AtCells.take {w : World} {a : Option Addr} {xs : List Value} (h : AtCells w a xs) (n : Nat) : AtCells w a (xs.take n) := by
  intro j u hj
  refine h j u ?_
  rw [List.getElem?_take] at hj
  split at hj
  · exact hj
  · simp at hj

/-- A row of one-cell integers: element k. -/
theorem AtCells.int {w : World} {a : Option Addr} {kd : IntKind} {zs : List Int} (h : AtCells w a (zs.map (Value.int kd))) {k : Nat} (hk : k < zs.length) :
    ∃ b off, a = some ⟨b, off, none⟩ ∧ w.cell? ⟨b, off + k, none⟩ = some (.int kd (zs.getD k 0)) :=
  h k _ (by simp [hk])

theorem AtCells.of_owns {w : World} {base n cap : Nat} {e : TypeId} {size : Nat} {a : Option Addr} {xs : List Value} (h : w.ownsRow base e size (.slice a n cap) n xs) : AtCells w a xs := by
  intro j u hj
  rcases a with _ | a
  · obtain ⟨hl, h1 | ⟨g, c, cur, hv, _⟩⟩ := h
    · rw [h1.2] at hl; simp at hl; simp [hl] at hj
    · simp at hv
  · have h' := h
    obtain ⟨hl, h1 | ⟨g, c, cur, hv, _⟩⟩ := h'
    · simp at h1
    · simp only [Value.slice.injEq, Option.some.injEq] at hv
      obtain ⟨rfl, _, _⟩ := hv
      have := h.cells (g := g) rfl j u hj
      refine ⟨g, 0, rfl, ?_⟩
      by_cases h0 : j = 0
      · subst h0; simpa [Addr.add] using this
      · simpa [Addr.add, h0] using this

/-- What a value that owns its cells looks like. -/
theorem owns_slice {w : World} {base n : Nat} {e : TypeId} {size : Nat} {v : Value} {xs : List Value} (h : w.ownsRow base e size v n xs) : ∃ a cap, v = .slice a n cap ∧ n ≤ cap := by
  obtain ⟨_, ⟨rfl, rfl⟩ | ⟨g, c, cur, rfl, _, _, hc, _⟩⟩ := h
  · exact ⟨none, 0, rfl, Nat.le_refl _⟩
  · exact ⟨_, c, rfl, hc⟩

/-- What is owned stays where it is while only new memory is made behind it. -/
theorem owns_below {w w' : World} {base n : Nat} {e : TypeId} {size : Nat} {v : Value} {xs : List Value} (h : w.ownsRow base e size v n xs) (hb : Below w.heap.size w w') : w'.ownsRow base e size v n xs :=
  h.kept (row := none) ⟨hb.os, hb.tape, hb.output, hb.size, fun k hk _ => hb.block k hk⟩ (by cases hv : v.ownBlock with | none => exact .inl rfl | some g => exact .inr (by simp))

/-- A contract's answer, where it makes memory. -/
theorem below_grown_alloc {B : Nat} {w0 w w' : World} {o : Obj} {row : Option Nat} (h : Below B w0 w) (hB : B ≤ w.heap.size) (hg : (w.alloc o).grownBy w' row) (hr : ∀ k, row = some k → B ≤ k) : Below B w0 w' :=
  (h.alloc hB o).grown hg (by simp; omega) hr

/-- The cells of a block that was just made. -/
theorem new_cells (w : World) (cs : List Value) (e : TypeId) : ∀ j u, cs[j]? = some u → (w.alloc (.cells cs.toArray e)).cell? ((⟨w.heap.size, 0, none⟩ : Addr).add j) = some u := by
  intro j u hj
  have h : (w.alloc (.cells cs.toArray e)).heap[w.heap.size]? = some (.cells cs.toArray e) := by
    show (w.heap.push (.cells cs.toArray e))[w.heap.size]? = _
    simp
  have h2 : (w.alloc (.cells cs.toArray e)).cell? ⟨w.heap.size, j, none⟩ = some u := by
    unfold World.cell?
    simp only [h]
    simpa using hj
  by_cases h0 : j = 0
  · subst h0; simpa [Addr.add] using h2
  · simpa [Addr.add, h0] using h2

theorem new_cells_at (w : World) (cs : List Value) (e : TypeId) (k : Nat) (hk : k = w.heap.size) : ∀ j u, cs[j]? = some u → (w.alloc (.cells cs.toArray e)).cell? ((⟨k, 0, none⟩ : Addr).add j) = some u := by
  subst hk; exact new_cells w cs e

/-- A box of three cells, made ahead of an append, is there behind it. -/
theorem box_three {W w2 : World} {a0 a1 a2 : Value} {e e' : TypeId} {o : Obj} {base n size : Nat} {v : Value} {xs : List Value}
    (hg : ((W.alloc (.cells #[a0, a1, a2] e)).alloc o).grownBy w2 v.ownBlock) (ho : W.ownsRow base e' size v n xs) :
    w2.cell? ⟨W.heap.size, 0, none⟩ = some a0 ∧ w2.cell? ⟨W.heap.size, 1, none⟩ = some a1 ∧ w2.cell? ⟨W.heap.size, 2, none⟩ = some a2 := by
  have hne : some W.heap.size ≠ v.ownBlock := fun h => absurd (ho.lt _ h.symm).2 (by omega)
  have hc := new_cells W [a0, a1, a2] e
  have hlt : W.heap.size < (W.alloc (.cells #[a0, a1, a2] e)).heap.size := by simp
  have h : ∀ j u, [a0, a1, a2][j]? = some u → w2.cell? ⟨W.heap.size, j, none⟩ = some u := by
    intro j u hj
    have h1 := hc j u hj
    have h2 : (W.alloc (.cells #[a0, a1, a2] e)).cell? ⟨W.heap.size, j, none⟩ = some u := by
      by_cases h0 : j = 0
      · subst h0; simpa [Addr.add] using h1
      · simpa [Addr.add, h0] using h1
    refine hg.cell (a := ⟨W.heap.size, j, none⟩) ?_ hne
    rw [World.cell?_of_block (Below.heap_alloc _ o W.heap.size hlt)]
    exact h2
  exact ⟨h 0 a0 rfl, h 1 a1 rfl, h 2 a2 rfl⟩

/-- What lies below stays, behind a box and an append. -/
theorem below_box {B : Nat} {w W w2 : World} {o o' : Obj} {base n size : Nat} {e : TypeId} {v : Value} {xs : List Value} (hb : Below B w W) (hB : B ≤ W.heap.size)
    (hg : ((W.alloc o).alloc o').grownBy w2 v.ownBlock) (ho : W.ownsRow base e size v n xs) (hbase : B ≤ base) : Below B w w2 :=
  ((hb.alloc hB o).alloc (by simp; omega) o').grown hg (by simp; omega) (fun k hk => Nat.le_trans hbase (ho.lt k hk).1)

/-- An owned value's block is no iterator. -/
theorem owns_not_iter {w : World} {base n : Nat} {e : TypeId} {size : Nat} {v : Value} {xs : List Value} {k p : Nat} {s : ByteArray} (h : w.ownsRow base e size v n xs) (hk : w.heap[k]? = some (.stringIter s p)) : v.ownBlock ≠ some k := by
  obtain ⟨_, ⟨rfl, _⟩ | ⟨g, c, cur, rfl, _, hg, _⟩⟩ := h
  · simp [Value.ownBlock]
  · simp only [Value.ownBlock, ne_eq, Option.some.injEq]
    rintro rfl
    rw [hk] at hg; simp at hg

theorem owns_iterAt {w : World} {base n : Nat} {e : TypeId} {size : Nat} {v : Value} {xs : List Value} {k p : Nat} {s : ByteArray} (h : w.ownsRow base e size v n xs) (hk : w.heap[k]? = some (.stringIter s p)) (p' : Nat) : (w.iterAt k s p').ownsRow base e size v n xs := by
  have hne := owns_not_iter h hk
  obtain ⟨hl, ⟨rfl, h0⟩ | ⟨g, c, cur, rfl, a1, a2, a3, a4, a5, a6⟩⟩ := h
  · exact ⟨hl, .inl ⟨rfl, h0⟩⟩
  · refine ⟨hl, .inr ⟨g, c, cur, rfl, a1, ?_, a3, a4, a5, a6⟩⟩
    rw [Lib.iterAt_other _ _ _ _ _ (by simpa [Value.ownBlock] using hne)]
    exact a2

/-- An iterator stays where it stood while a value that is owned grows. -/
theorem iter_grown {w w' : World} {base n : Nat} {e : TypeId} {size : Nat} {v : Value} {xs : List Value} {k p : Nat} {s : ByteArray} {o : Obj} (h : w.ownsRow base e size v n xs) (hk : w.heap[k]? = some (.stringIter s p)) (hg : (w.alloc o).grownBy w' v.ownBlock) : w'.heap[k]? = some (.stringIter s p) := by
  have hlt : k < w.heap.size := (Array.getElem?_eq_some_iff.1 hk).1
  rw [hg.block k (by simp; omega) (fun h' => owns_not_iter h hk h'.symm), Below.heap_alloc w o k hlt]
  exact hk

theorem AtCells.drop {w : World} {b off : Nat} {xs : List Value} (h : AtCells w (some ⟨b, off, none⟩) xs) (k : Nat) : AtCells w (some ⟨b, off + k, none⟩) (xs.drop k) := by
  intro j u hj
  rw [List.getElem?_drop] at hj
  obtain ⟨b', off', he, hc⟩ := h (k + j) u hj
  simp only [Option.some.injEq, Addr.mk.injEq] at he
  obtain ⟨rfl, rfl, _⟩ := he
  exact ⟨b, off + k, rfl, by rw [Nat.add_assoc]; exact hc⟩

/-- A quiet call behind a quiet region. -/
theorem quiet_add_same {P : Program} {f : FuncId} {args : Array Value} {w : World} {a n : Nat} {v : Value}
    (h : Calls P f args (w.drewN (a + n)) fun e w' => e = .returned v ∧ w' = w.drewN (a + n)) :
    Calls P f args (w.drewN (a + n)) fun e w'' => e = .returned v ∧ ∃ m, w'' = w.drewN (a + m) :=
  h.mono fun _ _ ⟨he, hm⟩ => ⟨he, n, hm⟩

theorem bel_drewN {B : Nat} {a w : World} (h : Below B a w) (n : Nat) : Below B a (w.drewN n) := below_drewN h n

theorem AtCells.drewN {w : World} {a : Option Addr} {xs : List Value} (h : AtCells w a xs) (n : Nat) : AtCells (w.drewN n) a xs := h.below (below_drewN (Below.refl _ _) n)
theorem owns_drewN {w : World} {base n : Nat} {e : TypeId} {size : Nat} {v : Value} {xs : List Value} (h : w.ownsRow base e size v n xs) (k : Nat) : (w.drewN k).ownsRow base e size v n xs := owns_below h (below_drewN (Below.refl _ _) k)

end Go.Proofs.Ytbljgoieieoamaa
