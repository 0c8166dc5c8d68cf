/-
  What later layers use: parts as rows of three numbers; rows below a block; what is kept but for one block.
-/
import Derived.Test.YtbljgoieieoamaaLexS
namespace Go.Proofs.Ytbljgoieieoamaa
open Go.RowKit
set_option linter.unusedVariables false

/-- A part: kind, from, to. -/
abbrev PartA := Nat × Nat × Nat

/-- A part's three cells; all parts' cells. -/
def parCells (x : PartA) : List Value := [.int .i64 (x.1 : Nat), .int .i64 (x.2.1 : Nat), .int .i64 (x.2.2 : Nat)]

def parsCells (l : List PartA) : List Value := l.flatMap parCells

theorem parsCells_snoc (l : List PartA) (x : PartA) : parsCells (l ++ [x]) = parsCells l ++ parCells x := by simp [parsCells]

theorem parCells_one (x : PartA) : ∀ u ∈ parCells x, u.oneCell' = true := by
  intro u hu
  simp only [parCells, List.mem_cons, List.not_mem_nil, or_false] at hu
  rcases hu with rfl | rfl | rfl <;> rfl

theorem par_cells {w : World} {a : Option Addr} {l : List PartA} (hat : AtCells w a (parsCells l)) {k : Nat} {x : PartA} (h : l[k]? = some x) :
    ∃ b off, a = some ⟨b, off, none⟩ ∧ w.cell? ⟨b, off + k * 3, none⟩ = some (.int .i64 (x.1 : Nat)) ∧ w.cell? ⟨b, off + k * 3 + 1, none⟩ = some (.int .i64 (x.2.1 : Nat)) ∧ w.cell? ⟨b, off + k * 3 + 2, none⟩ = some (.int .i64 (x.2.2 : Nat)) := by
  have hx : ∀ (l : List PartA) (k : Nat), l[k]? = some x → (parsCells l)[k * 3]? = some (.int .i64 (x.1 : Nat)) ∧ (parsCells l)[k * 3 + 1]? = some (.int .i64 (x.2.1 : Nat)) ∧ (parsCells l)[k * 3 + 2]? = some (.int .i64 (x.2.2 : Nat)) := by
    intro l
    induction l with
    | nil => intro k h; simp at h
    | cons y l ih =>
      intro k h
      have e : parsCells (y :: l) = .int .i64 (y.1 : Nat) :: .int .i64 (y.2.1 : Nat) :: .int .i64 (y.2.2 : Nat) :: parsCells l := rfl
      rw [e]
      cases k with
      | zero => simp at h; subst h; simp
      | succ k =>
        simp at h
        obtain ⟨a, b, c⟩ := ih k h
        have e1 : (k + 1) * 3 = k * 3 + 1 + 1 + 1 := by omega
        rw [e1]
        exact ⟨by simpa using a, by simpa using b, by simpa using c⟩
  obtain ⟨h0, h1, h2⟩ := hx l k h
  obtain ⟨b, off, rfl, c0⟩ := hat _ _ h0
  obtain ⟨b1, off1, e1, c1⟩ := hat _ _ h1
  obtain ⟨b2, off2, e2, c2⟩ := hat _ _ h2
  simp only [Option.some.injEq, Addr.mk.injEq] at e1 e2
  obtain ⟨rfl, rfl, _⟩ := e1
  obtain ⟨rfl, rfl, _⟩ := e2
  exact ⟨b, off, rfl, c0, by rw [Nat.add_assoc]; exact c1, by rw [Nat.add_assoc]; exact c2⟩

theorem kp_alloc {W : World} {a : Addr} {v : Value} (o : Obj) (h : W.cell? a = some v) : (W.alloc o).cell? a = some v := by
  obtain ⟨b, off, spot⟩ := a
  obtain rfl : spot = none := World.cell?_spot h
  rw [World.cell?_of_block (Below.heap_alloc _ o b (cell_lt h))]
  exact h

theorem kp_drew {W : World} {a : Addr} {v : Value} (h : W.cell? a = some v) : W.drew.cell? a = some v := h

theorem box3 (w : World) (a0 a1 a2 : Value) (e : TypeId) : (w.alloc (.cells #[a0, a1, a2] e)).cell? ⟨w.heap.size, 0, none⟩ = some a0 ∧ (w.alloc (.cells #[a0, a1, a2] e)).cell? ⟨w.heap.size, 1, none⟩ = some a1 ∧ (w.alloc (.cells #[a0, a1, a2] e)).cell? ⟨w.heap.size, 2, none⟩ = some a2 := by
  refine ⟨?_, ?_, ?_⟩ <;> simp

theorem one_par (a b c : Int) : ∀ u ∈ [Value.int .i64 a, .int .i64 b, .int .i64 c], u.oneCell' = true := by
  intro u hu
  simp only [List.mem_cons, List.not_mem_nil, or_false] at hu
  rcases hu with rfl | rfl | rfl <;> rfl

/-- Cells that lie below a block. -/
def AtB (w : World) (B : Nat) (a : Option Addr) (xs : List Value) : Prop :=
  ∀ j u, xs[j]? = some u → ∃ b off, a = some ⟨b, off, none⟩ ∧ b < B ∧ w.cell? ⟨b, off + j, none⟩ = some u

theorem AtB.below {w w' : World} {B : Nat} {a : Option Addr} {xs : List Value} (h : AtB w B a xs) (hb : Below B w w') : AtB w' B a xs := fun j u hj => by
  obtain ⟨b, off, ha, hl, hc⟩ := h j u hj
  exact ⟨b, off, ha, hl, by rw [hb.cell (p := ⟨b, off + j, none⟩) hl]; exact hc⟩

theorem AtB.nil (w : World) (B : Nat) (a : Option Addr) : AtB w B a [] := fun j u h => by simp at h

theorem AtB.at_ {w : World} {B : Nat} {a : Option Addr} {xs : List Value} (h : AtB w B a xs) : AtCells w a xs := fun j u hj => by
  obtain ⟨b, off, ha, _, hc⟩ := h j u hj
  exact ⟨b, off, ha, hc⟩

/-- All blocks of a world but one are as they were. -/
structure Kept (p : Nat) (w w' : World) : Prop where
  os : w'.os = w.os
  tape : w'.tape = w.tape
  output : w'.output = w.output
  size : w.heap.size ≤ w'.heap.size
  block : ∀ k, k < w.heap.size → k ≠ p → w'.heap[k]? = w.heap[k]?

theorem Kept.refl (p : Nat) (w : World) : Kept p w w := ⟨rfl, rfl, rfl, Nat.le_refl _, fun _ _ _ => rfl⟩

theorem Kept.next {p : Nat} {w w' w'' : World} (h : Kept p w w') (hb : Below w'.heap.size w' w'') : Kept p w w'' :=
  ⟨hb.os.trans h.os, hb.tape.trans h.tape, hb.output.trans h.output, Nat.le_trans h.size hb.size, fun k hk hp => (hb.block k (Nat.lt_of_lt_of_le hk h.size)).trans (h.block k hk hp)⟩

theorem Kept.trans {p : Nat} {w w' w'' : World} (h : Kept p w w') (h' : Kept p w' w'') : Kept p w w'' :=
  ⟨h'.os.trans h.os, h'.tape.trans h.tape, h'.output.trans h.output, Nat.le_trans h.size h'.size, fun k hk hp => (h'.block k (Nat.lt_of_lt_of_le hk h.size) hp).trans (h.block k hk hp)⟩

theorem Kept.put {p : Nat} {w w' : World} (h : Kept p w w') (j : Nat) (u : Value) : Kept p w (w'.setCell ⟨p, j, none⟩ u) :=
  ⟨h.os, h.tape, h.output, by have := h.size; simpa [World.setCell] using this, fun k hk hp => by
    have : (w'.setCell ⟨p, j, none⟩ u).heap[k]? = w'.heap[k]? := by simp [World.setCell, Array.getElem?_modify, Ne.symm hp]
    rw [this]; exact h.block k hk hp⟩

theorem Kept.of_below {p : Nat} {w w' : World} (hb : Below w.heap.size w w') : Kept p w w' := (Kept.refl p w).next hb

theorem Kept.below {p B : Nat} {w0 w w' : World} (h : Kept p w w') (hb : Below B w0 w) (hB : B ≤ p) (hB' : B ≤ w.heap.size) : Below B w0 w' :=
  ⟨h.os.trans hb.os, h.tape.trans hb.tape, h.output.trans hb.output, Nat.le_trans hb.size h.size, fun k hk => (h.block k (by omega) (by omega)).trans (hb.block k hk)⟩

theorem kcell {p : Nat} {W w1 : World} (hk : Kept p W w1) : (∀ b o, b < W.heap.size → b ≠ p → w1.cell? ⟨b, o, none⟩ = W.cell? ⟨b, o, none⟩) ∧ (∀ b o, b < W.heap.size → b ≠ p → w1.frozen? ⟨b, o, none⟩ = W.frozen? ⟨b, o, none⟩) :=
  ⟨fun b o h hn => World.cell?_of_block (hk.block b h hn), fun b o h hn => World.frozen?_of_block (hk.block b h hn)⟩

theorem AtB.kept {p : Nat} {w w' : World} {a : Option Addr} {xs : List Value} (h : AtB w p a xs) (hk : Kept p w w') : AtB w' p a xs := fun j u hj => by
  obtain ⟨b, off, ha, hl, hc⟩ := h j u hj
  exact ⟨b, off, ha, hl, by rw [World.cell?_of_block (hk.block b (cell_lt hc) (by omega))]; exact hc⟩

theorem parsCells_append (a b : List PartA) : parsCells (a ++ b) = parsCells a ++ parsCells b := by simp [parsCells]

theorem parsCells_length (l : List PartA) : (parsCells l).length = l.length * 3 := by
  induction l with
  | nil => rfl
  | cons x l ih => simp only [parsCells, List.flatMap_cons, List.length_append, List.length_cons] at *; rw [ih]; simp [parCells]; omega

theorem ret_nn {a b : Value} {c d : Bool} (h : a = b) (h' : c = d) : Ending.returned (.tuple #[a, .bool c]) = .returned (.tuple #[b, .bool d]) := by rw [h, h']

theorem ne_blk {b b' i j : Nat} (h : b ≠ b') : (⟨b, i, none⟩ : Addr) ≠ ⟨b', j, none⟩ := fun e => h (by cases e; rfl)

theorem kp_set {W : World} {p a : Addr} {v : Value} (x : Value) (hne : p ≠ a) (h : W.cell? a = some v) : (W.setCell p x).cell? a = some v := by
  rw [World.cell?_setCell_other _ _ _ _ hne]; exact h

theorem owns_lower {w : World} {base base' n : Nat} {e : TypeId} {size : Nat} {v : Value} {xs : List Value} (h : w.ownsRow base e size v n xs) (hb : base' ≤ base) : w.ownsRow base' e size v n xs := by
  obtain ⟨hl, h1 | ⟨g, c, cur, hv, hg, hr⟩⟩ := h
  · exact ⟨hl, .inl h1⟩
  · exact ⟨hl, .inr ⟨g, c, cur, hv, Nat.le_trans hb hg, hr⟩⟩

theorem owns_cap {w : World} {base n cap : Nat} {e : TypeId} {size : Nat} {a : Option Addr} {xs : List Value} (h : w.ownsRow base e size (.slice a n cap) n xs) : cap ≤ maxLen := by
  obtain ⟨_, ⟨h1, _⟩ | ⟨g, c, cur, hv, _, _, _, hc, _⟩⟩ := h
  · simp at h1; unfold maxLen; omega
  · simp only [Value.slice.injEq] at hv
    obtain ⟨_, _, rfl⟩ := hv
    exact hc

theorem kp_bel {W W' : World} {a : Addr} {v : Value} (hb : Below W.heap.size W W') (h : W.cell? a = some v) : W'.cell? a = some v := by
  obtain ⟨b, off, spot⟩ := a
  obtain rfl : spot = none := World.cell?_spot h
  rw [hb.cell (p := ⟨b, off, none⟩) (cell_lt h)]
  exact h

theorem sDqS : Sign ⟨#[34]⟩ := Sign.of (by decide)

theorem sSqS : Sign ⟨#[39]⟩ := Sign.of (by decide)

/-- A part's value, by integers; the block of a result that is a part. -/
abbrev parI (a b c : Int) : Value := .agg #[.int .i64 a, .int .i64 b, .int .i64 c]

theorem ret_par {a b c a' b' c' : Int} (h : a = a') (h' : b = b') (h2 : c = c') : Ending.returned (parI a b c) = .returned (parI a' b' c') := by rw [h, h', h2]

section
variable {b off n cap : Nat} {l : List Int} {W : World}

theorem findB (R : RRow W b off n cap l) {s : ByteArray} (S : Sign s) (k : Nat) (hk : k ≤ n) {p : Int × Bool} (hp : fndI k (fnd (sg s) (l.drop k)) = p) (w : World) (hb : Below W.heap.size W w) :
    Says 104 #[.slice (some ⟨b, off, none⟩) n cap, .int .i64 k, .int .i64 n, .string s] (.tuple #[.int .i64 p.1, .bool p.2]) W w :=
  (find_any (R.below hb) S k hk).mono fun e w' ⟨he, m, hw⟩ => ⟨hp ▸ he, hw ▸ below_drewN hb m⟩


end

end Go.Proofs.Ytbljgoieieoamaa
