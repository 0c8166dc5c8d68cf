/-
  What a text is; the box in which it is made.
-/
import Derived.Test.YtmibajofbagphaaDoorSnB
import Derived.OneCell
import Derived.Deep.RegionHeld
namespace Go.Proofs.YtmibajofbagphaaDoor
open Go.RowKit

/-- What a text is: of which kind, how many bytes say so, its runes, and where each begins. -/
def runesOf (zs : List Int) : List Int := (piecesOf (kindOf zs).1 (zs.drop (kindOf zs).2.toNat)).map (·.1)
def offsOf (zs : List Int) : List Int := (piecesOf (kindOf zs).1 (zs.drop (kindOf zs).2.toNat)).map (fun x => (kindOf zs).2 + x.2.1) ++ [(zs.length : Int)]

theorem kindOf_cases (zs : List Int) : ((kindOf zs).1 = 0 ∨ (kindOf zs).1 = 1 ∨ (kindOf zs).1 = 2) ∧ 0 ≤ (kindOf zs).2 ∧ (kindOf zs).2 ≤ 3 ∧ (kindOf zs).2 ≤ zs.length := by
  have hz : (Lib.bytesOf zs).length = zs.length := by simp [Lib.bytesOf]
  have key : ∀ l : List (ByteArray × Int × Int), (∀ x ∈ l, (x.2.1 = 0 ∨ x.2.1 = 1 ∨ x.2.1 = 2) ∧ 0 ≤ x.2.2 ∧ x.2.2 ≤ 3 ∧ x.2.2 ≤ (x.1.data.toList.length : Int)) →
      ((kindFrom zs l).1 = 0 ∨ (kindFrom zs l).1 = 1 ∨ (kindFrom zs l).1 = 2) ∧ 0 ≤ (kindFrom zs l).2 ∧ (kindFrom zs l).2 ≤ 3 ∧ (kindFrom zs l).2 ≤ zs.length := by
    intro l
    induction l with
    | nil => intro _; simp [kindFrom]
    | cons x l ih =>
      intro h
      unfold kindFrom
      split
      · rename_i hp
        have hx := h x (by simp)
        have hl := Lib.hasPrefix_le hp
        exact ⟨hx.1, hx.2.1, hx.2.2.1, by omega⟩
      · exact ih fun y hy => h y (by simp [hy])
  refine key signL ?_
  intro x hx
  simp only [signL, List.mem_cons, List.not_mem_nil, or_false] at hx
  rcases hx with rfl | rfl | rfl | rfl | rfl <;> simp

/-- What a call that answers a text answers. -/
def OwnText (w : World) (kd bom : Int) (rs os : List Int) (e : Ending) (w' : World) : Prop :=
  ∃ r o, e = .returned (.agg #[.int .i64 kd, .int .i64 bom, r, o]) ∧ w'.ownsRow w.heap.size 21 1 r rs.length (rs.map (Value.int .i32)) ∧ w'.ownsRow w.heap.size 3 1 o os.length (os.map (Value.int .i64)) ∧ Below w.heap.size w w'

theorem Tryd.infoI32 : (Tryd.prog.info? 21).map (fun i => (i.zero, i.size, i.bytes)) = some (some (.int .i32 0), 1, 4) := by kernel_rfl
theorem Tryd.infoInt : (Tryd.prog.info? 3).map (fun i => (i.zero, i.size, i.bytes)) = some (some (.int .i64 0), 1, 8) := by kernel_rfl

theorem at_sliced {w : World} {a : Option Addr} {zs : List Int} {kd : IntKind} (hat : AtCells w a (zs.map (Value.int kd))) (m cap : Nat) (h : zs.length ≤ cap) :
    AtCells w (if cap = m then a else Option.map (fun x => x.add m) a) ((zs.drop m).map (Value.int kd)) := by
  by_cases hm : m < zs.length
  · rw [if_neg (by omega)]
    obtain ⟨b, off, rfl, _⟩ := hat.int (k := 0) (by omega)
    rw [List.map_drop]
    have := hat.drop m
    by_cases h0 : m = 0
    · subst h0; simpa [Addr.add] using this
    · simpa [Addr.add, h0] using this
  · rw [List.drop_eq_nil_of_le (by omega)]
    exact AtCells.nil _ _

/-! What the pieces of bytes are like. -/
theorem pieces_spec {kd : Int} (hk : kd = 0 ∨ kd = 1 ∨ kd = 2) (zs : List Int) : (piecesOf kd zs).length ≤ zs.length ∧ atOff (piecesOf kd zs) zs.length 0 = 0 ∧ ∀ k x, (piecesOf kd zs)[k]? = some x →
    (1 ≤ x.2.2 ∧ 0 ≤ x.2.1 ∧ x.2.1 + x.2.2 ≤ (zs.length : Int)) ∧ atOff (piecesOf kd zs) zs.length k = x.2.1 ∧ atOff (piecesOf kd zs) zs.length (k + 1) = x.2.1 + x.2.2 := by
  rcases hk with rfl | rfl | rfl
  · have h1 := itemsOf_length (strOfNums zs)
    have h2 := itemsOf_spec (strOfNums zs)
    rw [strOfNums_size] at h1 h2
    exact ⟨h1, h2.1, fun k x h => ⟨⟨(h2.2 k x h).1.one, (h2.2 k x h).1.off, (h2.2 k x h).1.fits⟩, (h2.2 k x h).2⟩⟩
  · exact ⟨U16.items_length _ _ _, (witems_spec zs true zs.length).1, (witems_spec zs true zs.length).2⟩
  · exact ⟨U16.items_length _ _ _, (witems_spec zs false zs.length).1, (witems_spec zs false zs.length).2⟩

/-- A text while it is made: its box, and its two rows, each of its own. -/
structure TB (w0 w : World) (p g1 g2 q : Nat) (kd m : Int) (rs os : List Int) : Prop where
  c0 : w.cell? ⟨p, 0, none⟩ = some (.int .i64 kd)
  c1 : w.cell? ⟨p, 1, none⟩ = some (.int .i64 m)
  c2 : w.cell? ⟨p, 2, none⟩ = some (.slice (some ⟨g1, 0, none⟩) q q)
  c3 : w.cell? ⟨p, 3, none⟩ = some (.slice (some ⟨g2, 0, none⟩) (q + 1) (q + 1))
  r : w.ownsRow w0.heap.size 21 1 (.slice (some ⟨g1, 0, none⟩) q q) q (rs.map (Value.int .i32))
  o : w.ownsRow w0.heap.size 3 1 (.slice (some ⟨g2, 0, none⟩) (q + 1) (q + 1)) (q + 1) (os.map (Value.int .i64))
  n12 : g1 ≠ g2
  n1 : p ≠ g1
  n2 : p ≠ g2
  lo : w0.heap.size ≤ p
  below : Below w0.heap.size w0 w

theorem owns_of_heap {w : World} {base g n : Nat} {e : TypeId} {cs : Array Value} (h : w.heap[g]? = some (.cells cs e (0, 0))) (hb : base ≤ g) (hm : n ≤ maxLen) (hs : cs.size = n) : w.ownsRow base e 1 (.slice (some ⟨g, 0, none⟩) n n) n cs.toList :=
  ⟨by simpa using hs, .inr ⟨g, n, cs, rfl, hb, h, Nat.le_refl _, hm, by omega, List.take_of_length_le (by rw [Array.length_toList]; omega)⟩⟩

theorem tb_mk {w0 w : World} {p g1 g2 q : Nat} {kd m : Int}
    (hp : w.heap[p]? = some (.cells #[.int .i64 kd, .int .i64 m, .slice (some ⟨g1, 0, none⟩) q q, .slice (some ⟨g2, 0, none⟩) (q + 1) (q + 1)] 27 (0, 0)))
    (h1 : w.heap[g1]? = some (.cells (madeCells #[.int .i32 0] q) 21 (0, 0))) (h2 : w.heap[g2]? = some (.cells (madeCells #[.int .i64 0] (q + 1)) 3 (0, 0)))
    (hq : q + 1 ≤ maxLen) (l0 : w0.heap.size ≤ p) (l1 : w0.heap.size ≤ g1) (l2 : w0.heap.size ≤ g2) (n12 : g1 ≠ g2) (n1 : p ≠ g1) (n2 : p ≠ g2) (hb : Below w0.heap.size w0 w) :
    TB w0 w p g1 g2 q kd m (List.replicate q 0) (List.replicate (q + 1) 0) := by
  have e1 := owns_of_heap (n := q) h1 l1 (by omega) (size_madeCells _ _)
  have e2 := owns_of_heap (n := q + 1) h2 l2 hq (size_madeCells _ _)
  rw [toList_madeCells_one] at e1 e2
  refine ⟨?_, ?_, ?_, ?_, by simpa using e1, by simpa using e2, n12, n1, n2, l0, hb⟩
  all_goals (unfold World.cell?; simp [hp])

/-! The box and the two rows made, in whichever order. -/
theorem three0 (w : World) (A B C : Obj) : (((w.alloc A).alloc B).alloc C).drew.heap[w.heap.size]? = some A := by
  show (((w.heap.push A).push B).push C)[w.heap.size]? = some A
  rw [Array.getElem?_push, if_neg (by simp; omega), Array.getElem?_push, if_neg (by simp), Array.getElem?_push, if_pos rfl]
theorem three1 (w : World) (A B C : Obj) : (((w.alloc A).alloc B).alloc C).drew.heap[w.heap.size + 1]? = some B := by
  show (((w.heap.push A).push B).push C)[w.heap.size + 1]? = some B
  rw [Array.getElem?_push, if_neg (by simp), Array.getElem?_push, if_pos (by simp)]
theorem three2 (w : World) (A B C : Obj) : (((w.alloc A).alloc B).alloc C).drew.heap[w.heap.size + 1 + 1]? = some C := by
  show (((w.heap.push A).push B).push C)[w.heap.size + 1 + 1]? = some C
  rw [Array.getElem?_push, if_pos (by simp)]
theorem tb_rob (w : World) (q : Nat) (kd m : Int) (hq : q + 1 ≤ maxLen) : TB w (((w.alloc (Obj.cells (madeCells #[.int .i32 0] q) 21)).alloc (Obj.cells (madeCells #[.int .i64 0] (q + 1)) 3)).alloc (Obj.cells #[.int .i64 kd, .int .i64 m, .slice (some ⟨w.heap.size, 0, none⟩) q q, .slice (some ⟨w.heap.size + 1, 0, none⟩) (q + 1) (q + 1)] 27)).drew (w.heap.size + 1 + 1) (w.heap.size) (w.heap.size + 1) q kd m (List.replicate q 0) (List.replicate (q + 1) 0) :=
  tb_mk (three2 _ _ _ _) (three0 _ _ _ _) (three1 _ _ _ _) hq (by omega) (by omega) (by omega) (by omega) (by omega) (by omega)
    (((((Below.refl _ _).alloc (Nat.le_refl _) _).alloc (by simp) _).alloc (by simp; omega) _).drew)
theorem tb_rbo (w : World) (q : Nat) (kd m : Int) (hq : q + 1 ≤ maxLen) : TB w (((w.alloc (Obj.cells (madeCells #[.int .i32 0] q) 21)).alloc (Obj.cells #[.int .i64 kd, .int .i64 m, .slice (some ⟨w.heap.size, 0, none⟩) q q, .slice (some ⟨w.heap.size + 1 + 1, 0, none⟩) (q + 1) (q + 1)] 27)).alloc (Obj.cells (madeCells #[.int .i64 0] (q + 1)) 3)).drew (w.heap.size + 1) (w.heap.size) (w.heap.size + 1 + 1) q kd m (List.replicate q 0) (List.replicate (q + 1) 0) :=
  tb_mk (three1 _ _ _ _) (three0 _ _ _ _) (three2 _ _ _ _) hq (by omega) (by omega) (by omega) (by omega) (by omega) (by omega)
    (((((Below.refl _ _).alloc (Nat.le_refl _) _).alloc (by simp) _).alloc (by simp; omega) _).drew)
theorem tb_orb (w : World) (q : Nat) (kd m : Int) (hq : q + 1 ≤ maxLen) : TB w (((w.alloc (Obj.cells (madeCells #[.int .i64 0] (q + 1)) 3)).alloc (Obj.cells (madeCells #[.int .i32 0] q) 21)).alloc (Obj.cells #[.int .i64 kd, .int .i64 m, .slice (some ⟨w.heap.size + 1, 0, none⟩) q q, .slice (some ⟨w.heap.size, 0, none⟩) (q + 1) (q + 1)] 27)).drew (w.heap.size + 1 + 1) (w.heap.size + 1) (w.heap.size) q kd m (List.replicate q 0) (List.replicate (q + 1) 0) :=
  tb_mk (three2 _ _ _ _) (three1 _ _ _ _) (three0 _ _ _ _) hq (by omega) (by omega) (by omega) (by omega) (by omega) (by omega)
    (((((Below.refl _ _).alloc (Nat.le_refl _) _).alloc (by simp) _).alloc (by simp; omega) _).drew)
theorem tb_obr (w : World) (q : Nat) (kd m : Int) (hq : q + 1 ≤ maxLen) : TB w (((w.alloc (Obj.cells (madeCells #[.int .i64 0] (q + 1)) 3)).alloc (Obj.cells #[.int .i64 kd, .int .i64 m, .slice (some ⟨w.heap.size + 1 + 1, 0, none⟩) q q, .slice (some ⟨w.heap.size, 0, none⟩) (q + 1) (q + 1)] 27)).alloc (Obj.cells (madeCells #[.int .i32 0] q) 21)).drew (w.heap.size + 1) (w.heap.size + 1 + 1) (w.heap.size) q kd m (List.replicate q 0) (List.replicate (q + 1) 0) :=
  tb_mk (three1 _ _ _ _) (three2 _ _ _ _) (three0 _ _ _ _) hq (by omega) (by omega) (by omega) (by omega) (by omega) (by omega)
    (((((Below.refl _ _).alloc (Nat.le_refl _) _).alloc (by simp) _).alloc (by simp; omega) _).drew)
theorem tb_bro (w : World) (q : Nat) (kd m : Int) (hq : q + 1 ≤ maxLen) : TB w (((w.alloc (Obj.cells #[.int .i64 kd, .int .i64 m, .slice (some ⟨w.heap.size + 1, 0, none⟩) q q, .slice (some ⟨w.heap.size + 1 + 1, 0, none⟩) (q + 1) (q + 1)] 27)).alloc (Obj.cells (madeCells #[.int .i32 0] q) 21)).alloc (Obj.cells (madeCells #[.int .i64 0] (q + 1)) 3)).drew (w.heap.size) (w.heap.size + 1) (w.heap.size + 1 + 1) q kd m (List.replicate q 0) (List.replicate (q + 1) 0) :=
  tb_mk (three0 _ _ _ _) (three1 _ _ _ _) (three2 _ _ _ _) hq (by omega) (by omega) (by omega) (by omega) (by omega) (by omega)
    (((((Below.refl _ _).alloc (Nat.le_refl _) _).alloc (by simp) _).alloc (by simp; omega) _).drew)
theorem tb_bor (w : World) (q : Nat) (kd m : Int) (hq : q + 1 ≤ maxLen) : TB w (((w.alloc (Obj.cells #[.int .i64 kd, .int .i64 m, .slice (some ⟨w.heap.size + 1 + 1, 0, none⟩) q q, .slice (some ⟨w.heap.size + 1, 0, none⟩) (q + 1) (q + 1)] 27)).alloc (Obj.cells (madeCells #[.int .i64 0] (q + 1)) 3)).alloc (Obj.cells (madeCells #[.int .i32 0] q) 21)).drew (w.heap.size) (w.heap.size + 1 + 1) (w.heap.size + 1) q kd m (List.replicate q 0) (List.replicate (q + 1) 0) :=
  tb_mk (three0 _ _ _ _) (three2 _ _ _ _) (three1 _ _ _ _) hq (by omega) (by omega) (by omega) (by omega) (by omega) (by omega)
    (((((Below.refl _ _).alloc (Nat.le_refl _) _).alloc (by simp) _).alloc (by simp; omega) _).drew)

theorem TB.lt {w0 w : World} {p g1 g2 q : Nat} {kd m : Int} {rs os : List Int} (h : TB w0 w p g1 g2 q kd m rs os) : p < w.heap.size ∧ (w0.heap.size ≤ g1 ∧ g1 < w.heap.size) ∧ w0.heap.size ≤ g2 ∧ g2 < w.heap.size :=
  ⟨cell_lt h.c0, h.r.lt g1 rfl, h.o.lt g2 rfl⟩

theorem TB.next {w0 w w' : World} {p g1 g2 q : Nat} {kd m : Int} {rs os : List Int} (h : TB w0 w p g1 g2 q kd m rs os) (hb : Below w.heap.size w w') : TB w0 w' p g1 g2 q kd m rs os := by
  have hp := h.lt.1
  exact ⟨by rw [hb.cell (p := ⟨p, 0, none⟩) hp]; exact h.c0, by rw [hb.cell (p := ⟨p, 1, none⟩) hp]; exact h.c1, by rw [hb.cell (p := ⟨p, 2, none⟩) hp]; exact h.c2, by rw [hb.cell (p := ⟨p, 3, none⟩) hp]; exact h.c3,
    owns_below h.r hb, owns_below h.o hb, h.n12, h.n1, h.n2, h.lo, h.below.trans (hb.mono h.below.size)⟩

theorem TB.setR {w0 w : World} {p g1 g2 q : Nat} {kd m : Int} {rs os : List Int} (h : TB w0 w p g1 g2 q kd m rs os) (k : Nat) (z : Int) : TB w0 (w.setCell ⟨g1, k, none⟩ (.int .i32 z)) p g1 g2 q kd m (rs.set k z) os := by
  have hne : ∀ j, (⟨p, j, none⟩ : Addr) ≠ ⟨g1, k, none⟩ := fun j hh => h.n1 (by simpa using congrArg Addr.block hh)
  refine ⟨?_, ?_, ?_, ?_, ?_, ?_, h.n12, h.n1, h.n2, h.lo, h.below.setCell (p := ⟨g1, k, none⟩) h.lt.2.1.1 _⟩
  · rw [World.cell?_setCell_other _ _ _ _ (hne 0).symm]; exact h.c0
  · rw [World.cell?_setCell_other _ _ _ _ (hne 1).symm]; exact h.c1
  · rw [World.cell?_setCell_other _ _ _ _ (hne 2).symm]; exact h.c2
  · rw [World.cell?_setCell_other _ _ _ _ (hne 3).symm]; exact h.c3
  · rw [List.map_set]; exact (h.r.stored k _).1
  · exact ownsRow_setCell_other h.o (by simpa [Value.ownBlock] using h.n12.symm) _

theorem TB.setO {w0 w : World} {p g1 g2 q : Nat} {kd m : Int} {rs os : List Int} (h : TB w0 w p g1 g2 q kd m rs os) (k : Nat) (z : Int) : TB w0 (w.setCell ⟨g2, k, none⟩ (.int .i64 z)) p g1 g2 q kd m rs (os.set k z) := by
  have hne : ∀ j, (⟨p, j, none⟩ : Addr) ≠ ⟨g2, k, none⟩ := fun j hh => h.n2 (by simpa using congrArg Addr.block hh)
  refine ⟨?_, ?_, ?_, ?_, ?_, ?_, h.n12, h.n1, h.n2, h.lo, h.below.setCell (p := ⟨g2, k, none⟩) h.lt.2.2.1 _⟩
  · rw [World.cell?_setCell_other _ _ _ _ (hne 0).symm]; exact h.c0
  · rw [World.cell?_setCell_other _ _ _ _ (hne 1).symm]; exact h.c1
  · rw [World.cell?_setCell_other _ _ _ _ (hne 2).symm]; exact h.c2
  · rw [World.cell?_setCell_other _ _ _ _ (hne 3).symm]; exact h.c3
  · exact ownsRow_setCell_other h.r (by simpa [Value.ownBlock] using h.n12) _
  · rw [List.map_set]; exact (h.o.stored k _).1

theorem TB.rcell {w0 w : World} {p g1 g2 q : Nat} {kd m : Int} {rs os : List Int} (h : TB w0 w p g1 g2 q kd m rs os) {k : Nat} (hk : k < q) : w.cell? ⟨g1, k, none⟩ = some (.int .i32 (rs.getD k 0)) ∧ w.frozen? ⟨g1, k, none⟩ = false := by
  refine ⟨?_, h.r.frozenAt k⟩
  rw [h.r.cellAt k (by omega)]
  have hl : rs.length = q := by have := h.r.1; simpa using this
  simp [hl, hk]
theorem TB.ocell {w0 w : World} {p g1 g2 q : Nat} {kd m : Int} {rs os : List Int} (h : TB w0 w p g1 g2 q kd m rs os) {k : Nat} (hk : k < q + 1) : w.cell? ⟨g2, k, none⟩ = some (.int .i64 (os.getD k 0)) ∧ w.frozen? ⟨g2, k, none⟩ = false := by
  refine ⟨?_, h.o.frozenAt k⟩
  rw [h.o.cellAt k (by omega)]
  have hl : os.length = q + 1 := by have := h.o.1; simpa using this
  simp [hl, hk]

/-- A row of which the first ones are written. -/
def upTo (l : List Int) (n k : Nat) : List Int := l.take k ++ List.replicate (n - k) 0
theorem upTo_zero (l : List Int) (n : Nat) : upTo l n 0 = List.replicate n 0 := by simp [upTo]
theorem upTo_set {l : List Int} {n k : Nat} (hk : k < l.length) (hn : l.length ≤ n) : (upTo l n k).set k (l.getD k 0) = upTo l n (k + 1) := by
  unfold upTo
  have hl : (l.take k).length = k := by simp; omega
  rw [List.set_append_right _ _ (by omega), hl, Nat.sub_self]
  obtain ⟨j, hj⟩ : ∃ j, n - k = j + 1 := ⟨n - k - 1, by omega⟩
  rw [hj, List.replicate_succ, List.set_cons_zero, show n - (k + 1) = j by omega, U8.take_succ l k hk, List.append_assoc]
  rfl
theorem upTo_full {l : List Int} {n : Nat} (h : l.length = n) : upTo l n n = l := by subst h; simp [upTo]
theorem upTo_last {l : List Int} {n : Nat} (h : l.length = n) (z : Int) : (upTo l (n + 1) n).set n z = l ++ [z] := by
  subst h
  unfold upTo
  rw [List.take_length, List.set_append_right _ _ (Nat.le_refl _), Nat.sub_self, show l.length + 1 - l.length = 1 by omega]
  rfl

end Go.Proofs.YtmibajofbagphaaDoor
