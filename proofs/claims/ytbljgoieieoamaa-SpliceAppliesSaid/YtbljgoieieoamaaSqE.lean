/-
  Layer 12: what stands apart while two rows grow; an append that tells where the new row lies.
-/
import Derived.Test.YtbljgoieieoamaaSqD
import Derived.Maps.AppendAt
import Derived.Laws.AppendOwnNone
namespace Go.Proofs.Ytbljgoieieoamaa
open Go.Shelf Go.RowKit Go.Lib Go.Sort
set_option linter.unusedVariables false

/-- An append of a row that may be nil: the new row lies where the old one did, or in a new block. -/
theorem wpList_append_sep {P : Program} {w : World} {ops : Array Oper} {rest : List Oper} {o : Oper} {a : Act} {Q : Exit → Act → World → Prop} (hgd : o.guard = none) (s x : Operand) (t : TypeId)
    (ho : o.op = .call { callee := .builtin .append, args := #[s, x], argTypes := #[t, t] })
    (base : Nat) (e : TypeId) (i : TypeInfo) (z : Value) (size bytes : Nat) (ht : P.underlying t = some (.slice e)) (hi : P.info? e = some i) (hz : i.zero = some z)
    (hsize : i.size = size) (hby : i.bytes = bytes) (hzs : z.cells.size = size) (hsz : 0 < size)
    (v : Value) (n : Nat) (xs : List Value) (hs : a.eval s = v) (hown : w.ownsRow base e size v n xs)
    (ad : Option Addr) (m c : Nat) (news : List Value) (hx : a.eval x = .slice ad m c) (hnil : ad = none → m = 0 ∧ c = 0) (hl : news.length = m * size) (hat : AtCells w ad news) (h1 : ∀ u ∈ news, u.oneCell' = true)
    (h63 : n + m ≤ maxLen) (hbytes : (n + m) * bytes ≤ 140737488355328) (hbase : base ≤ w.heap.size) (H : Nat) (hH : w.heap.size = H)
    (h : ∀ v' w', w'.ownsRow base e size v' (n + m) (xs ++ news) → w.grownBy w' v.ownBlock → (v'.ownBlock = v.ownBlock ∨ v'.ownBlock = some H) → wpList P ops Q rest (a.put o.dst v') w') : wpList P ops Q (o :: rest) a w := by
  cases ad with
  | none =>
    obtain ⟨rfl, rfl⟩ := hnil rfl
    obtain rfl : news = [] := List.eq_nil_of_length_eq_zero (by rw [hl, Nat.zero_mul])
    exact wpList_append_own_none hgd s x t ho base e i size ht hi v n xs hs hown hx (h v w (by simpa using hown) ⟨rfl, rfl, rfl, Nat.le_refl _, fun _ _ _ => rfl⟩ (.inl rfl))
  | some ad =>
    have hnews : ∀ j u, news[j]? = some u → w.cell? (ad.add j) = some u := fun j u hj => by
      obtain ⟨b, off, ha, hc⟩ := hat j u hj
      cases ha
      rw [addr_add]
      exact hc
    obtain ⟨v', w', hr, h2, h3, _, h5⟩ := run_append_own_at (P := P) w base t o.type e i z size bytes ht hi hz hsize hby hzs hsz v n xs hown ad m c news hl hnews h1 h63 hbytes hbase
    refine wpList_plain hgd fun K hK => ?_
    unfold Oper.wp execOp
    simp only [ho, resolve, invoke, builtin, Sem.run_bind, Sem.run_pure, Result.andThen_ok, List.map_toArray, List.map_cons, List.map_nil, hs, hx, hr]
    exact hK _ _ (h v' w' h2 h3 (hH ▸ h5))

theorem own_types {w : World} {base base' n n' size size' : Nat} {e e' : TypeId} {v v' : Value} {xs xs' : List Value} (h : w.ownsRow base e size v n xs) (h' : w.ownsRow base' e' size' v' n' xs') (hne : e ≠ e') : v.ownBlock = none ∨ v.ownBlock ≠ v'.ownBlock := by
  obtain ⟨_, ⟨rfl, _⟩ | ⟨g, c, cur, rfl, _, hg, _⟩⟩ := h
  · exact .inl rfl
  · refine .inr fun he => ?_
    obtain ⟨_, ⟨rfl, _⟩ | ⟨g', c', cur', rfl, _, hg', _⟩⟩ := h'
    · simp [Value.ownBlock] at he
    · simp only [Value.ownBlock, Option.some.injEq] at he
      subst he
      rw [hg] at hg'
      simp at hg'
      exact hne hg'.2

/-- Bytes that lie in neither of two blocks. -/
structure BytesO (w : World) (r1 r2 : Option Nat) (x : Chg) : Prop where
  cells : ∀ j u, (x.2.2.2.2.map (Value.int .u8))[j]? = some u → ∃ b off, x.2.2.1 = some ⟨b, off, none⟩ ∧ some b ≠ r1 ∧ some b ≠ r2 ∧ w.cell? ⟨b, off + j, none⟩ = some u
  le : x.2.2.2.2.length ≤ x.2.2.2.1
  max : x.2.2.2.1 ≤ maxLen
  few : x.2.2.2.2.length ≤ 10000
  nil : x.2.2.1 = none → x.2.2.2.1 = 0
theorem BytesO.grown1 {w w' : World} {r1 r2 r1' : Option Nat} {x : Chg} (h : BytesO w r1 r2 x) (hg : w.grownBy w' r1) (hr : r1' = r1 ∨ r1' = some w.heap.size) : BytesO w' r1' r2 x :=
  ⟨fun j u hj => by
    obtain ⟨b, off, ha, h1, h2, hc⟩ := h.cells j u hj
    refine ⟨b, off, ha, ?_, h2, hg.cell (a := ⟨b, off + j, none⟩) hc h1⟩
    rcases hr with rfl | rfl
    · exact h1
    · have := cell_lt hc; simp; omega, h.le, h.max, h.few, h.nil⟩
theorem BytesO.grown2 {w w' : World} {r1 r2 r2' : Option Nat} {x : Chg} (h : BytesO w r1 r2 x) (hg : w.grownBy w' r2) (hr : r2' = r2 ∨ r2' = some w.heap.size) : BytesO w' r1 r2' x :=
  ⟨fun j u hj => by
    obtain ⟨b, off, ha, h1, h2, hc⟩ := h.cells j u hj
    refine ⟨b, off, ha, h1, ?_, hg.cell (a := ⟨b, off + j, none⟩) hc h2⟩
    rcases hr with rfl | rfl
    · exact h2
    · have := cell_lt hc; simp; omega, h.le, h.max, h.few, h.nil⟩
theorem BytesO.below {w w' : World} {r1 r2 : Option Nat} {x : Chg} (h : BytesO w r1 r2 x) (hb : Below w.heap.size w w') : BytesO w' r1 r2 x :=
  ⟨fun j u hj => by obtain ⟨b, off, ha, h1, h2, hc⟩ := h.cells j u hj; exact ⟨b, off, ha, h1, h2, by rw [hb.cell (p := ⟨b, off + j, none⟩) (cell_lt hc)]; exact hc⟩, h.le, h.max, h.few, h.nil⟩

/-- Bytes that were just put apart. -/
theorem BytesO.fresh {w : World} {r1 r2 : Option Nat} {x : Chg} {base : Nat} (own : w.ownsRow base 5 1 (.slice x.2.2.1 x.2.2.2.2.length x.2.2.2.1) x.2.2.2.2.length (x.2.2.2.2.map (.int .u8))) (h1 : ∀ k, r1 = some k → k < base) (h2 : ∀ k, r2 = some k → k < base) (hle : x.2.2.2.2.length ≤ x.2.2.2.1) (hfew : x.2.2.2.2.length ≤ 10000) : BytesO w r1 r2 x :=
  ⟨fun j u hj => by
    obtain ⟨b, off, ha, hc⟩ := AtCells.of_owns own j u hj
    have hb := (own.lt b (by rw [ha]; simp [Value.ownBlock])).1
    exact ⟨b, off, ha, fun h => by have := h1 b h.symm; omega, fun h => by have := h2 b h.symm; omega, hc⟩, hle, owns_cap own, hfew, fun h => owns_nil own h⟩

/-- Bytes and changes that grow, each in a block of its own. -/
structure AL (w wr : World) (v9 v10 : Value) (C : List Int) (K : List Chg) : Prop where
  o9 : wr.ownsRow w.heap.size 5 1 v9 C.length (C.map (Value.int .u8))
  o10 : wr.ownsRow w.heap.size 39 3 v10 K.length (cellsC K)
  held : ∀ x ∈ K, BytesO wr v9.ownBlock v10.ownBlock x
  below : Below w.heap.size w wr
theorem AL.next {w wr w' : World} {v9 v10 : Value} {C : List Int} {K : List Chg} (h : AL w wr v9 v10 C K) (hb : Below wr.heap.size wr w') : AL w w' v9 v10 C K :=
  ⟨owns_below h.o9 hb, owns_below h.o10 hb, fun x hx => (h.held x hx).below hb, Below.more h.below hb⟩
theorem grown_lift {w W w' : World} {row : Option Nat} (hb : Below w.heap.size w W) (hg : W.grownBy w' row) (k : Nat) (hk : k < w.heap.size) (hn : row ≠ some k) : w'.heap[k]? = w.heap[k]? := by
  rw [hg.block k (Nat.lt_of_lt_of_le hk hb.size) (Ne.symm hn)]
  exact hb.block k hk
theorem AL.app9 {w wr w' : World} {v9 v10 v9' : Value} {C D : List Int} {K : List Chg} (h : AL w wr v9 v10 C K) {m : Nat} (hm : m = D.length) (hown : w'.ownsRow w.heap.size 5 1 v9' (C.length + m) (C.map (Value.int .u8) ++ D.map (Value.int .u8))) (hg : wr.grownBy w' v9.ownBlock) (hs : v9'.ownBlock = v9.ownBlock ∨ v9'.ownBlock = some wr.heap.size) : AL w w' v9' v10 (C ++ D) K := by
  subst hm
  refine ⟨by rw [List.length_append, List.map_append]; exact hown, h.o10.kept hg (own_types h.o10 h.o9 (by decide)), fun x hx => (h.held x hx).grown1 hg hs, h.below.grown hg h.below.size (fun k hk => (h.o9.lt k hk).1)⟩
theorem AL.app10 {w wr w' : World} {v9 v10 v10' : Value} {C : List Int} {K : List Chg} {x : Chg} (h : AL w wr v9 v10 C K) (hown : w'.ownsRow w.heap.size 39 3 v10' (K.length + 1) (cellsC K ++ encC x)) (hg : wr.grownBy w' v10.ownBlock) (hs : v10'.ownBlock = v10.ownBlock ∨ v10'.ownBlock = some wr.heap.size) (hx : BytesO wr v9.ownBlock v10.ownBlock x) : AL w w' v9 v10' C (K ++ [x]) := by
  refine ⟨h.o9.kept hg (own_types h.o9 h.o10 (by decide)), by rw [List.length_append, cellsC_append]; simpa [cellsC] using hown, fun y hy => ?_, h.below.grown hg h.below.size (fun k hk => (h.o10.lt k hk).1)⟩
  rcases List.mem_append.1 hy with hy | hy
  · exact (h.held y hy).grown2 hg hs
  · simp at hy; subst hy; exact hx.grown2 hg hs

/-- Bytes with changes that stand one behind the other, from a place on, and what leads back; none: one is beyond the bytes. -/
def apP (B : List Int) : Nat → List Int → List PC → List PC → Option (List Int × List PC)
  | e, C, K, [] => some (C ++ B.drop e, K)
  | e, C, K, x :: r => if (B.length : Int) < x.2.1 then none else
      apP B x.2.1.toNat (C ++ (B.take x.1.toNat).drop e ++ x.2.2) (K ++ [((((C ++ (B.take x.1.toNat).drop e).length : Nat) : Int), (((C ++ (B.take x.1.toNat).drop e).length + x.2.2.length : Nat) : Int), (B.take x.2.1.toNat).drop x.1.toNat)]) r
/-- One behind the other, from a place on. -/
def chOk : Int → List Chg → Prop
  | _, [] => True
  | e, x :: r => e ≤ x.1 ∧ x.1 ≤ x.2.1 ∧ chOk x.2.1 r

end Go.Proofs.Ytbljgoieieoamaa
