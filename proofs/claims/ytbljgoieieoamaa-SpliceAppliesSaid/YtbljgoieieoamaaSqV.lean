/-
  The reference of layer 12: Apply, where nothing is refused: what it needs.
-/
import Derived.Test.YtbljgoieieoamaaSqN
import Derived.Test.YtbljgoieieoamaaSqL
namespace Go.Proofs.Ytbljgoieieoamaa
open Go.Shelf Go.RowKit Go.Lib Go.Sort
set_option linter.unusedVariables false

/-- An append of a row that may be nil, at a step of a region that draws its order. -/
theorem step_append_sep {P : Program} {w : World} {ops : Array Oper} {o : Oper} {a : Act} {K : Act → World → Prop} {Q : Exit → Act → World → Prop} {E : Prop} (hgd : o.guard = none) (s x : Operand) (t : TypeId)
    (ho : o.op = .call { callee := .builtin .append, args := #[s, x], argTypes := #[t, t] })
    (base : Nat) (e : TypeId) (i : TypeInfo) (z : Value) (size bytes : Nat) (ht : P.underlying t = some (.slice e)) (hi : P.info? e = some i) (hz : i.zero = some z)
    (hsize : i.size = size) (hby : i.bytes = bytes) (hzs : z.cells.size = size) (hsz : 0 < size)
    (v : Value) (n : Nat) (xs : List Value) (hs : a.eval s = v) (hown : w.ownsRow base e size v n xs)
    (ad : Option Addr) (m c : Nat) (news : List Value) (hx : a.eval x = .slice ad m c) (hnil : ad = none → m = 0 ∧ c = 0) (hl : news.length = m * size) (hat : AtCells w ad news) (h1 : ∀ u ∈ news, u.oneCell' = true)
    (h63 : n + m ≤ maxLen) (hbytes : (n + m) * bytes ≤ 140737488355328) (hbase : base ≤ w.heap.size) (H : Nat) (hH : w.heap.size = H)
    (h : ∀ v' w', w'.ownsRow base e size v' (n + m) (xs ++ news) → w.grownBy w' v.ownBlock → (v'.ownBlock = v.ownBlock ∨ v'.ownBlock = some H) → K (a.put o.dst v') w') :
    if Region.wanted o (yielded ops a.tmps) = true then Oper.wp P o a w K Q else E := by
  have hw : Region.wanted o (yielded ops a.tmps) = true := by simp [Region.wanted, hgd]
  rw [if_pos hw]
  cases ad with
  | none =>
    obtain ⟨rfl, rfl⟩ := hnil rfl
    obtain rfl : news = [] := List.eq_nil_of_length_eq_zero (by rw [hl, Nat.zero_mul])
    have hrun := run_append_owned_none (P := P) (w := w) base t o.type e i size ht hi v n xs hown
    unfold Oper.wp
    simp [execOp, ho, resolve, invoke, builtin, hs, hx, hrun, Result.andThen]
    exact h v w (by simpa using hown) ⟨rfl, rfl, rfl, Nat.le_refl _, fun _ _ _ => rfl⟩ (.inl rfl)
  | some ad =>
    have hnews : ∀ j u, news[j]? = some u → w.cell? (ad.add j) = some u := fun j u hj => by
      obtain ⟨b, off, ha, hc⟩ := hat j u hj
      cases ha
      rw [addr_add]
      exact hc
    obtain ⟨v', w', hr, h2, h3, _, h5⟩ := run_append_own_at (P := P) w base t o.type e i z size bytes ht hi hz hsize hby hzs hsz v n xs hown ad m c news hl hnews h1 h63 hbytes hbase
    unfold Oper.wp execOp
    simp only [ho, resolve, invoke, builtin, Sem.run_bind, Sem.run_pure, Result.andThen_ok, List.map_toArray, List.map_cons, List.map_nil, hs, hx, hr]
    exact h v' w' h2 h3 (hH ▸ h5)

theorem revP_len (B : List Int) : ∀ S : List PC, (∀ x ∈ S, x.2.2.length ≤ 80 ∧ x.1 ≤ x.2.1) → (revP B S).length ≤ B.length + 80 * S.length
  | [], _ => by simp [revP]
  | x :: r, h => by
    obtain ⟨h1, h3⟩ := h x (List.mem_cons_self ..)
    have h2 := revP_len B r (fun y hy => h y (List.mem_cons_of_mem _ hy))
    simp only [revP, List.length_append, List.length_take, List.length_drop, List.length_cons]
    omega

theorem revP_step (B : List Int) (S : List PC) {j : Nat} {x : PC} (hx : S[j]? = some x) : revP B (S.drop j) = (revP B (S.drop (j + 1))).take x.1.toNat ++ x.2.2 ++ (revP B (S.drop (j + 1))).drop x.2.1.toNat := by
  obtain ⟨h1, h2⟩ := List.getElem?_eq_some_iff.1 hx
  rw [List.drop_eq_getElem_cons h1, h2, revP]

theorem chP_drop : ∀ (S : List PC) (e : Int) (j : Nat) (x : PC), chP e S → S[j]? = some x → e ≤ x.1 ∧ x.1 ≤ x.2.1 ∧ chP x.2.1 (S.drop (j + 1))
  | [], _, _, _, _, hx => by simp at hx
  | y :: r, e, 0, x, h, hx => by
    simp at hx; subst hx
    exact ⟨h.1, h.2.1, by simpa using h.2.2⟩
  | y :: r, e, j + 1, x, h, hx => by
    obtain ⟨h1, h2, h3⟩ := h
    obtain ⟨q1, q2, q3⟩ := chP_drop r y.2.1 j x h3 (by simpa using hx)
    exact ⟨by omega, q2, by simpa using q3⟩

/-- Bytes and the reference's changes that grow, each in a block of its own. -/
structure AR (w wr : World) (v9 v10 : Value) (C : List Int) (K : List Chg) : Prop where
  o9 : wr.ownsRow w.heap.size 5 1 v9 C.length (C.map (Value.int .u8))
  o10 : wr.ownsRow w.heap.size 66 3 v10 K.length (cellsC K)
  held : ∀ x ∈ K, BytesO wr v9.ownBlock v10.ownBlock x
  below : Below w.heap.size w wr
theorem AR.next {w wr w' : World} {v9 v10 : Value} {C : List Int} {K : List Chg} (h : AR w wr v9 v10 C K) (hb : Below wr.heap.size wr w') : AR w w' v9 v10 C K :=
  ⟨owns_below h.o9 hb, owns_below h.o10 hb, fun x hx => (h.held x hx).below hb, Below.more h.below hb⟩
theorem AR.app10 {w wr w' : World} {v9 v10 v10' : Value} {C : List Int} {K : List Chg} {x : Chg} (h : AR w wr v9 v10 C K) (hown : w'.ownsRow w.heap.size 66 3 v10' (K.length + 1) (cellsC K ++ encC x)) (hg : wr.grownBy w' v10.ownBlock) (hs : v10'.ownBlock = v10.ownBlock ∨ v10'.ownBlock = some wr.heap.size) (hx : BytesO wr v9.ownBlock v10.ownBlock x) : AR w w' v9 v10' C (K ++ [x]) := by
  refine ⟨h.o9.kept hg (own_types h.o9 h.o10 (by decide)), by rw [List.length_append, cellsC_append]; simpa [cellsC] using hown, fun y hy => ?_, h.below.grown hg h.below.size (fun k hk => (h.o10.lt k hk).1)⟩
  rcases List.mem_append.1 hy with hy | hy
  · exact (h.held y hy).grown2 hg hs
  · simp at hy; subst hy; exact hx.grown2 hg hs

end Go.Proofs.Ytbljgoieieoamaa
