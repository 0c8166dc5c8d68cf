/-
  Contract of layer 8: a reader takes parts.
-/
import Derived.Test.YtblebkpnjeghoaaTagD
namespace Go.Proofs.Ytblebkpnjeghoaa
open Go.RowKit
set_option linter.unusedVariables false

/-- Cells that lie below a block. -/
def AtB (w : World) (B : Nat) (a : Option Addr) (xs : List Value) : Prop :=
  ∀ j u, xs[j]? = some u → ∃ b off, a = some ⟨b, off, none⟩ ∧ b < B ∧ w.cell? ⟨b, off + j, none⟩ = some u
theorem AtB.below {w w' : World} {B : Nat} {a : Option Addr} {xs : List Value} (h : AtB w B a xs) (hb : Below B w w') : AtB w' B a xs := fun j u hj => by
  obtain ⟨b, off, ha, hl, hc⟩ := h j u hj
  exact ⟨b, off, ha, hl, by rw [hb.cell (p := ⟨b, off + j, none⟩) hl]; exact hc⟩
theorem AtB.nil (w : World) (B : Nat) (a : Option Addr) : AtB w B a [] := fun j u h => by simp at h
theorem AtB.at_ {w : World} {B : Nat} {a : Option Addr} {xs : List Value} (h : AtB w B a xs) : AtCells w a xs := fun j u hj => by
  obtain ⟨b, off, ha, _, hc⟩ := h j u hj
  exact ⟨b, off, ha, hc⟩

/-- All blocks of a world but one are as they were. -/
structure Kept (p : Nat) (w w' : World) : Prop where
  os : w'.os = w.os
  tape : w'.tape = w.tape
  output : w'.output = w.output
  size : w.heap.size ≤ w'.heap.size
  block : ∀ k, k < w.heap.size → k ≠ p → w'.heap[k]? = w.heap[k]?
theorem Kept.refl (p : Nat) (w : World) : Kept p w w := ⟨rfl, rfl, rfl, Nat.le_refl _, fun _ _ _ => rfl⟩
theorem Kept.next {p : Nat} {w w' w'' : World} (h : Kept p w w') (hb : Below w'.heap.size w' w'') : Kept p w w'' :=
  ⟨hb.os.trans h.os, hb.tape.trans h.tape, hb.output.trans h.output, Nat.le_trans h.size hb.size, fun k hk hp => (hb.block k (Nat.lt_of_lt_of_le hk h.size)).trans (h.block k hk hp)⟩
theorem Kept.trans {p : Nat} {w w' w'' : World} (h : Kept p w w') (h' : Kept p w' w'') : Kept p w w'' :=
  ⟨h'.os.trans h.os, h'.tape.trans h.tape, h'.output.trans h.output, Nat.le_trans h.size h'.size, fun k hk hp => (h'.block k (Nat.lt_of_lt_of_le hk h.size) hp).trans (h.block k hk hp)⟩
theorem Kept.put {p : Nat} {w w' : World} (h : Kept p w w') (j : Nat) (u : Value) : Kept p w (w'.setCell ⟨p, j, none⟩ u) :=
  ⟨h.os, h.tape, h.output, by have := h.size; simpa [World.setCell] using this, fun k hk hp => by
    have : (w'.setCell ⟨p, j, none⟩ u).heap[k]? = w'.heap[k]? := by simp [World.setCell, Array.getElem?_modify, Ne.symm hp]
    rw [this]; exact h.block k hk hp⟩
theorem Kept.of_below {p : Nat} {w w' : World} (hb : Below w.heap.size w w') : Kept p w w' := (Kept.refl p w).next hb
theorem Kept.below {p B : Nat} {w0 w w' : World} (h : Kept p w w') (hb : Below B w0 w) (hB : B ≤ p) (hB' : B ≤ w.heap.size) : Below B w0 w' :=
  ⟨h.os.trans hb.os, h.tape.trans hb.tape, h.output.trans hb.output, Nat.le_trans hb.size h.size, fun k hk => (h.block k (by omega) (by omega)).trans (hb.block k hk)⟩
theorem kcell {p : Nat} {W w1 : World} (hk : Kept p W w1) : (∀ b o, b < W.heap.size → b ≠ p → w1.cell? ⟨b, o, none⟩ = W.cell? ⟨b, o, none⟩) ∧ (∀ b o, b < W.heap.size → b ≠ p → w1.frozen? ⟨b, o, none⟩ = W.frozen? ⟨b, o, none⟩) :=
  ⟨fun b o h hn => World.cell?_of_block (hk.block b h hn), fun b o h hn => World.frozen?_of_block (hk.block b h hn)⟩
theorem AtB.kept {p : Nat} {w w' : World} {a : Option Addr} {xs : List Value} (h : AtB w p a xs) (hk : Kept p w w') : AtB w' p a xs := fun j u hj => by
  obtain ⟨b, off, ha, hl, hc⟩ := h j u hj
  exact ⟨b, off, ha, hl, by rw [World.cell?_of_block (hk.block b (cell_lt hc) (by omega))]; exact hc⟩

/-- A reader: what is left of its parts. -/
structure RD (w : World) (rp : Nat) (Q : List PartA) : Prop where
  ex : ∃ A c, w.cell? ⟨rp, 0, none⟩ = some (.slice A Q.length c) ∧ Q.length ≤ c ∧ c ≤ maxLen ∧ AtB w rp A (parsCells Q)
  frozen : w.frozen? ⟨rp, 0, none⟩ = false

/-- What take makes of parts: those that it takes, whether it does, what is left. -/
def takeP (K : List Nat) (Q : List PartA) : List PartA × Bool × List PartA := if (Q.take K.length).map (·.1) = K then (Q.take K.length, true, Q.drop K.length) else ([], false, Q)

theorem parsCells_append (a b : List PartA) : parsCells (a ++ b) = parsCells a ++ parsCells b := by simp [parsCells]
theorem parsCells_length (l : List PartA) : (parsCells l).length = l.length * 3 := by
  induction l with
  | nil => rfl
  | cons x l ih => simp only [parsCells, List.flatMap_cons, List.length_append, List.length_cons] at *; rw [ih]; simp [parCells]; omega

theorem AtB.drop {w : World} {B b off : Nat} {Q : List PartA} (h : AtB w B (some ⟨b, off, none⟩) (parsCells Q)) (m : Nat) (hm : m ≤ Q.length) : AtB w B (some ⟨b, off + m * 3, none⟩) (parsCells (Q.drop m)) := fun j u hj => by
  have e : parsCells Q = parsCells (Q.take m) ++ parsCells (Q.drop m) := by rw [← parsCells_append, List.take_append_drop]
  have hl : (parsCells (Q.take m)).length = m * 3 := by rw [parsCells_length, List.length_take]; rw [Nat.min_eq_left hm]
  obtain ⟨b', off', ha, hlt, hc⟩ := h (m * 3 + j) u (by rw [e, List.getElem?_append_right (by omega), hl]; simpa using hj)
  simp only [Option.some.injEq, Addr.mk.injEq] at ha
  obtain ⟨rfl, rfl, _⟩ := ha
  exact ⟨b, off + m * 3, rfl, hlt, by rw [Nat.add_assoc]; exact hc⟩
theorem AtB.take {w : World} {B : Nat} {a : Option Addr} {Q : List PartA} (h : AtB w B a (parsCells Q)) (m : Nat) : AtB w B a (parsCells (Q.take m)) := fun j u hj => by
  have e : parsCells Q = parsCells (Q.take m) ++ parsCells (Q.drop m) := by rw [← parsCells_append, List.take_append_drop]
  refine h j u ?_
  rw [e, List.getElem?_append_left (List.getElem?_eq_some_iff.1 hj).1]
  exact hj

theorem ret_nn {a b : Value} {c d : Bool} (h : a = b) (h' : c = d) : Ending.returned (.tuple #[a, .bool c]) = .returned (.tuple #[b, .bool d]) := by rw [h, h']

def KindsUp (Q : List PartA) (K : List Nat) (j : Nat) : Prop := ∀ x, x < j → (Q.map (·.1)).getD x 0 = K.getD x 0
theorem kinds_all {Q : List PartA} {K : List Nat} (hm : K.length ≤ Q.length) (h : KindsUp Q K K.length) : (Q.take K.length).map (·.1) = K := by
  refine List.ext_getElem (by simp; omega) fun j h1 h2 => ?_
  have := h j h2
  simp at h1
  rw [List.getD_eq_getElem?_getD, List.getElem?_eq_getElem (by simp; omega), List.getD_eq_getElem?_getD, List.getElem?_eq_getElem h2] at this
  simpa using this
theorem kinds_not {Q : List PartA} {K : List Nat} (j : Nat) (hj : j < K.length) (hq : j < Q.length) (h : (Q.map (·.1)).getD j 0 ≠ K.getD j 0) : ¬ (Q.take K.length).map (·.1) = K := fun he => h (by
  conv => rhs; rw [← he]
  simp [List.getD_eq_getElem?_getD, List.getElem?_take, hj])

/-- What take says. -/
def Took (K : List Nat) (Q : List PartA) (rp : Nat) (w : World) (e : Ending) (w' : World) : Prop :=
  ∃ A c, e = .returned (.tuple #[.slice A (takeP K Q).1.length c, .bool (takeP K Q).2.1]) ∧ (takeP K Q).1.length ≤ c ∧ c ≤ maxLen ∧ AtB w' rp A (parsCells (takeP K Q).1) ∧ RD w' rp (takeP K Q).2.2 ∧ Kept rp w w'

set_option maxRecDepth 20000 in
set_option maxHeartbeats 2000000 in
theorem take_any {w : World} {rp : Nat} {Q : List PartA} (R : RD w rp Q) (g m : Nat) (K : List Nat) (hK : K.length = m) (h0 : 0 < m) (hm : m ≤ 1000) (hg : AtCells w (some ⟨g, 0, none⟩) (K.map fun x => .int .i64 (x : Nat))) :
    Calls Try.prog 76 #[.pointer (some ⟨rp, 0, none⟩), .slice (some ⟨g, 0, none⟩) m m] w (Took K Q rp w) := by
  obtain ⟨⟨A, c, r0, hqc, hcm, hat⟩, hfz⟩ := R
  unfold maxLen at hcm
  obtain ⟨N, hN⟩ : ∃ N, N = Q.length := ⟨_, rfl⟩
  rw [← hN] at r0 hqc
  have HN := Lib.hid hN
  have HK := Lib.hid hK
  have HG := Lib.hid hg
  have HAT := Lib.hid hat
  by_cases hmN : m ≤ N
  case neg =>
    have HT := Lib.hid (show takeP K Q = ([], false, Q) by unfold takeP; rw [if_neg (fun h => by have := congrArg List.length h; simp at this; omega)])
    have HRD := Lib.hid (show RD w rp Q from ⟨⟨A, c, by rw [← hN]; exact r0, by omega, by unfold maxLen; omega, hat⟩, hfz⟩)
    have hlt : N < m := by omega
    clear hN hK hg hat
    go_enter Try.func76, Try.ntmps76
    go_wp2
    go_ret2
    unfold Took
    rw [HT.out]
    exact ⟨none, 0, ret_nn rfl rfl, Nat.le_refl _, by unfold maxLen; omega, AtB.nil _ _ _, HRD.out, Kept.refl _ _⟩
  obtain ⟨b, off, rfl, hbl, c0⟩ := hat 0 (.int .i64 ((Q[0]'(by omega)).1 : Nat)) (by cases Q with | nil => simp at hN; omega | cons x Q => rfl)
  have hmN' : ¬ N < m := by omega
  clear hN hK hg hat c0
  go_enter Try.func76, Try.ntmps76
  go_wp2
  go_loop [6, 7, 19] (fun _a _b i => ∃ j : Nat, j ≤ m ∧ i = .int .i64 j ∧ KindsUp Q K j) (fun _ _ i => m - (intOf i).toNat)
  case atStart => exact ⟨0, by omega, rfl, fun x hx => by omega⟩
  case round =>
    obtain ⟨j, hj, rfl, HJ⟩ := hrel
    by_cases hlt : j < m
    · obtain ⟨pb, po, hpa, k0, _, _⟩ := par_cells HAT.out.at_ (k := j) (x := Q[j]'(by rw [← HN.out]; omega)) (List.getElem?_eq_getElem _)
      simp only [Option.some.injEq, Addr.mk.injEq] at hpa
      obtain ⟨rfl, rfl, _⟩ := hpa
      obtain ⟨gb, go, hga, kk⟩ := HG.out j (.int .i64 (K[j]'(by rw [HK.out]; exact hlt) : Nat)) (by simp [HK.out, hlt])
      simp only [Option.some.injEq, Addr.mk.injEq] at hga
      obtain ⟨rfl, rfl, _⟩ := hga
      rw [Nat.zero_add] at kk
      obtain ⟨x, hx⟩ : ∃ x, x = (Q[j]'(by rw [← HN.out]; omega)).1 := ⟨_, rfl⟩
      obtain ⟨y, hy⟩ : ∃ y, y = K[j]'(by rw [HK.out]; exact hlt) := ⟨_, rfl⟩
      rw [← hx] at k0
      rw [← hy] at kk
      have hjN : j < N := by omega
      have HX := Lib.hid (show (Q.map (·.1)).getD j 0 = x by rw [hx, List.getD_eq_getElem?_getD, List.getElem?_map, List.getElem?_eq_getElem (by rw [← HN.out]; omega)]; rfl)
      have HY := Lib.hid (show K.getD j 0 = y by rw [hy, List.getD_eq_getElem?_getD, List.getElem?_eq_getElem (by rw [HK.out]; exact hlt)]; rfl)
      clear hx hy
      by_cases he : x = y
      · have HJ2 : KindsUp Q K (j + 1) := fun z hz => by
          by_cases h : z = j
          · subst h; rw [HX.out, HY.out]; exact he
          · exact HJ z (by omega)
        subst he
        go_wp2
        go_round
        case rel => exact ⟨j + 1, by omega, by go_num, HJ2⟩
        case measure => simp [intOf]; omega
      · have HT := Lib.hid (show takeP K Q = ([], false, Q) by unfold takeP; rw [if_neg (kinds_not j (by rw [HK.out]; exact hlt) (by rw [← HN.out]; exact hjN) (by rw [HX.out, HY.out]; exact he))])
        have HRD := Lib.hid (show RD w rp Q from ⟨⟨_, c, by rw [← HN.out]; exact r0, by rw [← HN.out]; omega, by unfold maxLen; omega, HAT.out⟩, hfz⟩)
        have hxy : ((x : Int) != (y : Int)) = true := by simp; omega
        go_wp2
        go_ret2
        unfold Took
        rw [HT.out]
        exact ⟨none, 0, ret_nn rfl rfl, Nat.le_refl _, by unfold maxLen; omega, AtB.nil _ _ _, HRD.out, Kept.refl _ _⟩
    · obtain rfl : j = m := by omega
      have HT := Lib.hid (show takeP K Q = (Q.take j, true, Q.drop j) by unfold takeP; rw [if_pos (kinds_all (by rw [HK.out, ← HN.out]; exact hmN) (by rw [HK.out]; exact HJ)), HK.out])
      clear hlt hj
      by_cases hcj : c = j
      · subst hcj
        have hNc : N = c := by omega
        go_wp2
        go_ret2
        have hb : Kept rp w (w.setCell ⟨rp, 0, none⟩ (.slice (some ⟨b, off, none⟩) 0 0)) := (Kept.refl rp w).put 0 _
        unfold Took
        rw [HT.out]
        refine ⟨some ⟨b, off, none⟩, c, ret_nn (by simp only [List.length_take]; rw [← HN.out, hNc, Nat.min_self]; rfl) rfl, by simp only [List.length_take]; omega, by unfold maxLen; omega, (HAT.out.take _).kept hb, ⟨⟨some ⟨b, off, none⟩, 0, ?_, ?_, by unfold maxLen; omega, ?_⟩, ?_⟩, hb⟩
        · rw [List.length_drop, ← HN.out, hNc, Nat.sub_self]; exact World.cell?_setCell_same _ _ _ r0
        · rw [List.length_drop, ← HN.out]; omega
        · rw [List.drop_eq_nil_of_le (by rw [← HN.out]; omega)]; exact AtB.nil _ _ _
        · simp [go_sem, hfz]
      · go_wp2
        go_ret2
        have hb : Kept rp w (w.setCell ⟨rp, 0, none⟩ (.slice (some ⟨b, off + j * 3, none⟩) (N - j) (c - j))) := (Kept.refl rp w).put 0 _
        unfold Took
        rw [HT.out]
        refine ⟨some ⟨b, off, none⟩, c, ret_nn (by simp only [List.length_take]; rw [← HN.out, Nat.min_eq_left hmN]; rfl) rfl, by simp only [List.length_take]; omega, by unfold maxLen; omega, (HAT.out.take _).kept hb, ⟨⟨some ⟨b, off + j * 3, none⟩, c - j, ?_, ?_, by unfold maxLen; omega, ?_⟩, ?_⟩, hb⟩
        · rw [List.length_drop, ← HN.out]; exact World.cell?_setCell_same _ _ _ r0
        · rw [List.length_drop, ← HN.out]; omega
        · exact (HAT.out.drop j (by rw [← HN.out]; exact hmN)).kept hb
        · simp [go_sem, hfz]

theorem RD.lt {w : World} {rp : Nat} {Q : List PartA} (h : RD w rp Q) : rp < w.heap.size := by
  obtain ⟨A, c, r0, _⟩ := h.ex
  exact cell_lt r0
theorem RD.next {w w' : World} {rp : Nat} {Q : List PartA} (h : RD w rp Q) (hb : Below w.heap.size w w') : RD w' rp Q := by
  obtain ⟨A, c, r0, h1, h2, h3⟩ := h.ex
  obtain ⟨c1, c2⟩ := bcell hb
  exact ⟨⟨A, c, by rw [c1 _ _ (cell_lt r0)]; exact r0, h1, h2, h3.kept (Kept.of_below hb)⟩, by rw [c2 _ _ (cell_lt r0)]; exact h.frozen⟩

/-- What take says of kinds that were just laid. -/
def Takes (n : List PartA) (o : Bool) (Q' : List PartA) (rp : Nat) (w : World) (e : Ending) (w' : World) : Prop :=
  ∃ A c, e = .returned (.tuple #[.slice A n.length c, .bool o]) ∧ n.length ≤ c ∧ AtB w' rp A (parsCells n) ∧ RD w' rp Q' ∧ Kept rp w w'
theorem take1 {w : World} {rp : Nat} {Q : List PartA} (R : RD w rp Q) (k : Nat) {n : List PartA} {o : Bool} {Q' : List PartA} (hT : takeP [k] Q = (n, o, Q')) (z : Int) (hz : z = k) (g : Nat) (hg : g = w.heap.size) :
    Calls Try.prog 76 #[.pointer (some ⟨rp, 0, none⟩), .slice (some ⟨g, 0, none⟩) 1 1] (w.alloc (.cells #[.int .i64 z] 3)) (Takes n o Q' rp w) := by
  subst hz hg
  refine (take_any (R.next (one_ok w _)) w.heap.size 1 [k] rfl (by omega) (by omega) (AtCells.of_owns (World.ownsRow_lit (base := w.heap.size) (e := 3) (size := 1) w #[.int .i64 (k : Nat)] 1 (Nat.le_refl _) (by unfold maxLen; omega) rfl))).mono ?_
  rintro e w' ⟨A, c, rfl, h1, _, h3, h4, h5⟩
  rw [hT] at *
  exact ⟨A, c, rfl, h1, h3, h4, (Kept.of_below (one_ok w _)).trans h5⟩
theorem take2 {w : World} {rp : Nat} {Q : List PartA} (R : RD w rp Q) (k k2 : Nat) {n : List PartA} {o : Bool} {Q' : List PartA} (hT : takeP [k, k2] Q = (n, o, Q')) (z z2 : Int) (hz : z = k) (hz2 : z2 = k2) (g : Nat) (hg : g = w.heap.size) :
    Calls Try.prog 76 #[.pointer (some ⟨rp, 0, none⟩), .slice (some ⟨g, 0, none⟩) 2 2] (w.alloc (.cells #[.int .i64 z, .int .i64 z2] 3)) (Takes n o Q' rp w) := by
  subst hz hz2 hg
  refine (take_any (R.next (one_ok w _)) w.heap.size 2 [k, k2] rfl (by omega) (by omega) (AtCells.of_owns (World.ownsRow_lit (base := w.heap.size) (e := 3) (size := 1) w #[.int .i64 (k : Nat), .int .i64 (k2 : Nat)] 2 (Nat.le_refl _) (by unfold maxLen; omega) rfl))).mono ?_
  rintro e w' ⟨A, c, rfl, h1, _, h3, h4, h5⟩
  rw [hT] at *
  exact ⟨A, c, rfl, h1, h3, h4, (Kept.of_below (one_ok w _)).trans h5⟩

end Go.Proofs.Ytblebkpnjeghoaa
