/-
  Contracts of layer 9: all, over whatever takes one part: its words.
-/
import Derived.Test.YtpjcheelafegbaaDxB
import Derived.BigQuiet
import Derived.Outline
import Derived.WalkLawsBesides
import Derived.Deep.AppendLies
import Derived.Deep.RegionHeldLaw
namespace Go.Proofs.Ytpjcheelafegbaa
open Go.RowKit
set_option linter.unusedVariables false

theorem Try.infoDPar : (Try.prog.info? 32).map (fun i => (i.zero, i.size, i.bytes)) = some (some (.agg #[.int .i64 0, .int .i64 0, .int .i64 0]), 3, 24) := by kernel_rfl

/-- What a call of one that takes parts leaves: all blocks but its own two are as they were. -/
structure Step (p : Nat) (gv gv' : Value) (w w' : World) : Prop where
  os : w'.os = w.os
  tape : w'.tape = w.tape
  output : w'.output = w.output
  size : w.heap.size ≤ w'.heap.size
  block : ∀ k, k < w.heap.size → k ≠ p → gv.ownBlock ≠ some k → w'.heap[k]? = w.heap[k]?
  own : gv'.ownBlock = gv.ownBlock ∨ ∀ x, gv'.ownBlock = some x → w.heap.size ≤ x
  lt : ∀ x, gv'.ownBlock = some x → x < w'.heap.size
theorem Step.of_below {p : Nat} {gv : Value} {w w' : World} (h : Below w.heap.size w w') (hg : ∀ x, gv.ownBlock = some x → x < w.heap.size) : Step p gv gv w w' :=
  ⟨h.os, h.tape, h.output, h.size, fun k hk _ _ => h.block k hk, .inl rfl, fun x hx => Nat.lt_of_lt_of_le (hg x hx) h.size⟩

theorem owns_same {w w' : World} {base n : Nat} {e : TypeId} {size : Nat} {v : Value} {xs : List Value} (h : w.ownsRow base e size v n xs) (hs : ∀ g, v.ownBlock = some g → w'.heap[g]? = w.heap[g]?) : w'.ownsRow base e size v n xs := by
  obtain ⟨h0, h1 | ⟨g, cap, cur, rfl, hb, hg, rest⟩⟩ := h
  · exact ⟨h0, .inl h1⟩
  · exact ⟨h0, .inr ⟨g, cap, cur, rfl, hb, (hs g rfl).trans hg, rest⟩⟩

theorem grow_far {w3 W1 w5 : World} {o : Obj} {row : Option Nat} (hb : Below w3.heap.size w3 W1) (hg : (W1.alloc o).drew.grownBy w5 row) :
    (∀ b, b < w3.heap.size → row ≠ some b → w5.heap[b]? = w3.heap[b]?) ∧ w3.heap.size ≤ w5.heap.size ∧ w5.os = w3.os ∧ w5.tape = w3.tape ∧ w5.output = w3.output := by
  have hs := hb.size
  refine ⟨fun b hlt hne => ?_, ?_, hg.os.trans hb.os, hg.tape.trans hb.tape, hg.output.trans hb.output⟩
  · rw [hg.block b (by show b < (W1.alloc o).heap.size; simp; omega) hne.symm]
    show (W1.alloc o).heap[b]? = _
    rw [Below.heap_alloc W1 o b (by omega), hb.block b hlt]
  · have := hg.size
    have e : (W1.alloc o).drew.heap.size = W1.heap.size + 1 := by show (W1.alloc o).heap.size = _; simp
    omega

theorem hat_ok {w3 W1 : World} {o : Obj} (hb : Below w3.heap.size w3 W1) {v0 : Value} {g : Nat} (h : v0.ownBlock = some g ∨ g = (W1.alloc o).drew.heap.size) : v0.ownBlock = some g ∨ w3.heap.size ≤ g := h.imp_right fun e => by
  have h1 := hb.size
  have e2 : (W1.alloc o).drew.heap.size = W1.heap.size + 1 := by show (W1.alloc o).heap.size = _; simp
  omega

/-- What all holds of its parts between two of them. -/
structure Alls (A pb : Nat) (w wr : World) (v0 gv : Value) (acc : List PartA) : Prop where
  own : wr.ownsRow A 32 3 v0 acc.length (parsCells acc)
  kept : Kept pb w wr
  apart : ∀ x, gv.ownBlock = some x → A ≤ x ∧ x < wr.heap.size ∧ v0.ownBlock ≠ some x
theorem Alls.step {A pb : Nat} {w wr w3 W1 w5 : World} {v0 v5 gv gv' : Value} {acc : List PartA} {x : PartA} {o : Obj} {g gc : Nat} (h : Alls A pb w wr v0 gv acc) (hA : A = w.heap.size) (hpb : pb < A) (hs : Step pb gv gv' wr w3)
    (hb : Below w3.heap.size w3 W1) (hg : (W1.alloc o).drew.grownBy w5 v0.ownBlock) (hv : v5 = .slice (some ⟨g, 0, none⟩) (acc ++ [x]).length gc) (hown : w5.ownsRow A 32 3 v5 (acc ++ [x]).length (parsCells (acc ++ [x]))) (hat : v0.ownBlock = some g ∨ w3.heap.size ≤ g) :
    Alls A pb w w5 v5 gv' (acc ++ [x]) ∧ (∀ b, b < A → w5.heap[b]? = w3.heap[b]?) ∧ (∀ y, gv'.ownBlock = some y → w5.heap[y]? = w3.heap[y]?) ∧ w3.heap.size ≤ w5.heap.size := by
  obtain ⟨f1, f2, f3, f4, f5⟩ := grow_far hb hg
  have hk := h.kept.size
  have hz := hs.size
  have v0lt : ∀ y, v0.ownBlock = some y → A ≤ y ∧ y < wr.heap.size := fun y hy => h.own.lt y hy
  have gvn : ∀ y, gv'.ownBlock = some y → A ≤ y ∧ v0.ownBlock ≠ some y := fun y hy => by
    rcases hs.own with e | e
    · rw [e] at hy
      obtain ⟨a1, _, a3⟩ := h.apart y hy
      exact ⟨a1, a3⟩
    · have := e y hy
      exact ⟨by omega, fun hc => by have := (v0lt y hc).2; omega⟩
  have keep3 : ∀ b, b < A → w5.heap[b]? = w3.heap[b]? := fun b hlt => f1 b (by omega) (fun hc => by have := (v0lt b hc).1; omega)
  refine ⟨⟨hown, ⟨?_, ?_, ?_, by omega, fun b hlt hne => ?_⟩, fun y hy => ?_⟩, keep3, fun y hy => f1 y (hs.lt y hy) (gvn y hy).2, f2⟩
  · rw [f3, hs.os, h.kept.os]
  · rw [f4, hs.tape, h.kept.tape]
  · rw [f5, hs.output, h.kept.output]
  · rw [keep3 b (by omega), hs.block b (by omega) hne (fun hc => by have := (h.apart b hc).1; omega), h.kept.block b hlt hne]
  · refine ⟨(gvn y hy).1, by have := hs.lt y hy; omega, fun hc => ?_⟩
    rw [hv] at hc
    simp only [Value.ownBlock, Option.some.injEq] at hc
    subst hc
    rcases hat with e | e
    · exact (gvn _ hy).2 e
    · have := hs.lt _ hy; omega

set_option maxRecDepth 20000 in
set_option maxHeartbeats 4000000 in
theorem all_words {n : Nat} {l : List Int} (hln : l.length = n) (hn : n ≤ 1000) (p : List Int → Nat × Nat) (hp : Reads p) (g pb : Nat) (w : World) (hpb : pb < w.heap.size) (Inv : Nat → Value → World → Prop) (gv0 : Value) (hgv0 : gv0.ownBlock = none) (h0 : Inv 0 gv0 w)
    (HS : ∀ k gv w' w'', Inv k gv w' → w'.heap.size ≤ w''.heap.size → (∀ b, b < w.heap.size → w''.heap[b]? = w'.heap[b]?) → (∀ x, gv.ownBlock = some x → w''.heap[x]? = w'.heap[x]?) → Inv k gv w'')
    (HC : ∀ k gv w', k < n → Inv k gv w' → (∀ x, gv.ownBlock = some x → x < w'.heap.size) → w.heap.size ≤ w'.heap.size → Calls Try.prog 71 #[.int .i64 (k : Nat), .pointer (some ⟨g, 0, none⟩)] w' fun e w'' => ∃ gv', e = .returned (parI (p (l.drop k)).1 k ((k : Int) + (p (l.drop k)).2)) ∧ Inv (k + (p (l.drop k)).2) gv' w'' ∧ Step pb gv gv' w' w'') :
    Calls Try.prog 66 #[.int .i64 n, .func (.func 71) #[] #[.pointer (some ⟨g, 0, none⟩)]] w fun e w' => ∃ v, e = .returned v ∧ w'.ownsRow w.heap.size 32 3 v (rowP p 0 l).length (parsCells (rowP p 0 l)) ∧ Kept pb w w' := by
  obtain ⟨i0, hi, hz0, hz1, hz2⟩ := info_parts Try.infoDPar
  have HI := Lib.hid (And.intro hi (And.intro hz0 (And.intro hz1 hz2)))
  obtain ⟨A, hA⟩ : ∃ A, A = w.heap.size := ⟨_, rfl⟩
  have HA := Lib.hid hA
  rw [← hA] at hpb HS HC ⊢
  have HSS := Lib.hid HS
  have HCC := Lib.hid HC
  have HTL := Lib.hid hln
  have HPP := Lib.hid hp
  obtain ⟨res, hres⟩ : ∃ res, res = rowP p 0 l := ⟨_, rfl⟩
  have HALL := Lib.hid (show [] ++ rowF p n 0 (l.drop 0) = res by rw [hres]; unfold rowP; rw [hln]; rfl)
  rw [← hres]
  have H0 := Lib.hid h0
  have HG0 := Lib.hid hgv0
  clear hi hz0 hz1 hz2 HS HC hln hp hres h0 hgv0 hA
  go_enter Try.func66, Try.ntmps66
  go_wp2
  go_loopw [5, 6, 7] (fun v fv _p wr => ∃ (j fu : Nat) (acc : List PartA) (v0 gv : Value), fv = .int .i64 j ∧ v0 = v ∧ j ≤ n ∧ n - j ≤ fu ∧ acc.length ≤ j ∧ Hid (Alls A pb w wr v0 gv acc ∧ Inv j gv wr) ∧ Hid (acc ++ rowF p fu j (l.drop j) = res)) (fun _ fv _ _ => n - (intOf fv).toNat)
  case atStart =>
    exact ⟨0, n, [], _, gv0, rfl, rfl, by omega, by omega, by simp, Lib.hid ⟨⟨World.ownsRow_nil _ _ _ _, Kept.refl _ _, fun x hx => by rw [HG0.out] at hx; cases hx⟩, H0.out⟩, HALL⟩
  case round =>
    clear HALL
    obtain ⟨j, fu, acc, v0, gv, rfl, rfl, hjt, hfu, hal, HOW, HALL⟩ := hrel
    by_cases hlt : j < n
    · obtain ⟨fu, rfl⟩ : ∃ f', fu = f' + 1 := ⟨fu - 1, by omega⟩
      obtain ⟨k1, k2⟩ := HPP.out (l.drop j) (by rw [dropl, HTL.out]; omega)
      rw [dropl, HTL.out] at k2
      have HP := Lib.hid (HCC.out j gv wr hlt HOW.out.2 (fun x hx => (HOW.out.1.apart x hx).2.1) (by rw [HA.out]; exact HOW.out.1.kept.size))
      have hall := HALL.out
      rw [rowF_cons (by rw [HTL.out]; exact hlt)] at hall
      obtain ⟨pa, q, hpt⟩ : ∃ pa q, p (l.drop j) = (pa, q) := ⟨_, _, rfl⟩
      rw [hpt] at k1 k2 HP hall
      simp only at k1 k2 HP hall
      have HNEXT := Lib.hid (show (acc ++ [(pa, j, j + q)]) ++ rowF p fu (j + q) (l.drop (j + q)) = res by rw [List.append_assoc]; exact hall)
      clear hall hpt HALL
      go_wp2_with (go_at_call 71; (with_reducible refine HP.out.mono ?_); rintro e w3 ⟨gv', rfl, hinv3, hst3⟩)
      obtain ⟨d0, d1, d2⟩ := box3 w3 (.int .i64 pa) (.int .i64 j) (.int .i64 ((j : Int) + q)) 32
      obtain ⟨W1, hW1⟩ : ∃ W1, W1 = w3.alloc (.cells #[.int .i64 pa, .int .i64 j, .int .i64 ((j : Int) + q)] 32) := ⟨_, rfl⟩
      have hbW : Below w3.heap.size w3 W1 := by rw [hW1]; exact one_ok _ _
      rw [← hW1] at d0 d1 d2 ⊢
      obtain ⟨pp, hpp⟩ : ∃ pp, pp = w3.heap.size := ⟨_, rfl⟩
      rw [← hpp] at d0 d1 d2 ⊢
      have hv0 : w3.ownsRow A 32 3 v0 acc.length (parsCells acc) := owns_same HOW.out.1.own (fun y hy => hst3.block y (HOW.out.1.own.lt y hy).2 (fun hc => by have := (HOW.out.1.own.lt y hy).1; omega) (fun hc => (HOW.out.1.apart y hc).2.2 hy))
      have HO1 := Lib.hid (And.intro (owns_below hv0 hbW) (show A ≤ W1.heap.size by have h1 := hbW.size; have h2 := hst3.size; have h3 := HOW.out.1.kept.size; have h4 := HA.out; omega))
      have HNE := Lib.hid (show some pp ≠ v0.ownBlock from fun h => absurd (HOW.out.1.own.lt _ h.symm).2 (by have := hst3.size; omega))
      have HM := Lib.hid (And.intro (show acc.length + 1 ≤ maxLen by unfold maxLen; omega) (show (acc.length + 1) * 24 ≤ 140737488355328 by omega))
      have HST := Lib.hid (And.intro hst3 (And.intro hbW hinv3))
      have D0 := Lib.hid d0
      have D1 := Lib.hid d1
      have D2 := Lib.hid d2
      clear hW1 hbW d0 d1 d2 hpp hst3 hinv3 hv0
      go_region_held_law (fun W => W.cell? ⟨pp, 0, none⟩ = some (.int .i64 pa) ∧ W.cell? ⟨pp, 1, none⟩ = some (.int .i64 j) ∧ W.cell? ⟨pp, 2, none⟩ = some (.int .i64 ((j : Int) + q)))
          ((refine ⟨?_, ?_, ?_⟩ <;> (repeat (first | (with_reducible exact E0) | (with_reducible exact E1) | (with_reducible exact E2) | (with_reducible exact D0.out) | (with_reducible exact D1.out) | (with_reducible exact D2.out) | (with_reducible refine kp_alloc _ ?_) | (with_reducible refine kp_drew ?_)))))
          (first
            | (refine step_append_lies _ rfl _ _ 25 rfl A 32 i0 _ 3 24 Try.underlying25 HI.out.1 HI.out.2.1 HI.out.2.2.1 HI.out.2.2.2 rfl (by decide) v0 acc.length (parsCells acc) rfl (owns_below HO1.out.1 (one_ok W1 _).drew) ⟨W1.heap.size, 0, none⟩ 1 1 [.int .i64 pa, .int .i64 j, .int .i64 ((j : Int) + q)] rfl rfl (new_cells_at W1 _ _ _ rfl) (one_par _ _ _) (by decide) HM.out.1 HM.out.2 (Nat.le_trans HO1.out.2 (one_ok W1 _).drew.size) _ rfl ?_; intro g gc w5 hown5 hg5 hat5 _; have E0 := hg5.cell (a := ⟨pp, 0, none⟩) (kp_drew (kp_alloc _ D0.out)) HNE.out; have E1 := hg5.cell (a := ⟨pp, 1, none⟩) (kp_drew (kp_alloc _ D1.out)) HNE.out; have E2 := hg5.cell (a := ⟨pp, 2, none⟩) (kp_drew (kp_alloc _ D2.out)) HNE.out; have HF := Lib.hid (Alls.step (x := (pa, j, j + q)) (g := g) (gc := gc) HOW.out.1 HA.out hpb HST.out.1 HST.out.2.1 hg5 (v5 := .slice (some ⟨g, 0, none⟩) (acc.length + 1) gc) (by simp) (by rw [parsCells_snoc, List.length_append]; exact hown5) (hat_ok HST.out.2.1 hat5)); clear hown5 hg5 hat5))
      simp only [List.getElem_toArray, List.getElem_cons_succ, List.getElem_cons_zero, List.setIfInBounds_toArray, List.set_cons_succ, List.set_cons_zero, Nat.zero_add]
      go_wp2
      go_roundw
      case rel => exact ⟨j + q, fu, acc ++ [(pa, j, j + q)], _, gv', by go_num, rfl, by omega, by omega, by rw [List.length_append, List.length_singleton]; omega, Lib.hid ⟨HF.out.1, HSS.out _ _ _ _ HST.out.2.2 HF.out.2.2.2 HF.out.2.1 HF.out.2.2.1⟩, HNEXT⟩
      case measure => simp [intOf]; omega
    · obtain rfl : j = n := by omega
      have hall := HALL.out
      rw [List.drop_eq_nil_of_le (by rw [HTL.out]; exact Nat.le_refl _), rowF_end, List.append_nil] at hall
      clear hlt HALL
      go_wp2
      go_ret
      rw [← hall]
      exact ⟨_, rfl, HOW.out.1.own, HOW.out.1.kept⟩

set_option maxRecDepth 20000 in
set_option maxHeartbeats 4000000 in
theorem all_items {n : Nat} {l : List Int} (hln : l.length = n) (hn : n ≤ 1000) (p : List Int → Nat × Nat) (hp : Reads p) (g pb : Nat) (w : World) (hpb : pb < w.heap.size) (Inv : Nat → Value → World → Prop) (gv0 : Value) (hgv0 : gv0.ownBlock = none) (h0 : Inv 0 gv0 w)
    (HS : ∀ k gv w' w'', Inv k gv w' → w'.heap.size ≤ w''.heap.size → (∀ b, b < w.heap.size → w''.heap[b]? = w'.heap[b]?) → (∀ x, gv.ownBlock = some x → w''.heap[x]? = w'.heap[x]?) → Inv k gv w'')
    (HC : ∀ k gv w', k < n → Inv k gv w' → (∀ x, gv.ownBlock = some x → x < w'.heap.size) → w.heap.size ≤ w'.heap.size → Calls Try.prog 68 #[.pointer (some ⟨g, 0, none⟩), .int .i64 (k : Nat)] w' fun e w'' => ∃ gv', e = .returned (parI (p (l.drop k)).1 k ((k : Int) + (p (l.drop k)).2)) ∧ Inv (k + (p (l.drop k)).2) gv' w'' ∧ Step pb gv gv' w' w'') :
    Calls Try.prog 66 #[.int .i64 n, .func (.func 68) #[.pointer (some ⟨g, 0, none⟩)] #[]] w fun e w' => ∃ v, e = .returned v ∧ w'.ownsRow w.heap.size 32 3 v (rowP p 0 l).length (parsCells (rowP p 0 l)) ∧ Kept pb w w' := by
  obtain ⟨i0, hi, hz0, hz1, hz2⟩ := info_parts Try.infoDPar
  have HI := Lib.hid (And.intro hi (And.intro hz0 (And.intro hz1 hz2)))
  obtain ⟨A, hA⟩ : ∃ A, A = w.heap.size := ⟨_, rfl⟩
  have HA := Lib.hid hA
  rw [← hA] at hpb HS HC ⊢
  have HSS := Lib.hid HS
  have HCC := Lib.hid HC
  have HTL := Lib.hid hln
  have HPP := Lib.hid hp
  obtain ⟨res, hres⟩ : ∃ res, res = rowP p 0 l := ⟨_, rfl⟩
  have HALL := Lib.hid (show [] ++ rowF p n 0 (l.drop 0) = res by rw [hres]; unfold rowP; rw [hln]; rfl)
  rw [← hres]
  have H0 := Lib.hid h0
  have HG0 := Lib.hid hgv0
  clear hi hz0 hz1 hz2 HS HC hln hp hres h0 hgv0 hA
  go_enter Try.func66, Try.ntmps66
  go_wp2
  go_loopw [5, 6, 7] (fun v fv _p wr => ∃ (j fu : Nat) (acc : List PartA) (v0 gv : Value), fv = .int .i64 j ∧ v0 = v ∧ j ≤ n ∧ n - j ≤ fu ∧ acc.length ≤ j ∧ Hid (Alls A pb w wr v0 gv acc ∧ Inv j gv wr) ∧ Hid (acc ++ rowF p fu j (l.drop j) = res)) (fun _ fv _ _ => n - (intOf fv).toNat)
  case atStart =>
    exact ⟨0, n, [], _, gv0, rfl, rfl, by omega, by omega, by simp, Lib.hid ⟨⟨World.ownsRow_nil _ _ _ _, Kept.refl _ _, fun x hx => by rw [HG0.out] at hx; cases hx⟩, H0.out⟩, HALL⟩
  case round =>
    clear HALL
    obtain ⟨j, fu, acc, v0, gv, rfl, rfl, hjt, hfu, hal, HOW, HALL⟩ := hrel
    by_cases hlt : j < n
    · obtain ⟨fu, rfl⟩ : ∃ f', fu = f' + 1 := ⟨fu - 1, by omega⟩
      obtain ⟨k1, k2⟩ := HPP.out (l.drop j) (by rw [dropl, HTL.out]; omega)
      rw [dropl, HTL.out] at k2
      have HP := Lib.hid (HCC.out j gv wr hlt HOW.out.2 (fun x hx => (HOW.out.1.apart x hx).2.1) (by rw [HA.out]; exact HOW.out.1.kept.size))
      have hall := HALL.out
      rw [rowF_cons (by rw [HTL.out]; exact hlt)] at hall
      obtain ⟨pa, q, hpt⟩ : ∃ pa q, p (l.drop j) = (pa, q) := ⟨_, _, rfl⟩
      rw [hpt] at k1 k2 HP hall
      simp only at k1 k2 HP hall
      have HNEXT := Lib.hid (show (acc ++ [(pa, j, j + q)]) ++ rowF p fu (j + q) (l.drop (j + q)) = res by rw [List.append_assoc]; exact hall)
      clear hall hpt HALL
      go_wp2_with (go_at_call 68; (with_reducible refine HP.out.mono ?_); rintro e w3 ⟨gv', rfl, hinv3, hst3⟩)
      obtain ⟨d0, d1, d2⟩ := box3 w3 (.int .i64 pa) (.int .i64 j) (.int .i64 ((j : Int) + q)) 32
      obtain ⟨W1, hW1⟩ : ∃ W1, W1 = w3.alloc (.cells #[.int .i64 pa, .int .i64 j, .int .i64 ((j : Int) + q)] 32) := ⟨_, rfl⟩
      have hbW : Below w3.heap.size w3 W1 := by rw [hW1]; exact one_ok _ _
      rw [← hW1] at d0 d1 d2 ⊢
      obtain ⟨pp, hpp⟩ : ∃ pp, pp = w3.heap.size := ⟨_, rfl⟩
      rw [← hpp] at d0 d1 d2 ⊢
      have hv0 : w3.ownsRow A 32 3 v0 acc.length (parsCells acc) := owns_same HOW.out.1.own (fun y hy => hst3.block y (HOW.out.1.own.lt y hy).2 (fun hc => by have := (HOW.out.1.own.lt y hy).1; omega) (fun hc => (HOW.out.1.apart y hc).2.2 hy))
      have HO1 := Lib.hid (And.intro (owns_below hv0 hbW) (show A ≤ W1.heap.size by have h1 := hbW.size; have h2 := hst3.size; have h3 := HOW.out.1.kept.size; have h4 := HA.out; omega))
      have HNE := Lib.hid (show some pp ≠ v0.ownBlock from fun h => absurd (HOW.out.1.own.lt _ h.symm).2 (by have := hst3.size; omega))
      have HM := Lib.hid (And.intro (show acc.length + 1 ≤ maxLen by unfold maxLen; omega) (show (acc.length + 1) * 24 ≤ 140737488355328 by omega))
      have HST := Lib.hid (And.intro hst3 (And.intro hbW hinv3))
      have D0 := Lib.hid d0
      have D1 := Lib.hid d1
      have D2 := Lib.hid d2
      clear hW1 hbW d0 d1 d2 hpp hst3 hinv3 hv0
      go_region_held_law (fun W => W.cell? ⟨pp, 0, none⟩ = some (.int .i64 pa) ∧ W.cell? ⟨pp, 1, none⟩ = some (.int .i64 j) ∧ W.cell? ⟨pp, 2, none⟩ = some (.int .i64 ((j : Int) + q)))
          ((refine ⟨?_, ?_, ?_⟩ <;> (repeat (first | (with_reducible exact E0) | (with_reducible exact E1) | (with_reducible exact E2) | (with_reducible exact D0.out) | (with_reducible exact D1.out) | (with_reducible exact D2.out) | (with_reducible refine kp_alloc _ ?_) | (with_reducible refine kp_drew ?_)))))
          (first
            | (refine step_append_lies _ rfl _ _ 25 rfl A 32 i0 _ 3 24 Try.underlying25 HI.out.1 HI.out.2.1 HI.out.2.2.1 HI.out.2.2.2 rfl (by decide) v0 acc.length (parsCells acc) rfl (owns_below HO1.out.1 (one_ok W1 _).drew) ⟨W1.heap.size, 0, none⟩ 1 1 [.int .i64 pa, .int .i64 j, .int .i64 ((j : Int) + q)] rfl rfl (new_cells_at W1 _ _ _ rfl) (one_par _ _ _) (by decide) HM.out.1 HM.out.2 (Nat.le_trans HO1.out.2 (one_ok W1 _).drew.size) _ rfl ?_; intro g gc w5 hown5 hg5 hat5 _; have E0 := hg5.cell (a := ⟨pp, 0, none⟩) (kp_drew (kp_alloc _ D0.out)) HNE.out; have E1 := hg5.cell (a := ⟨pp, 1, none⟩) (kp_drew (kp_alloc _ D1.out)) HNE.out; have E2 := hg5.cell (a := ⟨pp, 2, none⟩) (kp_drew (kp_alloc _ D2.out)) HNE.out; have HF := Lib.hid (Alls.step (x := (pa, j, j + q)) (g := g) (gc := gc) HOW.out.1 HA.out hpb HST.out.1 HST.out.2.1 hg5 (v5 := .slice (some ⟨g, 0, none⟩) (acc.length + 1) gc) (by simp) (by rw [parsCells_snoc, List.length_append]; exact hown5) (hat_ok HST.out.2.1 hat5)); clear hown5 hg5 hat5))
      simp only [List.getElem_toArray, List.getElem_cons_succ, List.getElem_cons_zero, List.setIfInBounds_toArray, List.set_cons_succ, List.set_cons_zero, Nat.zero_add]
      go_wp2
      go_roundw
      case rel => exact ⟨j + q, fu, acc ++ [(pa, j, j + q)], _, gv', by go_num, rfl, by omega, by omega, by rw [List.length_append, List.length_singleton]; omega, Lib.hid ⟨HF.out.1, HSS.out _ _ _ _ HST.out.2.2 HF.out.2.2.2 HF.out.2.1 HF.out.2.2.1⟩, HNEXT⟩
      case measure => simp [intOf]; omega
    · obtain rfl : j = n := by omega
      have hall := HALL.out
      rw [List.drop_eq_nil_of_le (by rw [HTL.out]; exact Nat.le_refl _), rowF_end, List.append_nil] at hall
      clear hlt HALL
      go_wp2
      go_ret
      rw [← hall]
      exact ⟨_, rfl, HOW.out.1.own, HOW.out.1.kept⟩

end Go.Proofs.Ytpjcheelafegbaa
