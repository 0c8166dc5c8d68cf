/-
  Contract of layer 8: a reader takes an attribute.
-/
import Derived.Test.YtblebkpnjeghoaaTagE
namespace Go.Proofs.Ytblebkpnjeghoaa
open Go.RowKit
set_option linter.unusedVariables false

/-- An attribute: its name, its value, all of it; its nine cells. -/
abbrev AttA := PartA × PartA × PartA
def attCells (x : AttA) : List Value := parCells x.1 ++ parCells x.2.1 ++ parCells x.2.2
abbrev attI (c0 c1 c2 c3 c4 c5 c6 c7 c8 : Int) : Value := .agg #[.int .i64 c0, .int .i64 c1, .int .i64 c2, .int .i64 c3, .int .i64 c4, .int .i64 c5, .int .i64 c6, .int .i64 c7, .int .i64 c8]
def attV (x : AttA) : Value := .agg (attCells x).toArray
theorem Try.infoAttr : (Try.prog.info? 89).map (fun i => (i.zero, i.size, i.bytes)) = some (some (attI 0 0 0 0 0 0 0 0 0), 9, 72) := by kernel_rfl
abbrev attB : Obj := .cells #[.int .i64 0, .int .i64 0, .int .i64 0, .int .i64 0, .int .i64 0, .int .i64 0, .int .i64 0, .int .i64 0, .int .i64 0] 89

theorem Kept.new {p g : Nat} {w w' : World} (h : Kept p w w') (hg : w.heap.size ≤ g) (j : Nat) (u : Value) : Kept p w (w'.setCell ⟨g, j, none⟩ u) :=
  ⟨h.os, h.tape, h.output, by have := h.size; simpa [World.setCell] using this, fun k hk hp => by
    have : (w'.setCell ⟨g, j, none⟩ u).heap[k]? = w'.heap[k]? := by simp [World.setCell, Array.getElem?_modify] <;> omega
    rw [this]; exact h.block k hk hp⟩
theorem RD.put {w : World} {rp : Nat} {Q : List PartA} (h : RD w rp Q) {g : Nat} (hg : rp < g) (j : Nat) (u : Value) : RD (w.setCell ⟨g, j, none⟩ u) rp Q := by
  obtain ⟨A, c, r0, h1, h2, h3⟩ := h.ex
  refine ⟨⟨A, c, ?_, h1, h2, ?_⟩, ?_⟩
  · rw [World.cell?_setCell_other _ _ _ _ (by simp <;> omega)]; exact r0
  · intro j' u' hj
    obtain ⟨b, off, ha, hl, hc⟩ := h3 j' u' hj
    exact ⟨b, off, ha, hl, by rw [World.cell?_setCell_other _ _ _ _ (by simp <;> omega)]; exact hc⟩
  · have := h.frozen
    simp [go_sem, this]
/-- An attribute's box, filled. -/
def setA (w : World) (g : Nat) (a0 a1 a2 a3 a4 a5 a6 a7 a8 : Value) : World :=
  ((((((((w.setCell ⟨g, 0, none⟩ a0).setCell ⟨g, 1, none⟩ a1).setCell ⟨g, 2, none⟩ a2).setCell ⟨g, 3, none⟩ a3).setCell ⟨g, 4, none⟩ a4).setCell ⟨g, 5, none⟩ a5).setCell ⟨g, 6, none⟩ a6).setCell ⟨g, 7, none⟩ a7).setCell ⟨g, 8, none⟩ a8
theorem RD.setA {w : World} {rp : Nat} {Q : List PartA} (h : RD w rp Q) {g : Nat} (hg : rp < g) (a0 a1 a2 a3 a4 a5 a6 a7 a8 : Value) : RD (setA w g a0 a1 a2 a3 a4 a5 a6 a7 a8) rp Q :=
  ((((((((h.put hg _ _).put hg _ _).put hg _ _).put hg _ _).put hg _ _).put hg _ _).put hg _ _).put hg _ _).put hg _ _
theorem Kept.setA {p g : Nat} {w w' : World} (h : Kept p w w') (hg : w.heap.size ≤ g) (a0 a1 a2 a3 a4 a5 a6 a7 a8 : Value) : Kept p w (setA w' g a0 a1 a2 a3 a4 a5 a6 a7 a8) :=
  ((((((((h.new hg _ _).new hg _ _).new hg _ _).new hg _ _).new hg _ _).new hg _ _).new hg _ _).new hg _ _).new hg _ _

theorem ne_blk {b b' i j : Nat} (h : b ≠ b') : (⟨b, i, none⟩ : Addr) ≠ ⟨b', j, none⟩ := fun e => h (by cases e; rfl)
theorem kp_set {W : World} {p a : Addr} {v : Value} (x : Value) (hne : p ≠ a) (h : W.cell? a = some v) : (W.setCell p x).cell? a = some v := by
  rw [World.cell?_setCell_other _ _ _ _ hne]; exact h

/-- What attr says. -/
def Attred (v : Value) (o : Bool) (Q' : List PartA) (rp : Nat) (w : World) (e : Ending) (w' : World) : Prop :=
  e = .returned (.tuple #[v, .bool o]) ∧ RD w' rp Q' ∧ Kept rp w w'

set_option maxRecDepth 20000 in
set_option maxHeartbeats 4000000 in
theorem attr_no {w : World} {rp : Nat} {Q : List PartA} (R : RD w rp Q) {n1 n2 n3 n4 n5 Q1 Q2 Q3 Q4 Q5 : List PartA} {o1 o2 o3 o4 o5 : Bool}
    (H1 : Hid (takeP [3, 2] Q = (n1, o1, Q1))) (H2 : Hid (takeP [3] Q1 = (n2, o2, Q2))) (H3 : Hid (takeP [4] Q2 = (n3, o3, Q3))) (H4 : Hid (takeP [3] Q3 = (n4, o4, Q4))) (H5 : Hid (takeP [5] Q4 = (n5, o5, Q5))) (ho : (o1 && o3 && o5) = false) :
    Calls Try.prog 102 #[.pointer (some ⟨rp, 0, none⟩)] w (Attred (attI 0 0 0 0 0 0 0 0 0) false Q rp w) := by
  obtain ⟨⟨A, c, r0, hqc, hcm, hat⟩, hfz⟩ := R
  have hp : rp < w.heap.size := cell_lt r0
  have hp1 : ¬ w.heap.size = rp := by omega
  have hp2 : ¬ w.heap.size + 1 = rp := by omega
  have hp3 : ¬ rp = w.heap.size := by omega
  have hp4 : ¬ rp = w.heap.size + 1 := by omega
  have rd0 : RD ((w.alloc attB).alloc (.cells #[.slice A Q.length c] 128)) rp Q := (⟨⟨A, c, r0, hqc, hcm, hat⟩, hfz⟩ : RD w rp Q).next (two_ok w _ _)
  have hk0 : Kept rp ((w.alloc attB).alloc (.cells #[.slice A Q.length c] 128)) ((w.alloc attB).alloc (.cells #[.slice A Q.length c] 128)) := Kept.refl _ _
  have tok1 : True := trivial
  have hcs : o1 = false ∨ (o1 = true ∧ o3 = false) ∨ (o1 = true ∧ o3 = true ∧ o5 = false) := by cases o1 <;> cases o3 <;> cases o5 <;> simp at ho ⊢
  clear ho
  rcases hcs with rfl | ⟨rfl, rfl⟩ | ⟨rfl, rfl, rfl⟩
  all_goals
   go_enter Try.func102, Try.ntmps102
   go_wp2_with (first
    | (go_at_call 76; (have _t := tok1); (refine (take2 rd0 3 2 H1.out 3 2 rfl rfl _ (by simp)).mono ?_); rintro e w1 ⟨A1, c1, rfl, hl1, at1, rd1, hk1⟩; have hkk1 := hk0.trans hk1; clear tok1 _t; have tok2 : True := trivial)
    | (go_at_call 76; (have _t := tok2); (refine (take1 rd1 3 H2.out 3 rfl _ (by simp)).mono ?_); rintro e w2 ⟨A2, c2, rfl, hl2, at2, rd2, hk2⟩; replace at1 := at1.kept hk2; have hkk2 := hkk1.trans hk2; clear tok2 _t; have tok3 : True := trivial)
    | (go_at_call 76; (have _t := tok3); (refine (take1 rd2 4 H3.out 4 rfl _ (by simp)).mono ?_); rintro e w3 ⟨A3, c3, rfl, hl3, at3, rd3, hk3⟩; replace at1 := at1.kept hk3; have hkk3 := hkk2.trans hk3; clear tok3 _t; have tok4 : True := trivial)
    | (go_at_call 76; (have _t := tok4); (refine (take1 rd3 3 H4.out 3 rfl _ (by simp)).mono ?_); rintro e w4 ⟨A4, c4, rfl, hl4, at4, rd4, hk4⟩; replace at1 := at1.kept hk4; have hkk4 := hkk3.trans hk4; clear tok4 _t; have tok5 : True := trivial)
    | (go_at_call 76; (have _t := tok5); (refine (take1 rd4 5 H5.out 5 rfl _ (by simp)).mono ?_); rintro e w5 ⟨A5, c5, rfl, hl5, at5, rd5, hk5⟩; replace at1 := at1.kept hk5; have hkk5 := hkk4.trans hk5; clear tok5 _t; obtain ⟨kc, kf⟩ := kcell hkk5; have y0 : w5.cell? ⟨w.heap.size, 0, none⟩ = some (.int .i64 0) := (by simp [go_sem, kc, hp1]); have y1 : w5.cell? ⟨w.heap.size, 1, none⟩ = some (.int .i64 0) := (by simp [go_sem, kc, hp1]); have y2 : w5.cell? ⟨w.heap.size, 2, none⟩ = some (.int .i64 0) := (by simp [go_sem, kc, hp1]); have y3 : w5.cell? ⟨w.heap.size, 3, none⟩ = some (.int .i64 0) := (by simp [go_sem, kc, hp1]); have y4 : w5.cell? ⟨w.heap.size, 4, none⟩ = some (.int .i64 0) := (by simp [go_sem, kc, hp1]); have y5 : w5.cell? ⟨w.heap.size, 5, none⟩ = some (.int .i64 0) := (by simp [go_sem, kc, hp1]); have y6 : w5.cell? ⟨w.heap.size, 6, none⟩ = some (.int .i64 0) := (by simp [go_sem, kc, hp1]); have y7 : w5.cell? ⟨w.heap.size, 7, none⟩ = some (.int .i64 0) := (by simp [go_sem, kc, hp1]); have y8 : w5.cell? ⟨w.heap.size, 8, none⟩ = some (.int .i64 0) := (by simp [go_sem, kc, hp1]); have x0 : w5.cell? ⟨w.heap.size + 1, 0, none⟩ = some (.slice A Q.length c) := (by simp [go_sem, kc, hp2]); clear kc; obtain ⟨A', c', rr0, _, _, _⟩ := rd5.ex; have rfz := rd5.frozen))
  all_goals
    have hkw := (Kept.of_below (two_ok w attB _)).trans hkk5
    have hat5 := hat.kept hkw
    refine bodyPost_ret (v := .tuple #[attI 0 0 0 0 0 0 0 0 0, .bool false]) ?_ rfl ⟨rfl, ?_, ?_⟩
    · simp [results, Try.results102, go_sem, y0, y1, y2, y3, y4, y5, y6, y7, y8, hp1, hp3]
    · exact (show RD (w5.setCell ⟨rp, 0, none⟩ (.slice A Q.length c)) rp Q from ⟨⟨A, c, World.cell?_setCell_same _ _ _ rr0, hqc, hcm, hat5.kept ((Kept.refl rp w5).put 0 _)⟩, by simp [go_sem, rfz]⟩).setA hp _ _ _ _ _ _ _ _ _
    · exact (hkw.put 0 _).setA (Nat.le_refl _) _ _ _ _ _ _ _ _ _

set_option maxRecDepth 20000 in
set_option maxHeartbeats 4000000 in
theorem attr_yes {w : World} {rp : Nat} {Q : List PartA} (R : RD w rp Q) {n2 n4 Q1 Q2 Q3 Q4 Q5 n3 : List PartA} {o2 o4 : Bool} {a0 a1 a2 b0 b1 b2 u0 u1 u2 : Nat}
    (H1 : Hid (takeP [3, 2] Q = ([(a0, a1, a2), (b0, b1, b2)], true, Q1))) (H2 : Hid (takeP [3] Q1 = (n2, o2, Q2))) (H3 : Hid (takeP [4] Q2 = (n3, true, Q3))) (H4 : Hid (takeP [3] Q3 = (n4, o4, Q4))) (H5 : Hid (takeP [5] Q4 = ([(u0, u1, u2)], true, Q5))) :
    Calls Try.prog 102 #[.pointer (some ⟨rp, 0, none⟩)] w (Attred (attI b0 b1 b2 u0 u1 u2 7 a1 u2) true Q5 rp w) := by
  obtain ⟨⟨A, c, r0, hqc, hcm, hat⟩, hfz⟩ := R
  have hp : rp < w.heap.size := cell_lt r0
  have hp1 : ¬ w.heap.size = rp := by omega
  have hp2 : ¬ w.heap.size + 1 = rp := by omega
  have hp3 : ¬ rp = w.heap.size := by omega
  have hp4 : ¬ rp = w.heap.size + 1 := by omega
  have rd0 : RD ((w.alloc attB).alloc (.cells #[.slice A Q.length c] 128)) rp Q := (⟨⟨A, c, r0, hqc, hcm, hat⟩, hfz⟩ : RD w rp Q).next (two_ok w _ _)
  have hk0 : Kept rp ((w.alloc attB).alloc (.cells #[.slice A Q.length c] 128)) ((w.alloc attB).alloc (.cells #[.slice A Q.length c] 128)) := Kept.refl _ _
  have tok1 : True := trivial
  go_enter Try.func102, Try.ntmps102
  go_wp2_with (first
    | (go_at_call 76; (have _t := tok1); (refine (take2 rd0 3 2 H1.out 3 2 rfl rfl _ (by simp)).mono ?_); rintro e w1 ⟨A1, c1, rfl, hl1, at1, rd1, hk1⟩; have hkk1 := hk0.trans hk1; clear tok1 _t; have tok2 : True := trivial)
    | (go_at_call 76; (have _t := tok2); (refine (take1 rd1 3 H2.out 3 rfl _ (by simp)).mono ?_); rintro e w2 ⟨A2, c2, rfl, hl2, at2, rd2, hk2⟩; replace at1 := at1.kept hk2; have hkk2 := hkk1.trans hk2; clear tok2 _t; have tok3 : True := trivial)
    | (go_at_call 76; (have _t := tok3); (refine (take1 rd2 4 H3.out 4 rfl _ (by simp)).mono ?_); rintro e w3 ⟨A3, c3, rfl, hl3, at3, rd3, hk3⟩; replace at1 := at1.kept hk3; have hkk3 := hkk2.trans hk3; clear tok3 _t; have tok4 : True := trivial)
    | (go_at_call 76; (have _t := tok4); (refine (take1 rd3 3 H4.out 3 rfl _ (by simp)).mono ?_); rintro e w4 ⟨A4, c4, rfl, hl4, at4, rd4, hk4⟩; replace at1 := at1.kept hk4; have hkk4 := hkk3.trans hk4; clear tok4 _t; have tok5 : True := trivial)
    | (go_at_call 76; (have _t := tok5); (refine (take1 rd4 5 H5.out 5 rfl _ (by simp)).mono ?_); rintro e w5 ⟨A5, c5, rfl, hl5, at5, rd5, hk5⟩; replace at1 := at1.kept hk5; have hkk5 := hkk4.trans hk5; clear tok5 _t; obtain ⟨nb, no, rfl, hnl, m0⟩ := at1 0 _ rfl; obtain ⟨nb1, no1, hq, _, m1⟩ := at1 1 _ rfl; (simp only [Option.some.injEq, Addr.mk.injEq] at hq); obtain ⟨rfl, rfl, _⟩ := hq; obtain ⟨nb3, no3, hq, _, m3⟩ := at1 3 _ rfl; (simp only [Option.some.injEq, Addr.mk.injEq] at hq); obtain ⟨rfl, rfl, _⟩ := hq; obtain ⟨nb4, no4, hq, _, m4⟩ := at1 4 _ rfl; (simp only [Option.some.injEq, Addr.mk.injEq] at hq); obtain ⟨rfl, rfl, _⟩ := hq; obtain ⟨nb5, no5, hq, _, m5⟩ := at1 5 _ rfl; (simp only [Option.some.injEq, Addr.mk.injEq] at hq); obtain ⟨rfl, rfl, _⟩ := hq; obtain ⟨vb, vo, rfl, hvl, v0⟩ := at5 0 _ rfl; obtain ⟨vb1, vo1, hq, _, v1⟩ := at5 1 _ rfl; (simp only [Option.some.injEq, Addr.mk.injEq] at hq); obtain ⟨rfl, rfl, _⟩ := hq; obtain ⟨vb2, vo2, hq, _, v2⟩ := at5 2 _ rfl; (simp only [Option.some.injEq, Addr.mk.injEq] at hq); obtain ⟨rfl, rfl, _⟩ := hq; rw [Nat.add_zero] at v0; clear m0 at1 at5 at2 at3 at4; obtain ⟨kc, kf⟩ := kcell hkk5; have y0 : w5.cell? ⟨w.heap.size, 0, none⟩ = some (.int .i64 0) := (by simp [go_sem, kc, hp1]); have y1 : w5.cell? ⟨w.heap.size, 1, none⟩ = some (.int .i64 0) := (by simp [go_sem, kc, hp1]); have y2 : w5.cell? ⟨w.heap.size, 2, none⟩ = some (.int .i64 0) := (by simp [go_sem, kc, hp1]); have y3 : w5.cell? ⟨w.heap.size, 3, none⟩ = some (.int .i64 0) := (by simp [go_sem, kc, hp1]); have y4 : w5.cell? ⟨w.heap.size, 4, none⟩ = some (.int .i64 0) := (by simp [go_sem, kc, hp1]); have y5 : w5.cell? ⟨w.heap.size, 5, none⟩ = some (.int .i64 0) := (by simp [go_sem, kc, hp1]); have y6 : w5.cell? ⟨w.heap.size, 6, none⟩ = some (.int .i64 0) := (by simp [go_sem, kc, hp1]); have y7 : w5.cell? ⟨w.heap.size, 7, none⟩ = some (.int .i64 0) := (by simp [go_sem, kc, hp1]); have y8 : w5.cell? ⟨w.heap.size, 8, none⟩ = some (.int .i64 0) := (by simp [go_sem, kc, hp1]); clear kc))
  have hn5 : nb < w5.heap.size := cell_lt m1
  have hv5 : vb < w5.heap.size := cell_lt v0
  go_region_held_law (fun W => W.cell? ⟨nb, no + 1, none⟩ = some (.int .i64 a1) ∧ W.cell? ⟨vb, vo + 2, none⟩ = some (.int .i64 u2))
    ((refine ⟨?_, ?_⟩ <;> (repeat (first | (with_reducible assumption) | (with_reducible refine kp_alloc _ ?_) | (with_reducible refine kp_drew ?_) | (with_reducible refine kp_set _ (ne_blk (by omega)) ?_)))))
    (fail)
  obtain ⟨x0, x1, x2⟩ := box3 w5 (.int .i64 7) (.int .i64 a1) (.int .i64 u2) 75
  have hb6 := (one_ok w5 (.cells #[.int .i64 7, .int .i64 a1, .int .i64 u2] 75)).drew
  obtain ⟨W6, hW6⟩ : ∃ W6, W6 = (w5.alloc (.cells #[.int .i64 7, .int .i64 a1, .int .i64 u2] 75)).drew := ⟨_, rfl⟩
  obtain ⟨pp, hpp⟩ : ∃ pp, pp = w5.heap.size := ⟨_, rfl⟩
  replace x0 : W6.cell? ⟨pp, 0, none⟩ = some (.int .i64 7) := by rw [hW6, hpp]; exact x0
  replace x1 : W6.cell? ⟨pp, 1, none⟩ = some (.int .i64 a1) := by rw [hW6, hpp]; exact x1
  replace x2 : W6.cell? ⟨pp, 2, none⟩ = some (.int .i64 u2) := by rw [hW6, hpp]; exact x2
  rw [← hW6] at hb6 ⊢
  rw [← hpp]
  have hpw : w.heap.size + 2 ≤ pp := by rw [hpp]; have := hkk5.size; simp at this; omega
  have hnp : nb < pp := by rw [hpp]; exact hn5
  have hvp : vb < pp := by rw [hpp]; exact hv5
  have hp5 : w.heap.size + 2 ≤ w5.heap.size := by have := hkk5.size; simp at this; omega
  obtain ⟨k1, k2⟩ := bcell hb6
  replace m3 := (k1 _ _ hn5).trans m3
  replace m4 := (k1 _ _ hn5).trans m4
  replace m5 := (k1 _ _ hn5).trans m5
  replace v0 := (k1 _ _ hv5).trans v0
  replace v1 := (k1 _ _ hv5).trans v1
  replace v2 := (k1 _ _ hv5).trans v2
  replace rd5 := rd5.next hb6
  have hkw := ((Kept.of_below (two_ok w attB (.cells #[.slice A Q.length c] 128))).trans hkk5).next hb6
  replace y0 := (k1 w.heap.size 0 (by omega)).trans y0
  replace y1 := (k1 w.heap.size 1 (by omega)).trans y1
  replace y2 := (k1 w.heap.size 2 (by omega)).trans y2
  replace y3 := (k1 w.heap.size 3 (by omega)).trans y3
  replace y4 := (k1 w.heap.size 4 (by omega)).trans y4
  replace y5 := (k1 w.heap.size 5 (by omega)).trans y5
  replace y6 := (k1 w.heap.size 6 (by omega)).trans y6
  replace y7 := (k1 w.heap.size 7 (by omega)).trans y7
  replace y8 := (k1 w.heap.size 8 (by omega)).trans y8
  have z0 : W6.frozen? ⟨w.heap.size, 0, none⟩ = false := by rw [k2 w.heap.size 0 (by omega), kf w.heap.size 0 (by simp; omega) (by omega)]; simp [go_sem]
  have z1 : W6.frozen? ⟨w.heap.size, 1, none⟩ = false := by rw [k2 w.heap.size 1 (by omega), kf w.heap.size 1 (by simp; omega) (by omega)]; simp [go_sem]
  have z2 : W6.frozen? ⟨w.heap.size, 2, none⟩ = false := by rw [k2 w.heap.size 2 (by omega), kf w.heap.size 2 (by simp; omega) (by omega)]; simp [go_sem]
  have z3 : W6.frozen? ⟨w.heap.size, 3, none⟩ = false := by rw [k2 w.heap.size 3 (by omega), kf w.heap.size 3 (by simp; omega) (by omega)]; simp [go_sem]
  have z4 : W6.frozen? ⟨w.heap.size, 4, none⟩ = false := by rw [k2 w.heap.size 4 (by omega), kf w.heap.size 4 (by simp; omega) (by omega)]; simp [go_sem]
  have z5 : W6.frozen? ⟨w.heap.size, 5, none⟩ = false := by rw [k2 w.heap.size 5 (by omega), kf w.heap.size 5 (by simp; omega) (by omega)]; simp [go_sem]
  have z6 : W6.frozen? ⟨w.heap.size, 6, none⟩ = false := by rw [k2 w.heap.size 6 (by omega), kf w.heap.size 6 (by simp; omega) (by omega)]; simp [go_sem]
  have z7 : W6.frozen? ⟨w.heap.size, 7, none⟩ = false := by rw [k2 w.heap.size 7 (by omega), kf w.heap.size 7 (by simp; omega) (by omega)]; simp [go_sem]
  have z8 : W6.frozen? ⟨w.heap.size, 8, none⟩ = false := by rw [k2 w.heap.size 8 (by omega), kf w.heap.size 8 (by simp; omega) (by omega)]; simp [go_sem]
  clear hpp k1 k2 kf hW6 hb6 hkk1 hkk2 hkk3 hkk4 hkk5 hk0 hk1 hk2 hk3 hk4 hk5 r0 hqc hcm hat hfz rd0 rd1 rd2 rd3 rd4 m1
  go_wp2
  go_region_held_law (fun W => W.cell? ⟨nb, no + 3, none⟩ = some (.int .i64 b0) ∧ W.cell? ⟨nb, no + 4, none⟩ = some (.int .i64 b1) ∧ W.cell? ⟨nb, no + 5, none⟩ = some (.int .i64 b2) ∧ W.cell? ⟨vb, vo, none⟩ = some (.int .i64 u0) ∧ W.cell? ⟨vb, vo + 1, none⟩ = some (.int .i64 u1) ∧ W.cell? ⟨vb, vo + 2, none⟩ = some (.int .i64 u2) ∧ W.cell? ⟨pp, 0, none⟩ = some (.int .i64 7) ∧ W.cell? ⟨pp, 1, none⟩ = some (.int .i64 a1) ∧ W.cell? ⟨pp, 2, none⟩ = some (.int .i64 u2))
    ((refine ⟨?_, ?_, ?_, ?_, ?_, ?_, ?_, ?_, ?_⟩ <;> (repeat (first | (with_reducible assumption) | (with_reducible refine kp_alloc _ ?_) | (with_reducible refine kp_drew ?_) | (with_reducible refine kp_set _ (ne_blk (by omega)) ?_)))))
    (fail)
  go_wp2
  have hd := (Below.refl (setA W6 w.heap.size (.int .i64 b0) (.int .i64 b1) (.int .i64 b2) (.int .i64 u0) (.int .i64 u1) (.int .i64 u2) (.int .i64 7) (.int .i64 a1) (.int .i64 u2)).heap.size (setA W6 w.heap.size (.int .i64 b0) (.int .i64 b1) (.int .i64 b2) (.int .i64 u0) (.int .i64 u1) (.int .i64 u2) (.int .i64 7) (.int .i64 a1) (.int .i64 u2))).drew
  refine bodyPost_ret (v := .tuple #[attI b0 b1 b2 u0 u1 u2 7 a1 u2, .bool true]) ?_ rfl ⟨rfl, ?_, ?_⟩
  · simp [results, Try.results102, go_sem, y0, y1, y2, y3, y4, y5, y6, y7, y8]
  · exact (rd5.setA hp _ _ _ _ _ _ _ _ _).next hd
  · exact (hkw.setA (Nat.le_refl _) _ _ _ _ _ _ _ _ _).next hd

end Go.Proofs.Ytblebkpnjeghoaa
