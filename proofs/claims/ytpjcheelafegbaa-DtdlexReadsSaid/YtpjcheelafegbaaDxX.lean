/-
  Contracts of layer 9: what names something outside, its other ways.
-/
import Derived.Test.YtpjcheelafegbaaDxW
import Derived.Deep.RegionHeldLaw
namespace Go.Proofs.Ytpjcheelafegbaa
open Go.RowKit
set_option linter.unusedVariables false

/-- The three boxes of outside: two results and the reader's copy. -/
structure OT (w W : World) (u0 u1 : Value) : Prop where
  size : w.heap.size + 2 < W.heap.size
  p : ∀ i, i < 3 → W.cell? ⟨w.heap.size, i, none⟩ = some (.int .i64 0)
  s : ∀ i, i < 3 → W.cell? ⟨w.heap.size + 1, i, none⟩ = some (.int .i64 0)
  c0 : W.cell? ⟨w.heap.size + 1 + 1, 0, none⟩ = some u0
  c1 : W.cell? ⟨w.heap.size + 1 + 1, 1, none⟩ = some u1
  z : ∀ j i, j < 3 → W.frozen? ⟨w.heap.size + j, i, none⟩ = false
theorem OT.kept {w W W' : World} {u0 u1 : Value} {rp : Nat} (h : OT w W u0 u1) (hk : Kept rp W W') (hlt : rp < w.heap.size) : OT w W' u0 u1 := by
  obtain ⟨k1, k2⟩ := kcell hk
  have hs := h.size
  exact ⟨Nat.lt_of_lt_of_le h.size hk.size, fun i hi => (k1 _ _ (by omega) (by omega)).trans (h.p i hi), fun i hi => (k1 _ _ (by omega) (by omega)).trans (h.s i hi), (k1 _ _ (by omega) (by omega)).trans h.c0, (k1 _ _ (by omega) (by omega)).trans h.c1, fun j i hj => (k2 _ _ (by omega) (by omega)).trans (h.z j i hj)⟩
theorem OT.new (w : World) (u0 u1 : Value) (e : TypeId) : OT w (((w.alloc zparB).alloc zparB).alloc (.cells #[u0, u1] e)) u0 u1 := by
  refine ⟨by simp, fun i hi => ?_, fun i hi => ?_, by simp [go_sem], by simp [go_sem], fun j i hj => ?_⟩
  · match i, hi with
    | 0, _ => simp [go_sem]
    | 1, _ => simp [go_sem]
    | 2, _ => simp [go_sem]
  · match i, hi with
    | 0, _ => simp [go_sem]
    | 1, _ => simp [go_sem]
    | 2, _ => simp [go_sem]
  · match j, hj with
    | 0, _ => simp [go_sem]
    | 1, _ => simp [go_sem]
    | 2, _ => simp [go_sem]
theorem OT.facts {w W : World} {u0 u1 : Value} (h : OT w W u0 u1) : W.cell? ⟨w.heap.size, 0, none⟩ = some (.int .i64 0) ∧ W.cell? ⟨w.heap.size, 1, none⟩ = some (.int .i64 0) ∧ W.cell? ⟨w.heap.size, 2, none⟩ = some (.int .i64 0) ∧
    W.cell? ⟨w.heap.size + 1, 0, none⟩ = some (.int .i64 0) ∧ W.cell? ⟨w.heap.size + 1, 1, none⟩ = some (.int .i64 0) ∧ W.cell? ⟨w.heap.size + 1, 2, none⟩ = some (.int .i64 0) ∧
    W.cell? ⟨w.heap.size + 1 + 1, 0, none⟩ = some u0 ∧ W.cell? ⟨w.heap.size + 1 + 1, 1, none⟩ = some u1 ∧ (∀ i, W.frozen? ⟨w.heap.size, i, none⟩ = false) ∧ (∀ i, W.frozen? ⟨w.heap.size + 1, i, none⟩ = false) ∧ w.heap.size < W.heap.size ∧ w.heap.size + 1 < W.heap.size ∧ w.heap.size + 1 + 1 < W.heap.size :=
  ⟨h.p 0 (by omega), h.p 1 (by omega), h.p 2 (by omega), h.s 0 (by omega), h.s 1 (by omega), h.s 2 (by omega), h.c0, h.c1, fun i => h.z 0 i (by omega), fun i => h.z 1 i (by omega), by have := h.size; omega, by have := h.size; omega, by have := h.size; omega⟩
/-- A taken part's three cells. -/
theorem tcells {w : World} {rp : Nat} {A : Option Addr} {n : List PartA} {k a b c : Nat} (h : AtB w rp A (parsCells n)) (hx : n[k]? = some (a, b, c)) : ∃ pb po, A = some ⟨pb, po, none⟩ ∧ pb < rp ∧ w.cell? ⟨pb, po + k * 3, none⟩ = some (.int .i64 a) ∧ w.cell? ⟨pb, po + (k * 3 + 1), none⟩ = some (.int .i64 b) ∧ w.cell? ⟨pb, po + (k * 3 + 2), none⟩ = some (.int .i64 c) := by
  obtain ⟨b1, o1, e1, h1, c1⟩ := h (k * 3 + 0) (.int .i64 a) (by rw [parsCells_at n k _ 0 hx (by omega)]; rfl)
  obtain ⟨b2, o2, e2, _, c2⟩ := h (k * 3 + 1) (.int .i64 b) (by rw [parsCells_at n k _ 1 hx (by omega)]; rfl)
  obtain ⟨b3, o3, e3, _, c3⟩ := h (k * 3 + 2) (.int .i64 c) (by rw [parsCells_at n k _ 2 hx (by omega)]; rfl)
  subst e1
  simp only [Option.some.injEq, Addr.mk.injEq] at e2 e3
  obtain ⟨rfl, rfl, _⟩ := e2
  obtain ⟨rfl, rfl, _⟩ := e3
  exact ⟨b1, o1, rfl, h1, c1, c2, c3⟩

section
variable {w : World} {rp : Nat} {b off n cap : Nat} {l : List Int} {Q : List PartA}

set_option maxRecDepth 20000 in
set_option maxHeartbeats 4000000 in
theorem out_sys (h : RF w rp (some ⟨b, off, none⟩) n cap l Q) (hn : n ≤ 1000) {x1 x3 : PartA} {k1 f1 t1 k3 f3 t3 : Nat} {Q4 : List PartA} (h4 : takeP [3, 2, 3, 4] Q = ([x1, (k1, f1, t1), x3, (k3, f3, t3)], true, Q4)) (hft1 : f1 ≤ t1) (htn1 : t1 ≤ n) (hI : isP l (k1, f1, t1) ⟨#[83, 89, 83, 84, 69, 77]⟩ = true) :
    Calls Try.prog 45 #[.pointer (some ⟨rp, 0, none⟩)] w (ReadsQ rp (some ⟨b, off, none⟩) n cap l Q4 w (.tuple #[parI 0 0 0, parI k3 f3 t3])) := by
  have hlt := h.lt
  obtain ⟨A, c, r1, r2, r3, r4⟩ := h.rest.ex
  have cc0 := h.c0
  have R0 := h.next (three_ok w zparB zparB (.cells #[.slice (some ⟨b, off, none⟩) n cap, .slice A Q.length c] 76))
  have K0 := Kept.of_below (p := rp) (three_ok w zparB zparB (.cells #[.slice (some ⟨b, off, none⟩) n cap, .slice A Q.length c] 76))
  have O0 := OT.new w (.slice (some ⟨b, off, none⟩) n cap) (.slice A Q.length c) 76
  have n1 : ¬ rp = w.heap.size := by omega
  have n2 : ¬ rp = w.heap.size + 1 := by omega
  have n3 : ¬ rp = w.heap.size + 2 := by omega
  have m1 : rp < w.heap.size := hlt
  have m2 : rp < w.heap.size + 1 := by omega
  have g2 : w.heap.size ≤ w.heap.size + 1 := by omega
  have HSEC := Lib.hid (And.intro h.len (And.intro h.le h.max))
  have HT0 := Lib.hid (fun (W : World) (R : RE W rp _) (g : Nat) (hg : g = W.heap.size) => takeDK R [3, 2, 3, 4] (by decide) (by decide) h4 #[.int .i64 3, .int .i64 2, .int .i64 3, .int .i64 4] rfl 4 rfl g hg)
  have HI0 := Lib.hid (fun (W : World) {Q' : List PartA} (R : RF W rp (some ⟨b, off, none⟩) n cap l Q') => isD_any R (s := ⟨#[83, 89, 83, 84, 69, 77]⟩) (Sign.of (by decide)) k1 f1 t1 hft1 htn1 hn hI)
  have HR0 := Lib.hid R0
  have HK0 := Lib.hid K0
  have HOT0 := Lib.hid O0
  have HAT := Lib.hid (And.intro r2 (And.intro r3 r4))
  obtain ⟨q, hq⟩ : ∃ q, q = Q.length := ⟨_, rfl⟩
  have HQ := Lib.hid hq
  have tk0 : True := trivial
  rw [← hq] at r1 HR0 HK0 HOT0
  clear h R0 K0 O0 r2 r3 r4 hq h4 hI
  go_enter Try.func45, Try.ntmps45
  go_wp2_with (first
    | (go_at_call 44; (have _t := tk0; (with_reducible refine (HT0.out _ HR0.out.rest _ (by simp)).mono ?_); rintro e w1 ⟨A1, c1, rfl, _, hat1, hre1, hk1, hc1⟩; clear tk0 _t; have tk1 : True := trivial; have HR1 := Lib.hid (HR0.out.took hre1 hk1 hc1); have HK1 := Lib.hid (HK0.out.trans hk1); have HOT1 := Lib.hid (HOT0.out.kept hk1 hlt); have HN1 := Lib.hid hat1; obtain ⟨pb, po, hpa, hpb, g10, g11, g12⟩ := tcells HN1.out (k := 1) rfl; subst hpa; (simp only [Nat.reduceMul, Nat.reduceAdd] at g10 g11 g12); clear hat1 hre1 hk1 hc1; (try clear p0 p1 p2 s0 s1 s2 e0 e1 zp zs z0 z1 z2); obtain ⟨p0, p1, p2, s0, s1, s2, e0, e1, zp, zs, z0, z1, z2⟩ := HOT1.out.facts; (try clear A' c' r0' r4' c00 f00 hltx); obtain ⟨A', c', r0', _⟩ := HR1.out.rest.ex; have r4' := HR1.out.rest.frozen; have c00 := HR1.out.c0; have f00 := HR1.out.f0; have hltx := HR1.out.lt; skip))
    | (go_at_call 72; (have _t := tk1; (with_reducible refine (HI0.out _ HR1.out).mono ?_); rintro e w2 ⟨rfl, hb2⟩; clear tk1 _t; have tk2 : True := trivial; have HR2 := Lib.hid (HR1.out.next hb2); have HK2 := Lib.hid (HK1.out.next hb2); have HOT2 := Lib.hid (HOT1.out.kept (Kept.of_below hb2) hlt); have HN2 := Lib.hid (HN1.out.kept (Kept.of_below hb2)); clear hb2; (try clear g10 g11 g12); (try clear g30 g31 g32); obtain ⟨pb', po', hpa, _, g30, g31, g32⟩ := tcells HN2.out (k := 3) rfl; (simp only [Option.some.injEq, Addr.mk.injEq] at hpa); obtain ⟨rfl, rfl, _⟩ := hpa; (simp only [Nat.reduceMul, Nat.reduceAdd] at g30 g31 g32); (try clear p0 p1 p2 s0 s1 s2 e0 e1 zp zs z0 z1 z2); obtain ⟨p0, p1, p2, s0, s1, s2, e0, e1, zp, zs, z0, z1, z2⟩ := HOT2.out.facts; (try clear A' c' r0' r4' c00 f00 hltx); obtain ⟨A', c', r0', _⟩ := HR2.out.rest.ex; have r4' := HR2.out.rest.frozen; have c00 := HR2.out.c0; have f00 := HR2.out.f0; have hltx := HR2.out.lt; skip)))
  have nb1 : ¬ w.heap.size = pb := by omega
  have nb2 : ¬ w.heap.size + 1 = pb := by omega
  go_region_held_law (fun W => W.cell? ⟨pb, po + 9, none⟩ = some (.int .i64 k3) ∧ W.cell? ⟨pb, po + 10, none⟩ = some (.int .i64 f3) ∧ W.cell? ⟨pb, po + 11, none⟩ = some (.int .i64 t3))
    ((refine ⟨?_, ?_, ?_⟩ <;> (repeat (first | (with_reducible assumption) | (with_reducible refine kp_drew ?_) | (with_reducible refine kp_set _ (ne_blk (by omega)) ?_)))))
    (fail)
  go_wp2_with fail
  refine bodyPost_ret (v := .tuple #[parI 0 0 0, parI k3 f3 t3]) ?_ rfl ⟨rfl, ((((((HR2.out.set m1 0 _).set m1 1 _).set m1 2 _).set m2 0 _).set m2 1 _).set m2 2 _).next (Below.refl _ _).drew, ((((((HK2.out.setNew (Nat.le_refl _) _).setNew (Nat.le_refl _) _).setNew (Nat.le_refl _) _).setNew g2 _).setNew g2 _).setNew g2 _).next (Below.refl _ _).drew⟩
  simp [results, Try.results45, go_sem, p0, p1, p2, s0, s1, s2, n1, n2, parI]

set_option maxRecDepth 20000 in
set_option maxHeartbeats 4000000 in
theorem out_no6 (h : RF w rp (some ⟨b, off, none⟩) n cap l Q) (hn : n ≤ 1000) {x1 x3 x4 : PartA} {k1 f1 t1 : Nat} {Q4 : List PartA} (h4 : takeP [3, 2, 3, 4] Q = ([x1, (k1, f1, t1), x3, x4], true, Q4)) (hft1 : f1 ≤ t1) (htn1 : t1 ≤ n) (hI : isP l (k1, f1, t1) ⟨#[83, 89, 83, 84, 69, 77]⟩ = false) (h6 : takeP [3, 2, 3, 4, 3, 4] Q = ([], false, Q)) :
    Calls Try.prog 45 #[.pointer (some ⟨rp, 0, none⟩)] w (ReadsQ rp (some ⟨b, off, none⟩) n cap l Q w (.tuple #[parI 0 0 0, parI 0 0 0])) := by
  have hlt := h.lt
  obtain ⟨A, c, r1, r2, r3, r4⟩ := h.rest.ex
  have cc0 := h.c0
  have R0 := h.next (three_ok w zparB zparB (.cells #[.slice (some ⟨b, off, none⟩) n cap, .slice A Q.length c] 76))
  have K0 := Kept.of_below (p := rp) (three_ok w zparB zparB (.cells #[.slice (some ⟨b, off, none⟩) n cap, .slice A Q.length c] 76))
  have O0 := OT.new w (.slice (some ⟨b, off, none⟩) n cap) (.slice A Q.length c) 76
  have n1 : ¬ rp = w.heap.size := by omega
  have n2 : ¬ rp = w.heap.size + 1 := by omega
  have n3 : ¬ rp = w.heap.size + 2 := by omega
  have m1 : rp < w.heap.size := hlt
  have m2 : rp < w.heap.size + 1 := by omega
  have g2 : w.heap.size ≤ w.heap.size + 1 := by omega
  have HSEC := Lib.hid (And.intro h.len (And.intro h.le h.max))
  have HT0 := Lib.hid (fun (W : World) (R : RE W rp _) (g : Nat) (hg : g = W.heap.size) => takeDK R [3, 2, 3, 4] (by decide) (by decide) h4 #[.int .i64 3, .int .i64 2, .int .i64 3, .int .i64 4] rfl 4 rfl g hg)
  have HI0 := Lib.hid (fun (W : World) {Q' : List PartA} (R : RF W rp (some ⟨b, off, none⟩) n cap l Q') => isD_any R (s := ⟨#[83, 89, 83, 84, 69, 77]⟩) (Sign.of (by decide)) k1 f1 t1 hft1 htn1 hn hI)
  have HT1 := Lib.hid (fun (W : World) (R : RE W rp _) (g : Nat) (hg : g = W.heap.size) => takeDK R [3, 2, 3, 4, 3, 4] (by decide) (by decide) h6 #[.int .i64 3, .int .i64 2, .int .i64 3, .int .i64 4, .int .i64 3, .int .i64 4] rfl 6 rfl g hg)
  have HR0 := Lib.hid R0
  have HK0 := Lib.hid K0
  have HOT0 := Lib.hid O0
  have HAT := Lib.hid (And.intro r2 (And.intro r3 r4))
  obtain ⟨q, hq⟩ : ∃ q, q = Q.length := ⟨_, rfl⟩
  have HQ := Lib.hid hq
  have tk0 : True := trivial
  rw [← hq] at r1 HR0 HK0 HOT0
  clear h R0 K0 O0 r2 r3 r4 hq h4 hI h6
  go_enter Try.func45, Try.ntmps45
  go_wp2_with (first
    | (go_at_call 44; (have _t := tk0; (with_reducible refine (HT0.out _ HR0.out.rest _ (by simp)).mono ?_); rintro e w1 ⟨A1, c1, rfl, _, hat1, hre1, hk1, hc1⟩; clear tk0 _t; have tk1 : True := trivial; have HR1 := Lib.hid (HR0.out.took hre1 hk1 hc1); have HK1 := Lib.hid (HK0.out.trans hk1); have HOT1 := Lib.hid (HOT0.out.kept hk1 hlt); have HN1 := Lib.hid hat1; obtain ⟨pb, po, hpa, hpb, g10, g11, g12⟩ := tcells HN1.out (k := 1) rfl; subst hpa; (simp only [Nat.reduceMul, Nat.reduceAdd] at g10 g11 g12); clear hat1 hre1 hk1 hc1; (try clear p0 p1 p2 s0 s1 s2 e0 e1 zp zs z0 z1 z2); obtain ⟨p0, p1, p2, s0, s1, s2, e0, e1, zp, zs, z0, z1, z2⟩ := HOT1.out.facts; (try clear A' c' r0' r4' c00 f00 hltx); obtain ⟨A', c', r0', _⟩ := HR1.out.rest.ex; have r4' := HR1.out.rest.frozen; have c00 := HR1.out.c0; have f00 := HR1.out.f0; have hltx := HR1.out.lt; skip))
    | (go_at_call 72; (have _t := tk1; (with_reducible refine (HI0.out _ HR1.out).mono ?_); rintro e w2 ⟨rfl, hb2⟩; clear tk1 _t; have tk2 : True := trivial; have HR2 := Lib.hid (HR1.out.next hb2); have HK2 := Lib.hid (HK1.out.next hb2); have HOT2 := Lib.hid (HOT1.out.kept (Kept.of_below hb2) hlt); have HN2 := Lib.hid (HN1.out.kept (Kept.of_below hb2)); clear hb2; (try clear g10 g11 g12); (try clear g30 g31 g32); (try clear p0 p1 p2 s0 s1 s2 e0 e1 zp zs z0 z1 z2); obtain ⟨p0, p1, p2, s0, s1, s2, e0, e1, zp, zs, z0, z1, z2⟩ := HOT2.out.facts; (try clear A' c' r0' r4' c00 f00 hltx); obtain ⟨A', c', r0', _⟩ := HR2.out.rest.ex; have r4' := HR2.out.rest.frozen; have c00 := HR2.out.c0; have f00 := HR2.out.f0; have hltx := HR2.out.lt; skip))
    | (go_at_call 44; (have _t := tk2; have hrb := HR2.out.back HAT.out.1 HAT.out.2.1 (HAT.out.2.2.kept HK2.out); rw [← HQ.out] at hrb; (with_reducible refine (HT1.out _ hrb.rest _ (by simp)).mono ?_); rintro e w3 ⟨A3, c3, rfl, _, hat3, hre3, hk3, hc3⟩; clear tk2 _t; have tk3 : True := trivial; have HR3 := Lib.hid (hrb.took hre3 hk3 hc3); have HK3 := Lib.hid (((HK2.out.put 0 _).put 1 _).trans hk3); have HOT3 := Lib.hid ((HOT2.out.kept (((Kept.refl rp w2).put 0 _).put 1 _) hlt).kept hk3 hlt); clear hrb; clear hat3 hre3 hk3 hc3; (try clear p0 p1 p2 s0 s1 s2 e0 e1 zp zs z0 z1 z2); obtain ⟨p0, p1, p2, s0, s1, s2, e0, e1, zp, zs, z0, z1, z2⟩ := HOT3.out.facts; (try clear A' c' r0' r4' c00 f00 hltx); obtain ⟨A', c', r0', _⟩ := HR3.out.rest.ex; have r4' := HR3.out.rest.frozen; have c00 := HR3.out.c0; have f00 := HR3.out.f0; have hltx := HR3.out.lt; skip)))
  have hrb := HR3.out.back HAT.out.1 HAT.out.2.1 (HAT.out.2.2.kept HK3.out)
  rw [← HQ.out] at hrb
  refine bodyPost_ret (v := .tuple #[parI 0 0 0, parI 0 0 0]) ?_ rfl ⟨rfl, (((((hrb.set m1 0 _).set m1 1 _).set m1 2 _).set m2 0 _).set m2 1 _).set m2 2 _, ((((((((HK3.out.put 0 _).put 1 _).setNew (Nat.le_refl _) _).setNew (Nat.le_refl _) _).setNew (Nat.le_refl _) _).setNew g2 _).setNew g2 _).setNew g2 _)⟩
  simp [results, Try.results45, go_sem, p0, p1, p2, s0, s1, s2, n1, n2, parI]

set_option maxRecDepth 20000 in
set_option maxHeartbeats 4000000 in
theorem out_nokey (h : RF w rp (some ⟨b, off, none⟩) n cap l Q) (hn : n ≤ 1000) {x1 x3 x4 : PartA} {k1 f1 t1 : Nat} {Q4 : List PartA} (h4 : takeP [3, 2, 3, 4] Q = ([x1, (k1, f1, t1), x3, x4], true, Q4)) (hft1 : f1 ≤ t1) (htn1 : t1 ≤ n) (hI : isP l (k1, f1, t1) ⟨#[83, 89, 83, 84, 69, 77]⟩ = false) {y1 y3 y4 y5 y6 : PartA} {Q6 : List PartA} (h6 : takeP [3, 2, 3, 4, 3, 4] Q = ([y1, (k1, f1, t1), y3, y4, y5, y6], true, Q6)) (hJ : isP l (k1, f1, t1) ⟨#[80, 85, 66, 76, 73, 67]⟩ = false) :
    Calls Try.prog 45 #[.pointer (some ⟨rp, 0, none⟩)] w (ReadsQ rp (some ⟨b, off, none⟩) n cap l Q w (.tuple #[parI 0 0 0, parI 0 0 0])) := by
  have hlt := h.lt
  obtain ⟨A, c, r1, r2, r3, r4⟩ := h.rest.ex
  have cc0 := h.c0
  have R0 := h.next (three_ok w zparB zparB (.cells #[.slice (some ⟨b, off, none⟩) n cap, .slice A Q.length c] 76))
  have K0 := Kept.of_below (p := rp) (three_ok w zparB zparB (.cells #[.slice (some ⟨b, off, none⟩) n cap, .slice A Q.length c] 76))
  have O0 := OT.new w (.slice (some ⟨b, off, none⟩) n cap) (.slice A Q.length c) 76
  have n1 : ¬ rp = w.heap.size := by omega
  have n2 : ¬ rp = w.heap.size + 1 := by omega
  have n3 : ¬ rp = w.heap.size + 2 := by omega
  have m1 : rp < w.heap.size := hlt
  have m2 : rp < w.heap.size + 1 := by omega
  have g2 : w.heap.size ≤ w.heap.size + 1 := by omega
  have HSEC := Lib.hid (And.intro h.len (And.intro h.le h.max))
  have HT0 := Lib.hid (fun (W : World) (R : RE W rp _) (g : Nat) (hg : g = W.heap.size) => takeDK R [3, 2, 3, 4] (by decide) (by decide) h4 #[.int .i64 3, .int .i64 2, .int .i64 3, .int .i64 4] rfl 4 rfl g hg)
  have HI0 := Lib.hid (fun (W : World) {Q' : List PartA} (R : RF W rp (some ⟨b, off, none⟩) n cap l Q') => isD_any R (s := ⟨#[83, 89, 83, 84, 69, 77]⟩) (Sign.of (by decide)) k1 f1 t1 hft1 htn1 hn hI)
  have HT1 := Lib.hid (fun (W : World) (R : RE W rp _) (g : Nat) (hg : g = W.heap.size) => takeDK R [3, 2, 3, 4, 3, 4] (by decide) (by decide) h6 #[.int .i64 3, .int .i64 2, .int .i64 3, .int .i64 4, .int .i64 3, .int .i64 4] rfl 6 rfl g hg)
  have HI1 := Lib.hid (fun (W : World) {Q' : List PartA} (R : RF W rp (some ⟨b, off, none⟩) n cap l Q') => isD_any R (s := ⟨#[80, 85, 66, 76, 73, 67]⟩) (Sign.of (by decide)) k1 f1 t1 hft1 htn1 hn hJ)
  have HR0 := Lib.hid R0
  have HK0 := Lib.hid K0
  have HOT0 := Lib.hid O0
  have HAT := Lib.hid (And.intro r2 (And.intro r3 r4))
  obtain ⟨q, hq⟩ : ∃ q, q = Q.length := ⟨_, rfl⟩
  have HQ := Lib.hid hq
  have tk0 : True := trivial
  rw [← hq] at r1 HR0 HK0 HOT0
  clear h R0 K0 O0 r2 r3 r4 hq h4 hI h6 hJ
  go_enter Try.func45, Try.ntmps45
  go_wp2_with (first
    | (go_at_call 44; (have _t := tk0; (with_reducible refine (HT0.out _ HR0.out.rest _ (by simp)).mono ?_); rintro e w1 ⟨A1, c1, rfl, _, hat1, hre1, hk1, hc1⟩; clear tk0 _t; have tk1 : True := trivial; have HR1 := Lib.hid (HR0.out.took hre1 hk1 hc1); have HK1 := Lib.hid (HK0.out.trans hk1); have HOT1 := Lib.hid (HOT0.out.kept hk1 hlt); have HN1 := Lib.hid hat1; obtain ⟨pb, po, hpa, hpb, g10, g11, g12⟩ := tcells HN1.out (k := 1) rfl; subst hpa; (simp only [Nat.reduceMul, Nat.reduceAdd] at g10 g11 g12); clear hat1 hre1 hk1 hc1; (try clear p0 p1 p2 s0 s1 s2 e0 e1 zp zs z0 z1 z2); obtain ⟨p0, p1, p2, s0, s1, s2, e0, e1, zp, zs, z0, z1, z2⟩ := HOT1.out.facts; (try clear A' c' r0' r4' c00 f00 hltx); obtain ⟨A', c', r0', _⟩ := HR1.out.rest.ex; have r4' := HR1.out.rest.frozen; have c00 := HR1.out.c0; have f00 := HR1.out.f0; have hltx := HR1.out.lt; skip))
    | (go_at_call 72; (have _t := tk1; (with_reducible refine (HI0.out _ HR1.out).mono ?_); rintro e w2 ⟨rfl, hb2⟩; clear tk1 _t; have tk2 : True := trivial; have HR2 := Lib.hid (HR1.out.next hb2); have HK2 := Lib.hid (HK1.out.next hb2); have HOT2 := Lib.hid (HOT1.out.kept (Kept.of_below hb2) hlt); have HN2 := Lib.hid (HN1.out.kept (Kept.of_below hb2)); clear hb2; (try clear g10 g11 g12); (try clear g30 g31 g32); (try clear p0 p1 p2 s0 s1 s2 e0 e1 zp zs z0 z1 z2); obtain ⟨p0, p1, p2, s0, s1, s2, e0, e1, zp, zs, z0, z1, z2⟩ := HOT2.out.facts; (try clear A' c' r0' r4' c00 f00 hltx); obtain ⟨A', c', r0', _⟩ := HR2.out.rest.ex; have r4' := HR2.out.rest.frozen; have c00 := HR2.out.c0; have f00 := HR2.out.f0; have hltx := HR2.out.lt; skip))
    | (go_at_call 44; (have _t := tk2; have hrb := HR2.out.back HAT.out.1 HAT.out.2.1 (HAT.out.2.2.kept HK2.out); rw [← HQ.out] at hrb; (with_reducible refine (HT1.out _ hrb.rest _ (by simp)).mono ?_); rintro e w3 ⟨A3, c3, rfl, _, hat3, hre3, hk3, hc3⟩; clear tk2 _t; have tk3 : True := trivial; have HR3 := Lib.hid (hrb.took hre3 hk3 hc3); have HK3 := Lib.hid (((HK2.out.put 0 _).put 1 _).trans hk3); have HOT3 := Lib.hid ((HOT2.out.kept (((Kept.refl rp w2).put 0 _).put 1 _) hlt).kept hk3 hlt); clear hrb; have HN3 := Lib.hid hat3; obtain ⟨pb, po, hpa, hpb, g10, g11, g12⟩ := tcells HN3.out (k := 1) rfl; subst hpa; (simp only [Nat.reduceMul, Nat.reduceAdd] at g10 g11 g12); clear hat3 hre3 hk3 hc3; (try clear p0 p1 p2 s0 s1 s2 e0 e1 zp zs z0 z1 z2); obtain ⟨p0, p1, p2, s0, s1, s2, e0, e1, zp, zs, z0, z1, z2⟩ := HOT3.out.facts; (try clear A' c' r0' r4' c00 f00 hltx); obtain ⟨A', c', r0', _⟩ := HR3.out.rest.ex; have r4' := HR3.out.rest.frozen; have c00 := HR3.out.c0; have f00 := HR3.out.f0; have hltx := HR3.out.lt; skip))
    | (go_at_call 72; (have _t := tk3; (with_reducible refine (HI1.out _ HR3.out).mono ?_); rintro e w4 ⟨rfl, hb4⟩; clear tk3 _t; have tk4 : True := trivial; have HR4 := Lib.hid (HR3.out.next hb4); have HK4 := Lib.hid (HK3.out.next hb4); have HOT4 := Lib.hid (HOT3.out.kept (Kept.of_below hb4) hlt); have HN4 := Lib.hid (HN3.out.kept (Kept.of_below hb4)); clear hb4; (try clear g10 g11 g12); (try clear g30 g31 g32); (try clear p0 p1 p2 s0 s1 s2 e0 e1 zp zs z0 z1 z2); obtain ⟨p0, p1, p2, s0, s1, s2, e0, e1, zp, zs, z0, z1, z2⟩ := HOT4.out.facts; (try clear A' c' r0' r4' c00 f00 hltx); obtain ⟨A', c', r0', _⟩ := HR4.out.rest.ex; have r4' := HR4.out.rest.frozen; have c00 := HR4.out.c0; have f00 := HR4.out.f0; have hltx := HR4.out.lt; skip)))
  have hrb := HR4.out.back HAT.out.1 HAT.out.2.1 (HAT.out.2.2.kept HK4.out)
  rw [← HQ.out] at hrb
  refine bodyPost_ret (v := .tuple #[parI 0 0 0, parI 0 0 0]) ?_ rfl ⟨rfl, (((((hrb.set m1 0 _).set m1 1 _).set m1 2 _).set m2 0 _).set m2 1 _).set m2 2 _, ((((((((HK4.out.put 0 _).put 1 _).setNew (Nat.le_refl _) _).setNew (Nat.le_refl _) _).setNew (Nat.le_refl _) _).setNew g2 _).setNew g2 _).setNew g2 _)⟩
  simp [results, Try.results45, go_sem, p0, p1, p2, s0, s1, s2, n1, n2, parI]

set_option maxRecDepth 20000 in
set_option maxHeartbeats 4000000 in
theorem out_nopub (h : RF w rp (some ⟨b, off, none⟩) n cap l Q) (hn : n ≤ 1000) {x1 x3 x4 : PartA} {k1 f1 t1 : Nat} {Q4 : List PartA} (h4 : takeP [3, 2, 3, 4] Q = ([x1, (k1, f1, t1), x3, x4], true, Q4)) (hft1 : f1 ≤ t1) (htn1 : t1 ≤ n) (hI : isP l (k1, f1, t1) ⟨#[83, 89, 83, 84, 69, 77]⟩ = false) {y1 y3 y5 : PartA} {k3 f3 t3 k5 f5 t5 : Nat} {Q6 : List PartA} (h6 : takeP [3, 2, 3, 4, 3, 4] Q = ([y1, (k1, f1, t1), y3, (k3, f3, t3), y5, (k5, f5, t5)], true, Q6)) (hJ : isP l (k1, f1, t1) ⟨#[80, 85, 66, 76, 73, 67]⟩ = true) (hft3 : f3 + 2 ≤ t3) (htn3 : t3 ≤ n) (hP : pubP l (k3, f3, t3) = false) :
    Calls Try.prog 45 #[.pointer (some ⟨rp, 0, none⟩)] w (ReadsQ rp (some ⟨b, off, none⟩) n cap l Q w (.tuple #[parI 0 0 0, parI 0 0 0])) := by
  have hlt := h.lt
  obtain ⟨A, c, r1, r2, r3, r4⟩ := h.rest.ex
  have cc0 := h.c0
  have R0 := h.next (three_ok w zparB zparB (.cells #[.slice (some ⟨b, off, none⟩) n cap, .slice A Q.length c] 76))
  have K0 := Kept.of_below (p := rp) (three_ok w zparB zparB (.cells #[.slice (some ⟨b, off, none⟩) n cap, .slice A Q.length c] 76))
  have O0 := OT.new w (.slice (some ⟨b, off, none⟩) n cap) (.slice A Q.length c) 76
  have n1 : ¬ rp = w.heap.size := by omega
  have n2 : ¬ rp = w.heap.size + 1 := by omega
  have n3 : ¬ rp = w.heap.size + 2 := by omega
  have m1 : rp < w.heap.size := hlt
  have m2 : rp < w.heap.size + 1 := by omega
  have g2 : w.heap.size ≤ w.heap.size + 1 := by omega
  have HSEC := Lib.hid (And.intro h.len (And.intro h.le h.max))
  have HT0 := Lib.hid (fun (W : World) (R : RE W rp _) (g : Nat) (hg : g = W.heap.size) => takeDK R [3, 2, 3, 4] (by decide) (by decide) h4 #[.int .i64 3, .int .i64 2, .int .i64 3, .int .i64 4] rfl 4 rfl g hg)
  have HI0 := Lib.hid (fun (W : World) {Q' : List PartA} (R : RF W rp (some ⟨b, off, none⟩) n cap l Q') => isD_any R (s := ⟨#[83, 89, 83, 84, 69, 77]⟩) (Sign.of (by decide)) k1 f1 t1 hft1 htn1 hn hI)
  have HT1 := Lib.hid (fun (W : World) (R : RE W rp _) (g : Nat) (hg : g = W.heap.size) => takeDK R [3, 2, 3, 4, 3, 4] (by decide) (by decide) h6 #[.int .i64 3, .int .i64 2, .int .i64 3, .int .i64 4, .int .i64 3, .int .i64 4] rfl 6 rfl g hg)
  have HI1 := Lib.hid (fun (W : World) {Q' : List PartA} (R : RF W rp (some ⟨b, off, none⟩) n cap l Q') => isD_any R (s := ⟨#[80, 85, 66, 76, 73, 67]⟩) (Sign.of (by decide)) k1 f1 t1 hft1 htn1 hn hJ)
  have HP1 := Lib.hid (fun (W : World) {Q' : List PartA} (R : RF W rp (some ⟨b, off, none⟩) n cap l Q') => pubidD_any R k3 f3 t3 hft3 htn3 hn hP)
  have HR0 := Lib.hid R0
  have HK0 := Lib.hid K0
  have HOT0 := Lib.hid O0
  have HAT := Lib.hid (And.intro r2 (And.intro r3 r4))
  obtain ⟨q, hq⟩ : ∃ q, q = Q.length := ⟨_, rfl⟩
  have HQ := Lib.hid hq
  have tk0 : True := trivial
  rw [← hq] at r1 HR0 HK0 HOT0
  clear h R0 K0 O0 r2 r3 r4 hq h4 hI h6 hJ hP
  go_enter Try.func45, Try.ntmps45
  go_wp2_with (first
    | (go_at_call 44; (have _t := tk0; (with_reducible refine (HT0.out _ HR0.out.rest _ (by simp)).mono ?_); rintro e w1 ⟨A1, c1, rfl, _, hat1, hre1, hk1, hc1⟩; clear tk0 _t; have tk1 : True := trivial; have HR1 := Lib.hid (HR0.out.took hre1 hk1 hc1); have HK1 := Lib.hid (HK0.out.trans hk1); have HOT1 := Lib.hid (HOT0.out.kept hk1 hlt); have HN1 := Lib.hid hat1; obtain ⟨pb, po, hpa, hpb, g10, g11, g12⟩ := tcells HN1.out (k := 1) rfl; subst hpa; (simp only [Nat.reduceMul, Nat.reduceAdd] at g10 g11 g12); clear hat1 hre1 hk1 hc1; (try clear p0 p1 p2 s0 s1 s2 e0 e1 zp zs z0 z1 z2); obtain ⟨p0, p1, p2, s0, s1, s2, e0, e1, zp, zs, z0, z1, z2⟩ := HOT1.out.facts; (try clear A' c' r0' r4' c00 f00 hltx); obtain ⟨A', c', r0', _⟩ := HR1.out.rest.ex; have r4' := HR1.out.rest.frozen; have c00 := HR1.out.c0; have f00 := HR1.out.f0; have hltx := HR1.out.lt; skip))
    | (go_at_call 72; (have _t := tk1; (with_reducible refine (HI0.out _ HR1.out).mono ?_); rintro e w2 ⟨rfl, hb2⟩; clear tk1 _t; have tk2 : True := trivial; have HR2 := Lib.hid (HR1.out.next hb2); have HK2 := Lib.hid (HK1.out.next hb2); have HOT2 := Lib.hid (HOT1.out.kept (Kept.of_below hb2) hlt); have HN2 := Lib.hid (HN1.out.kept (Kept.of_below hb2)); clear hb2; (try clear g10 g11 g12); (try clear g30 g31 g32); (try clear p0 p1 p2 s0 s1 s2 e0 e1 zp zs z0 z1 z2); obtain ⟨p0, p1, p2, s0, s1, s2, e0, e1, zp, zs, z0, z1, z2⟩ := HOT2.out.facts; (try clear A' c' r0' r4' c00 f00 hltx); obtain ⟨A', c', r0', _⟩ := HR2.out.rest.ex; have r4' := HR2.out.rest.frozen; have c00 := HR2.out.c0; have f00 := HR2.out.f0; have hltx := HR2.out.lt; skip))
    | (go_at_call 44; (have _t := tk2; have hrb := HR2.out.back HAT.out.1 HAT.out.2.1 (HAT.out.2.2.kept HK2.out); rw [← HQ.out] at hrb; (with_reducible refine (HT1.out _ hrb.rest _ (by simp)).mono ?_); rintro e w3 ⟨A3, c3, rfl, _, hat3, hre3, hk3, hc3⟩; clear tk2 _t; have tk3 : True := trivial; have HR3 := Lib.hid (hrb.took hre3 hk3 hc3); have HK3 := Lib.hid (((HK2.out.put 0 _).put 1 _).trans hk3); have HOT3 := Lib.hid ((HOT2.out.kept (((Kept.refl rp w2).put 0 _).put 1 _) hlt).kept hk3 hlt); clear hrb; have HN3 := Lib.hid hat3; obtain ⟨pb, po, hpa, hpb, g10, g11, g12⟩ := tcells HN3.out (k := 1) rfl; subst hpa; (simp only [Nat.reduceMul, Nat.reduceAdd] at g10 g11 g12); clear hat3 hre3 hk3 hc3; (try clear p0 p1 p2 s0 s1 s2 e0 e1 zp zs z0 z1 z2); obtain ⟨p0, p1, p2, s0, s1, s2, e0, e1, zp, zs, z0, z1, z2⟩ := HOT3.out.facts; (try clear A' c' r0' r4' c00 f00 hltx); obtain ⟨A', c', r0', _⟩ := HR3.out.rest.ex; have r4' := HR3.out.rest.frozen; have c00 := HR3.out.c0; have f00 := HR3.out.f0; have hltx := HR3.out.lt; skip))
    | (go_at_call 72; (have _t := tk3; (with_reducible refine (HI1.out _ HR3.out).mono ?_); rintro e w4 ⟨rfl, hb4⟩; clear tk3 _t; have tk4 : True := trivial; have HR4 := Lib.hid (HR3.out.next hb4); have HK4 := Lib.hid (HK3.out.next hb4); have HOT4 := Lib.hid (HOT3.out.kept (Kept.of_below hb4) hlt); have HN4 := Lib.hid (HN3.out.kept (Kept.of_below hb4)); clear hb4; (try clear g10 g11 g12); (try clear g30 g31 g32); obtain ⟨pb', po', hpa, _, g30, g31, g32⟩ := tcells HN4.out (k := 3) rfl; (simp only [Option.some.injEq, Addr.mk.injEq] at hpa); obtain ⟨rfl, rfl, _⟩ := hpa; (simp only [Nat.reduceMul, Nat.reduceAdd] at g30 g31 g32); (try clear p0 p1 p2 s0 s1 s2 e0 e1 zp zs z0 z1 z2); obtain ⟨p0, p1, p2, s0, s1, s2, e0, e1, zp, zs, z0, z1, z2⟩ := HOT4.out.facts; (try clear A' c' r0' r4' c00 f00 hltx); obtain ⟨A', c', r0', _⟩ := HR4.out.rest.ex; have r4' := HR4.out.rest.frozen; have c00 := HR4.out.c0; have f00 := HR4.out.f0; have hltx := HR4.out.lt; skip))
    | (go_at_call 73; (have _t := tk4; (with_reducible refine (HP1.out _ HR4.out).mono ?_); rintro e w5 ⟨rfl, hb5⟩; clear tk4 _t; have tk5 : True := trivial; have HR5 := Lib.hid (HR4.out.next hb5); have HK5 := Lib.hid (HK4.out.next hb5); have HOT5 := Lib.hid (HOT4.out.kept (Kept.of_below hb5) hlt); have HN5 := Lib.hid (HN4.out.kept (Kept.of_below hb5)); clear hb5; (try clear g10 g11 g12); (try clear g30 g31 g32); (try clear p0 p1 p2 s0 s1 s2 e0 e1 zp zs z0 z1 z2); obtain ⟨p0, p1, p2, s0, s1, s2, e0, e1, zp, zs, z0, z1, z2⟩ := HOT5.out.facts; (try clear A' c' r0' r4' c00 f00 hltx); obtain ⟨A', c', r0', _⟩ := HR5.out.rest.ex; have r4' := HR5.out.rest.frozen; have c00 := HR5.out.c0; have f00 := HR5.out.f0; have hltx := HR5.out.lt; skip)))
  have hrb := HR5.out.back HAT.out.1 HAT.out.2.1 (HAT.out.2.2.kept HK5.out)
  rw [← HQ.out] at hrb
  refine bodyPost_ret (v := .tuple #[parI 0 0 0, parI 0 0 0]) ?_ rfl ⟨rfl, (((((hrb.set m1 0 _).set m1 1 _).set m1 2 _).set m2 0 _).set m2 1 _).set m2 2 _, ((((((((HK5.out.put 0 _).put 1 _).setNew (Nat.le_refl _) _).setNew (Nat.le_refl _) _).setNew (Nat.le_refl _) _).setNew g2 _).setNew g2 _).setNew g2 _)⟩
  simp [results, Try.results45, go_sem, p0, p1, p2, s0, s1, s2, n1, n2, parI]

set_option maxRecDepth 20000 in
set_option maxHeartbeats 4000000 in
theorem out_pub (h : RF w rp (some ⟨b, off, none⟩) n cap l Q) (hn : n ≤ 1000) {x1 x3 x4 : PartA} {k1 f1 t1 : Nat} {Q4 : List PartA} (h4 : takeP [3, 2, 3, 4] Q = ([x1, (k1, f1, t1), x3, x4], true, Q4)) (hft1 : f1 ≤ t1) (htn1 : t1 ≤ n) (hI : isP l (k1, f1, t1) ⟨#[83, 89, 83, 84, 69, 77]⟩ = false) {y1 y3 y5 : PartA} {k3 f3 t3 k5 f5 t5 : Nat} {Q6 : List PartA} (h6 : takeP [3, 2, 3, 4, 3, 4] Q = ([y1, (k1, f1, t1), y3, (k3, f3, t3), y5, (k5, f5, t5)], true, Q6)) (hJ : isP l (k1, f1, t1) ⟨#[80, 85, 66, 76, 73, 67]⟩ = true) (hft3 : f3 + 2 ≤ t3) (htn3 : t3 ≤ n) (hP : pubP l (k3, f3, t3) = true) :
    Calls Try.prog 45 #[.pointer (some ⟨rp, 0, none⟩)] w (ReadsQ rp (some ⟨b, off, none⟩) n cap l Q6 w (.tuple #[parI k3 f3 t3, parI k5 f5 t5])) := by
  have hlt := h.lt
  obtain ⟨A, c, r1, r2, r3, r4⟩ := h.rest.ex
  have cc0 := h.c0
  have R0 := h.next (three_ok w zparB zparB (.cells #[.slice (some ⟨b, off, none⟩) n cap, .slice A Q.length c] 76))
  have K0 := Kept.of_below (p := rp) (three_ok w zparB zparB (.cells #[.slice (some ⟨b, off, none⟩) n cap, .slice A Q.length c] 76))
  have O0 := OT.new w (.slice (some ⟨b, off, none⟩) n cap) (.slice A Q.length c) 76
  have n1 : ¬ rp = w.heap.size := by omega
  have n2 : ¬ rp = w.heap.size + 1 := by omega
  have n3 : ¬ rp = w.heap.size + 2 := by omega
  have m1 : rp < w.heap.size := hlt
  have m2 : rp < w.heap.size + 1 := by omega
  have g2 : w.heap.size ≤ w.heap.size + 1 := by omega
  have HSEC := Lib.hid (And.intro h.len (And.intro h.le h.max))
  have HT0 := Lib.hid (fun (W : World) (R : RE W rp _) (g : Nat) (hg : g = W.heap.size) => takeDK R [3, 2, 3, 4] (by decide) (by decide) h4 #[.int .i64 3, .int .i64 2, .int .i64 3, .int .i64 4] rfl 4 rfl g hg)
  have HI0 := Lib.hid (fun (W : World) {Q' : List PartA} (R : RF W rp (some ⟨b, off, none⟩) n cap l Q') => isD_any R (s := ⟨#[83, 89, 83, 84, 69, 77]⟩) (Sign.of (by decide)) k1 f1 t1 hft1 htn1 hn hI)
  have HT1 := Lib.hid (fun (W : World) (R : RE W rp _) (g : Nat) (hg : g = W.heap.size) => takeDK R [3, 2, 3, 4, 3, 4] (by decide) (by decide) h6 #[.int .i64 3, .int .i64 2, .int .i64 3, .int .i64 4, .int .i64 3, .int .i64 4] rfl 6 rfl g hg)
  have HI1 := Lib.hid (fun (W : World) {Q' : List PartA} (R : RF W rp (some ⟨b, off, none⟩) n cap l Q') => isD_any R (s := ⟨#[80, 85, 66, 76, 73, 67]⟩) (Sign.of (by decide)) k1 f1 t1 hft1 htn1 hn hJ)
  have HP1 := Lib.hid (fun (W : World) {Q' : List PartA} (R : RF W rp (some ⟨b, off, none⟩) n cap l Q') => pubidD_any R k3 f3 t3 hft3 htn3 hn hP)
  have HR0 := Lib.hid R0
  have HK0 := Lib.hid K0
  have HOT0 := Lib.hid O0
  have HAT := Lib.hid (And.intro r2 (And.intro r3 r4))
  obtain ⟨q, hq⟩ : ∃ q, q = Q.length := ⟨_, rfl⟩
  have HQ := Lib.hid hq
  have tk0 : True := trivial
  rw [← hq] at r1 HR0 HK0 HOT0
  clear h R0 K0 O0 r2 r3 r4 hq h4 hI h6 hJ hP
  go_enter Try.func45, Try.ntmps45
  go_wp2_with (first
    | (go_at_call 44; (have _t := tk0; (with_reducible refine (HT0.out _ HR0.out.rest _ (by simp)).mono ?_); rintro e w1 ⟨A1, c1, rfl, _, hat1, hre1, hk1, hc1⟩; clear tk0 _t; have tk1 : True := trivial; have HR1 := Lib.hid (HR0.out.took hre1 hk1 hc1); have HK1 := Lib.hid (HK0.out.trans hk1); have HOT1 := Lib.hid (HOT0.out.kept hk1 hlt); have HN1 := Lib.hid hat1; obtain ⟨pb, po, hpa, hpb, g10, g11, g12⟩ := tcells HN1.out (k := 1) rfl; subst hpa; (simp only [Nat.reduceMul, Nat.reduceAdd] at g10 g11 g12); clear hat1 hre1 hk1 hc1; (try clear p0 p1 p2 s0 s1 s2 e0 e1 zp zs z0 z1 z2); obtain ⟨p0, p1, p2, s0, s1, s2, e0, e1, zp, zs, z0, z1, z2⟩ := HOT1.out.facts; (try clear A' c' r0' r4' c00 f00 hltx); obtain ⟨A', c', r0', _⟩ := HR1.out.rest.ex; have r4' := HR1.out.rest.frozen; have c00 := HR1.out.c0; have f00 := HR1.out.f0; have hltx := HR1.out.lt; skip))
    | (go_at_call 72; (have _t := tk1; (with_reducible refine (HI0.out _ HR1.out).mono ?_); rintro e w2 ⟨rfl, hb2⟩; clear tk1 _t; have tk2 : True := trivial; have HR2 := Lib.hid (HR1.out.next hb2); have HK2 := Lib.hid (HK1.out.next hb2); have HOT2 := Lib.hid (HOT1.out.kept (Kept.of_below hb2) hlt); have HN2 := Lib.hid (HN1.out.kept (Kept.of_below hb2)); clear hb2; (try clear g10 g11 g12); (try clear g30 g31 g32); (try clear p0 p1 p2 s0 s1 s2 e0 e1 zp zs z0 z1 z2); obtain ⟨p0, p1, p2, s0, s1, s2, e0, e1, zp, zs, z0, z1, z2⟩ := HOT2.out.facts; (try clear A' c' r0' r4' c00 f00 hltx); obtain ⟨A', c', r0', _⟩ := HR2.out.rest.ex; have r4' := HR2.out.rest.frozen; have c00 := HR2.out.c0; have f00 := HR2.out.f0; have hltx := HR2.out.lt; skip))
    | (go_at_call 44; (have _t := tk2; have hrb := HR2.out.back HAT.out.1 HAT.out.2.1 (HAT.out.2.2.kept HK2.out); rw [← HQ.out] at hrb; (with_reducible refine (HT1.out _ hrb.rest _ (by simp)).mono ?_); rintro e w3 ⟨A3, c3, rfl, _, hat3, hre3, hk3, hc3⟩; clear tk2 _t; have tk3 : True := trivial; have HR3 := Lib.hid (hrb.took hre3 hk3 hc3); have HK3 := Lib.hid (((HK2.out.put 0 _).put 1 _).trans hk3); have HOT3 := Lib.hid ((HOT2.out.kept (((Kept.refl rp w2).put 0 _).put 1 _) hlt).kept hk3 hlt); clear hrb; have HN3 := Lib.hid hat3; obtain ⟨pb, po, hpa, hpb, g10, g11, g12⟩ := tcells HN3.out (k := 1) rfl; subst hpa; (simp only [Nat.reduceMul, Nat.reduceAdd] at g10 g11 g12); clear hat3 hre3 hk3 hc3; (try clear p0 p1 p2 s0 s1 s2 e0 e1 zp zs z0 z1 z2); obtain ⟨p0, p1, p2, s0, s1, s2, e0, e1, zp, zs, z0, z1, z2⟩ := HOT3.out.facts; (try clear A' c' r0' r4' c00 f00 hltx); obtain ⟨A', c', r0', _⟩ := HR3.out.rest.ex; have r4' := HR3.out.rest.frozen; have c00 := HR3.out.c0; have f00 := HR3.out.f0; have hltx := HR3.out.lt; skip))
    | (go_at_call 72; (have _t := tk3; (with_reducible refine (HI1.out _ HR3.out).mono ?_); rintro e w4 ⟨rfl, hb4⟩; clear tk3 _t; have tk4 : True := trivial; have HR4 := Lib.hid (HR3.out.next hb4); have HK4 := Lib.hid (HK3.out.next hb4); have HOT4 := Lib.hid (HOT3.out.kept (Kept.of_below hb4) hlt); have HN4 := Lib.hid (HN3.out.kept (Kept.of_below hb4)); clear hb4; (try clear g10 g11 g12); (try clear g30 g31 g32); obtain ⟨pb', po', hpa, _, g30, g31, g32⟩ := tcells HN4.out (k := 3) rfl; (simp only [Option.some.injEq, Addr.mk.injEq] at hpa); obtain ⟨rfl, rfl, _⟩ := hpa; (simp only [Nat.reduceMul, Nat.reduceAdd] at g30 g31 g32); (try clear p0 p1 p2 s0 s1 s2 e0 e1 zp zs z0 z1 z2); obtain ⟨p0, p1, p2, s0, s1, s2, e0, e1, zp, zs, z0, z1, z2⟩ := HOT4.out.facts; (try clear A' c' r0' r4' c00 f00 hltx); obtain ⟨A', c', r0', _⟩ := HR4.out.rest.ex; have r4' := HR4.out.rest.frozen; have c00 := HR4.out.c0; have f00 := HR4.out.f0; have hltx := HR4.out.lt; skip))
    | (go_at_call 73; (have _t := tk4; (with_reducible refine (HP1.out _ HR4.out).mono ?_); rintro e w5 ⟨rfl, hb5⟩; clear tk4 _t; have tk5 : True := trivial; have HR5 := Lib.hid (HR4.out.next hb5); have HK5 := Lib.hid (HK4.out.next hb5); have HOT5 := Lib.hid (HOT4.out.kept (Kept.of_below hb5) hlt); have HN5 := Lib.hid (HN4.out.kept (Kept.of_below hb5)); clear hb5; (try clear g10 g11 g12); (try clear g30 g31 g32); obtain ⟨pb', po', hpa, _, g30, g31, g32⟩ := tcells HN5.out (k := 3) rfl; (simp only [Option.some.injEq, Addr.mk.injEq] at hpa); obtain ⟨rfl, rfl, _⟩ := hpa; (simp only [Nat.reduceMul, Nat.reduceAdd] at g30 g31 g32); obtain ⟨pb', po', hpa, _, g50, g51, g52⟩ := tcells HN5.out (k := 5) rfl; (simp only [Option.some.injEq, Addr.mk.injEq] at hpa); obtain ⟨rfl, rfl, _⟩ := hpa; (simp only [Nat.reduceMul, Nat.reduceAdd] at g50 g51 g52); (try clear p0 p1 p2 s0 s1 s2 e0 e1 zp zs z0 z1 z2); obtain ⟨p0, p1, p2, s0, s1, s2, e0, e1, zp, zs, z0, z1, z2⟩ := HOT5.out.facts; (try clear A' c' r0' r4' c00 f00 hltx); obtain ⟨A', c', r0', _⟩ := HR5.out.rest.ex; have r4' := HR5.out.rest.frozen; have c00 := HR5.out.c0; have f00 := HR5.out.f0; have hltx := HR5.out.lt; skip)))
  have nb1 : ¬ w.heap.size = pb := by omega
  have nb2 : ¬ w.heap.size + 1 = pb := by omega
  go_region_held_law (fun W => W.cell? ⟨pb, po + 9, none⟩ = some (.int .i64 k3) ∧ W.cell? ⟨pb, po + 10, none⟩ = some (.int .i64 f3) ∧ W.cell? ⟨pb, po + 11, none⟩ = some (.int .i64 t3) ∧ W.cell? ⟨pb, po + 15, none⟩ = some (.int .i64 k5) ∧ W.cell? ⟨pb, po + 16, none⟩ = some (.int .i64 f5) ∧ W.cell? ⟨pb, po + 17, none⟩ = some (.int .i64 t5))
    ((refine ⟨?_, ?_, ?_, ?_, ?_, ?_⟩ <;> (repeat (first | (with_reducible assumption) | (with_reducible refine kp_drew ?_) | (with_reducible refine kp_set _ (ne_blk (by omega)) ?_)))))
    (fail)
  go_wp2_with fail
  refine bodyPost_ret (v := .tuple #[parI k3 f3 t3, parI k5 f5 t5]) ?_ rfl ⟨rfl, ((((((HR5.out.set m1 0 _).set m1 1 _).set m1 2 _).set m2 0 _).set m2 1 _).set m2 2 _).next (Below.refl _ _).drew, ((((((HK5.out.setNew (Nat.le_refl _) _).setNew (Nat.le_refl _) _).setNew (Nat.le_refl _) _).setNew g2 _).setNew g2 _).setNew g2 _).next (Below.refl _ _).drew⟩
  simp [results, Try.results45, go_sem, p0, p1, p2, s0, s1, s2, n1, n2, parI]

end
end Go.Proofs.Ytpjcheelafegbaa
