/-
  Contracts of layer 9: what names something outside.
-/
import Derived.Test.YtpjcheelafegbaaDxV
namespace Go.Proofs.Ytpjcheelafegbaa
open Go.RowKit
set_option linter.unusedVariables false

theorem three_ok (w : World) (o1 o2 o3 : Obj) : Below w.heap.size w (((w.alloc o1).alloc o2).alloc o3) := (two_ok w o1 o2).trans ((one_ok _ o3).mono (two_ok w o1 o2).size)
/-- A reader is put back to where it was. -/
theorem RF.back {w : World} {rp : Nat} {a : Option Addr} {n cap : Nat} {l : List Int} {Q Q' : List PartA} (h : RF w rp a n cap l Q') {A : Option Addr} {c : Nat} (h1 : Q.length ≤ c) (h2 : c ≤ maxLen) (hat : AtB w rp A (parsCells Q)) :
    RF ((w.setCell ⟨rp, 0, none⟩ (.slice a n cap)).setCell ⟨rp, 1, none⟩ (.slice A Q.length c)) rp a n cap l Q := by
  have hk : Kept rp w ((w.setCell ⟨rp, 0, none⟩ (.slice a n cap)).setCell ⟨rp, 1, none⟩ (.slice A Q.length c)) := ((Kept.refl rp w).put 0 _).put 1 _
  obtain ⟨⟨A', c', r0, _⟩, r4⟩ := h.rest
  refine ⟨⟨⟨A, c, ?_, h1, h2, hat.kept hk⟩, by simp [go_sem, r4]⟩, ?_, by simp [go_sem, h.f0], h.len, h.le, h.max, h.cells.kept hk⟩
  · exact World.cell?_setCell_same _ _ _ (u := .slice A' Q'.length c') (by rw [World.cell?_setCell_other _ _ _ _ (fun e => by simp at e)]; exact r0)
  · rw [World.cell?_setCell_other _ _ _ _ (fun e => by simp at e)]
    exact World.cell?_setCell_same _ _ _ h.c0

section
variable {w : World} {rp : Nat} {b off n cap : Nat} {l : List Int} {Q : List PartA}

set_option maxRecDepth 20000 in
set_option maxHeartbeats 4000000 in
theorem out_none (h : RF w rp (some ⟨b, off, none⟩) n cap l Q) (h4 : takeP [3, 2, 3, 4] Q = ([], false, Q)) (h6 : takeP [3, 2, 3, 4, 3, 4] Q = ([], false, Q)) :
    Calls Try.prog 45 #[.pointer (some ⟨rp, 0, none⟩)] w (ReadsQ rp (some ⟨b, off, none⟩) n cap l Q w (.tuple #[parI 0 0 0, parI 0 0 0])) := by
  have hlt := h.lt
  obtain ⟨A, c, r1, r2, r3, r4⟩ := h.rest.ex
  have c0 := h.c0
  have R0 := h.next (three_ok w zparB zparB (.cells #[.slice (some ⟨b, off, none⟩) n cap, .slice A Q.length c] 76))
  have K0 := Kept.of_below (p := rp) (three_ok w zparB zparB (.cells #[.slice (some ⟨b, off, none⟩) n cap, .slice A Q.length c] 76))
  have n1 : ¬ rp = w.heap.size := by omega
  have n2 : ¬ rp = w.heap.size + 1 := by omega
  have n3 : ¬ rp = w.heap.size + 2 := by omega
  have HT0 := Lib.hid (fun (W : World) (R : RE W rp _) (g : Nat) (hg : g = W.heap.size) => takeDK R [3, 2, 3, 4] (by decide) (by decide) h4 #[.int .i64 3, .int .i64 2, .int .i64 3, .int .i64 4] rfl 4 rfl g hg)
  have HT1 := Lib.hid (fun (W : World) (R : RE W rp _) (g : Nat) (hg : g = W.heap.size) => takeDK R [3, 2, 3, 4, 3, 4] (by decide) (by decide) h6 #[.int .i64 3, .int .i64 2, .int .i64 3, .int .i64 4, .int .i64 3, .int .i64 4] rfl 6 rfl g hg)
  have HR0 := Lib.hid R0
  have HK0 := Lib.hid K0
  have HAT := Lib.hid (And.intro r2 (And.intro r3 r4))
  obtain ⟨q, hq⟩ : ∃ q, q = Q.length := ⟨_, rfl⟩
  have HQ := Lib.hid hq
  have tk0 : True := trivial
  rw [← hq] at r1 HR0 HK0
  clear h R0 K0 h4 h6 r2 r3 r4 hq
  go_enter Try.func45, Try.ntmps45
  go_wp2_with (first
    | (go_at_call 44; (have _t := tk0); (with_reducible refine (HT0.out _ HR0.out.rest _ (by simp)).mono ?_); rintro e w1 ⟨A1, c1, rfl, _, hat1, hre1, hk1, hc1⟩; clear tk0 _t; have tk1 : True := trivial; obtain ⟨k1, k2⟩ := kcell hk1; have hz1 := hk1.size; (try simp only [World.size_alloc, size_setCell'] at hz1); have e0 : w1.cell? ⟨w.heap.size + 1 + 1, 0, none⟩ = some (.slice (some ⟨b, off, none⟩) n cap) := (by rw [k1 _ _ (by first | omega | (simp; done) | (simp; omega)) (fun e => n3 e.symm)]; simp [go_sem]); have e1 : w1.cell? ⟨w.heap.size + 1 + 1, 1, none⟩ = some (.slice A q c) := (by rw [k1 _ _ (by first | omega | (simp; done) | (simp; omega)) (fun e => n3 e.symm)]; simp [go_sem]); have p0 : w1.cell? ⟨w.heap.size, 0, none⟩ = some (.int .i64 0) := (by rw [k1 _ _ (by first | omega | (simp; done) | (simp; omega)) (fun e => n1 e.symm)]; simp [go_sem]); have p1 : w1.cell? ⟨w.heap.size, 1, none⟩ = some (.int .i64 0) := (by rw [k1 _ _ (by first | omega | (simp; done) | (simp; omega)) (fun e => n1 e.symm)]; simp [go_sem]); have p2 : w1.cell? ⟨w.heap.size, 2, none⟩ = some (.int .i64 0) := (by rw [k1 _ _ (by first | omega | (simp; done) | (simp; omega)) (fun e => n1 e.symm)]; simp [go_sem]); have zp : ∀ i, w1.frozen? ⟨w.heap.size, i, none⟩ = false := (fun i => by rw [k2 _ _ (by first | omega | (simp; done) | (simp; omega)) (fun e => n1 e.symm)]; simp [go_sem]); have s0 : w1.cell? ⟨w.heap.size + 1, 0, none⟩ = some (.int .i64 0) := (by rw [k1 _ _ (by first | omega | (simp; done) | (simp; omega)) (fun e => n2 e.symm)]; simp [go_sem]); have s1 : w1.cell? ⟨w.heap.size + 1, 1, none⟩ = some (.int .i64 0) := (by rw [k1 _ _ (by first | omega | (simp; done) | (simp; omega)) (fun e => n2 e.symm)]; simp [go_sem]); have s2 : w1.cell? ⟨w.heap.size + 1, 2, none⟩ = some (.int .i64 0) := (by rw [k1 _ _ (by first | omega | (simp; done) | (simp; omega)) (fun e => n2 e.symm)]; simp [go_sem]); have zs : ∀ i, w1.frozen? ⟨w.heap.size + 1, i, none⟩ = false := (fun i => by rw [k2 _ _ (by first | omega | (simp; done) | (simp; omega)) (fun e => n2 e.symm)]; simp [go_sem]); have HR1 := Lib.hid (HR0.out.took hre1 hk1 hc1); have HK1 := Lib.hid (HK0.out.trans hk1); clear hre1 hk1 hc1 hat1 k1 k2; obtain ⟨A', c', r0', _⟩ := HR1.out.rest.ex; have r4' := HR1.out.rest.frozen; have c00 := HR1.out.c0; have f00 := HR1.out.f0; have hlt1 := HR1.out.lt; skip)
    | (go_at_call 44; go_must (have _t := tk1; have hrb := HR1.out.back HAT.out.1 HAT.out.2.1 (HAT.out.2.2.kept HK1.out); rw [← HQ.out] at hrb; (with_reducible refine (HT1.out _ hrb.rest _ (by simp)).mono ?_); rintro e w2 ⟨A2, c2, rfl, _, hat2, hre2, hk2, hc2⟩; clear tk1 _t; obtain ⟨k1, k2⟩ := kcell hk2; have hz2 := hk2.size; (try simp only [World.size_alloc, size_setCell'] at hz2); have e0' : w2.cell? ⟨w.heap.size + 1 + 1, 0, none⟩ = some (.slice (some ⟨b, off, none⟩) n cap) := (by rw [k1 _ _ (by first | omega | (simp; done) | (simp; omega)) (fun e => n3 e.symm)]; simp [go_sem, e0, e1, n3]); have e1' : w2.cell? ⟨w.heap.size + 1 + 1, 1, none⟩ = some (.slice A q c) := (by rw [k1 _ _ (by first | omega | (simp; done) | (simp; omega)) (fun e => n3 e.symm)]; simp [go_sem, e0, e1, n3]); have p0' : w2.cell? ⟨w.heap.size, 0, none⟩ = some (.int .i64 0) := (by rw [k1 _ _ (by first | omega | (simp; done) | (simp; omega)) (fun e => n1 e.symm)]; simp [go_sem, p0, p1, p2, s0, s1, s2, n1, n2]); have p1' : w2.cell? ⟨w.heap.size, 1, none⟩ = some (.int .i64 0) := (by rw [k1 _ _ (by first | omega | (simp; done) | (simp; omega)) (fun e => n1 e.symm)]; simp [go_sem, p0, p1, p2, s0, s1, s2, n1, n2]); have p2' : w2.cell? ⟨w.heap.size, 2, none⟩ = some (.int .i64 0) := (by rw [k1 _ _ (by first | omega | (simp; done) | (simp; omega)) (fun e => n1 e.symm)]; simp [go_sem, p0, p1, p2, s0, s1, s2, n1, n2]); have zp' : ∀ i, w2.frozen? ⟨w.heap.size, i, none⟩ = false := (fun i => by rw [k2 _ _ (by first | omega | (simp; done) | (simp; omega)) (fun e => n1 e.symm)]; simp [go_sem, zp, zs]); have s0' : w2.cell? ⟨w.heap.size + 1, 0, none⟩ = some (.int .i64 0) := (by rw [k1 _ _ (by first | omega | (simp; done) | (simp; omega)) (fun e => n2 e.symm)]; simp [go_sem, p0, p1, p2, s0, s1, s2, n1, n2]); have s1' : w2.cell? ⟨w.heap.size + 1, 1, none⟩ = some (.int .i64 0) := (by rw [k1 _ _ (by first | omega | (simp; done) | (simp; omega)) (fun e => n2 e.symm)]; simp [go_sem, p0, p1, p2, s0, s1, s2, n1, n2]); have s2' : w2.cell? ⟨w.heap.size + 1, 2, none⟩ = some (.int .i64 0) := (by rw [k1 _ _ (by first | omega | (simp; done) | (simp; omega)) (fun e => n2 e.symm)]; simp [go_sem, p0, p1, p2, s0, s1, s2, n1, n2]); have zs' : ∀ i, w2.frozen? ⟨w.heap.size + 1, i, none⟩ = false := (fun i => by rw [k2 _ _ (by first | omega | (simp; done) | (simp; omega)) (fun e => n2 e.symm)]; simp [go_sem, zp, zs]); have HR2 := Lib.hid (hrb.took hre2 hk2 hc2); have HK2 := Lib.hid (((HK1.out.put 0 _).put 1 _).trans hk2); clear hrb hre2 hk2 hc2 hat2 k1 k2 e0 e1 r4' f00 p0 p1 p2 s0 s1 s2 zp zs; obtain ⟨A', c', r0', _⟩ := HR2.out.rest.ex; have r4' := HR2.out.rest.frozen; have c00 := HR2.out.c0; have f00 := HR2.out.f0; have hlt2 := HR2.out.lt)))
  have m1 : rp < w.heap.size := hlt
  have m2 : rp < w.heap.size + 1 := by omega
  have hrb := HR2.out.back HAT.out.1 HAT.out.2.1 (HAT.out.2.2.kept HK2.out)
  rw [← HQ.out] at hrb
  have g2 : w.heap.size ≤ w.heap.size + 1 := by omega
  refine bodyPost_ret (v := .tuple #[parI 0 0 0, parI 0 0 0]) ?_ rfl ⟨rfl, (((((hrb.set m1 0 _).set m1 1 _).set m1 2 _).set m2 0 _).set m2 1 _).set m2 2 _, ((((((((HK2.out.put 0 _).put 1 _).setNew (Nat.le_refl _) _).setNew (Nat.le_refl _) _).setNew (Nat.le_refl _) _).setNew g2 _).setNew g2 _).setNew g2 _)⟩
  simp [results, Try.results45, go_sem, p0', p1', p2', s0', s1', s2', n1, n2, parI]
end
end Go.Proofs.Ytpjcheelafegbaa
