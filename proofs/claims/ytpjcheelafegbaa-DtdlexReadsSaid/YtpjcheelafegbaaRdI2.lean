/-
  The reference's Read: ways whose start is right: nothing is named outside.
-/
import Derived.Test.YtpjcheelafegbaaRdH
namespace Go.Proofs.Ytpjcheelafegbaa
open Go.RowKit
set_option linter.unusedVariables false

theorem strne {a : ByteArray} {L : List UInt8} (h : a ≠ ⟨L.toArray⟩) : ¬ a.toList = L := fun e => h (by
  rw [ByteArray.toList_eq] at e
  cases a
  simp at e
  simp [← e])
section
variable {w : World} {a : Option Addr} {n cap : Nat} {l : List Int} {P : List PartA} {f t : Int}

set_option maxRecDepth 20000 in
set_option maxHeartbeats 4000000 in
theorem rr_n3_t1 {b off : Nat} (RR : RRow w b off n cap l) (hwf : ∀ j, -2147483648 ≤ l.getD j 0 ∧ l.getD j 0 ≤ 2147483647) (hn : n ≤ 900) (hP : inP dtP l f t = P) (h0 : kindN P 0 = 1) (h1 : kindN P 1 = 3) (h2 : kindN P 2 = 2) {m0 m1 m2 : Nat} (hp2 : P[2]? = some (m0, m1, m2)) {x3 : Nat} (h3 : kindN P 3 = x3) (hx3 : x3 ≠ 3) {j1 : Nat} (hb1 : blankN P 3 = j1) (hj1 : j1 ≤ 100) (g0 : kindN P (j1) = 5) (g1 : kindN P (j1 + 1) = 6) {x : Nat} (g2 : kindN P (j1 + 2) = x) (gx5 : x ≠ 5) {y0 y1 y2 : Nat} (hpy : P[j1 + 1]? = some (y0, y1, y2)) :
    Calls Try.prog 21 #[.slice (some ⟨b, off, none⟩) n cap, .int .i64 f, .int .i64 t] w (HeadD w ((zP, zP, zP, zP), false)) := by
  have R : NRow w (some ⟨b, off, none⟩) n cap l := ⟨RR.len, RR.le, RR.max, RR.cells⟩
  have HP := Lib.hid (fun hb => rparts_any (R.below (w' := w.alloc rheadZ) hb) hwf (by omega) f t)
  have HP := Lib.hid (HP.out (one_ok w rheadZ))
  rw [hP] at HP
  obtain ⟨q, hq'⟩ : ∃ q, q = P.length := ⟨_, rfl⟩
  have hq : P.length = q := hq'.symm
  have HQ := Lib.hid hq
  have hqb : q ≤ 1000 := by rw [hq', ← hP]; have := inP_length dtP_facts l f t; rw [R.len] at this; omega
  have HB0 := Lib.hid (HBx.new w [.int .i64 0, .int .i64 0, .int .i64 0, .int .i64 0, .int .i64 0, .int .i64 0, .int .i64 0, .int .i64 0, .int .i64 0, .int .i64 0, .int .i64 0, .int .i64 0, .bool false] 38)
  have HK0 := Lib.hid (show KindAt P q (0) 1 from kindAt hq hqb h0)
  have HK1 := Lib.hid (show KindAt P q (1) 3 from kindAt hq hqb h1)
  have HK2 := Lib.hid (show KindAt P q (2) 2 from kindAt hq hqb h2)
  have HK3 := Lib.hid (show KindAt P q (3) (x3 : Nat) from kindAt hq hqb h3)
  have HG0 := Lib.hid (show KindAt P q (j1) 5 from kindAt hq hqb g0)
  have HG1 := Lib.hid (show KindAt P q (j1 + 1) 6 from kindAt hq hqb g1)
  have HG2 := Lib.hid (show KindAt P q (j1 + 2) (x : Nat) from kindAt hq hqb g2)
  have HB1a := Lib.hid (blankAt hq hqb (j := 3) (by omega) hb1)
  have e3 : ((x3 : Int) == 3) = false := by simp; omega
  have e3' : ((x3 : Int) != 3) = true := by simp; omega
  have ex5 : ((x : Int) == 5) = false := by simp; omega
  have ex5' : ((x : Int) != 5) = true := by simp; omega
  have HPP2 := Lib.hid hp2
  have bq2 : (2 : Int) < (q : Int) := by have := (List.getElem?_eq_some_iff.1 hp2).1; omega
  have HPPy := Lib.hid hpy
  have bqy : (j1 : Int) + 1 < (q : Int) := by have := (List.getElem?_eq_some_iff.1 hpy).1; omega
  have bqy0 : (0 : Int) ≤ (j1 : Int) + 1 := by omega
  have ty : ((j1 : Int) + 1).toNat = j1 + 1 := by omega
  have tk0 : True := trivial
  clear R RR hwf hP hq hq' h0 h1 h2 h3 g0 g1 g2 hb1 hp2 hpy
  go_enter Try.func21, Try.ntmps21
  go_wp2_with (first
    | (go_at_call 14; (with_reducible refine HP.out.mono ?_); rintro e w1 ⟨pv, rfl, hown, hb1⟩; obtain ⟨va, vc, rfl, hvc⟩ := owns_slice hown; have hs1 : w.heap.size + 1 ≤ w1.heap.size := (by have := hb1.size; simp at this; omega); have HAT := Lib.hid (fun (W : World) (hb : Below w1.heap.size w1 W) => (AtCells.of_owns hown).below hb); have HBW := Lib.hid ((one_ok w rheadZ).trans (hb1.mono (by simp))); have HB1 := Lib.hid (HB0.out.kept (Kept.of_below (p := w1.heap.size) hb1) (by omega)); clear hown hb1; rw [HQ.out]; have r0 := HB1.out.c 0 _ rfl; have r1 := HB1.out.c 1 _ rfl; have r2 := HB1.out.c 2 _ rfl; have r3 := HB1.out.c 3 _ rfl; have r4 := HB1.out.c 4 _ rfl; have r5 := HB1.out.c 5 _ rfl; have r6 := HB1.out.c 6 _ rfl; have r7 := HB1.out.c 7 _ rfl; have r8 := HB1.out.c 8 _ rfl; have r9 := HB1.out.c 9 _ rfl; have r10 := HB1.out.c 10 _ rfl; have r11 := HB1.out.c 11 _ rfl; have r12 := HB1.out.c 12 _ rfl; have rz := HB1.out.z; have hlt1 : w.heap.size < w1.heap.size := (by omega); have hne : ¬ w.heap.size = w1.heap.size := (by omega); have hne2 : ¬ w1.heap.size = w.heap.size := (by omega); obtain ⟨pb, po, hpa, hpb, gm0, gm1, gm2⟩ := tcellsA (HAT.out _ (Below.refl _ _)) HPP2.out; subst hpa; (simp only [Nat.reduceMul, Nat.reduceAdd] at gm0 gm1 gm2); have hpb2 : ¬ pb = w1.heap.size := (by omega); have hpb3 : ¬ w1.heap.size = pb := (by omega); obtain ⟨pb', po', hpa, _, gy0, gy1, gy2⟩ := tcellsA (HAT.out _ (Below.refl _ _)) HPPy.out; (simp only [Option.some.injEq, Addr.mk.injEq] at hpa); obtain ⟨rfl, rfl, _⟩ := hpa; (rw [← Nat.add_assoc] at gy1 gy2); have hpb4 : pb < w1.heap.size := (by omega); have HAX := Lib.hid (fun (W : World) (hb : Below w1.heap.size w1 W) => HAT.out W hb); clear HAT; have HAT := HAX; clear HAX)
    | (go_at_call 47; (with_reducible refine (HK0.out _ _ _ _ (by omega) (HAT.out _ (by (repeat (first | (with_reducible exact HW3.out) | (with_reducible exact HW4.out) | (with_reducible exact Below.refl _ _) | (with_reducible refine bel_put ?_ (by omega) _) | (with_reducible refine Below.alloc ?_ (by first | omega | (simp; omega)) _)))))).mono ?_); rintro e w' ⟨rfl, rfl⟩)
    | (go_at_call 47; (with_reducible refine (HK1.out _ _ _ _ (by omega) (HAT.out _ (by (repeat (first | (with_reducible exact HW3.out) | (with_reducible exact HW4.out) | (with_reducible exact Below.refl _ _) | (with_reducible refine bel_put ?_ (by omega) _) | (with_reducible refine Below.alloc ?_ (by first | omega | (simp; omega)) _)))))).mono ?_); rintro e w' ⟨rfl, rfl⟩)
    | (go_at_call 47; (with_reducible refine (HK2.out _ _ _ _ (by omega) (HAT.out _ (by (repeat (first | (with_reducible exact HW3.out) | (with_reducible exact HW4.out) | (with_reducible exact Below.refl _ _) | (with_reducible refine bel_put ?_ (by omega) _) | (with_reducible refine Below.alloc ?_ (by first | omega | (simp; omega)) _)))))).mono ?_); rintro e w' ⟨rfl, rfl⟩)
    | (go_at_call 47; (with_reducible refine (HK3.out _ _ _ _ (by omega) (HAT.out _ (by (repeat (first | (with_reducible exact HW3.out) | (with_reducible exact HW4.out) | (with_reducible exact Below.refl _ _) | (with_reducible refine bel_put ?_ (by omega) _) | (with_reducible refine Below.alloc ?_ (by first | omega | (simp; omega)) _)))))).mono ?_); rintro e w' ⟨rfl, rfl⟩)
    | (go_at_call 47; (with_reducible refine (HG0.out _ _ _ _ (by omega) (HAT.out _ (by (repeat (first | (with_reducible exact HW3.out) | (with_reducible exact HW4.out) | (with_reducible exact Below.refl _ _) | (with_reducible refine bel_put ?_ (by omega) _) | (with_reducible refine Below.alloc ?_ (by first | omega | (simp; omega)) _)))))).mono ?_); rintro e w' ⟨rfl, rfl⟩)
    | (go_at_call 47; (with_reducible refine (HG1.out _ _ _ _ (by omega) (HAT.out _ (by (repeat (first | (with_reducible exact HW3.out) | (with_reducible exact HW4.out) | (with_reducible exact Below.refl _ _) | (with_reducible refine bel_put ?_ (by omega) _) | (with_reducible refine Below.alloc ?_ (by first | omega | (simp; omega)) _)))))).mono ?_); rintro e w' ⟨rfl, rfl⟩)
    | (go_at_call 47; (with_reducible refine (HG2.out _ _ _ _ (by omega) (HAT.out _ (by (repeat (first | (with_reducible exact HW3.out) | (with_reducible exact HW4.out) | (with_reducible exact Below.refl _ _) | (with_reducible refine bel_put ?_ (by omega) _) | (with_reducible refine Below.alloc ?_ (by first | omega | (simp; omega)) _)))))).mono ?_); rintro e w' ⟨rfl, rfl⟩)
    | (go_at_call 50; (with_reducible refine (HB1a.out _ _ _ _ (by omega) (HAT.out _ (by (repeat (first | (with_reducible exact HW3.out) | (with_reducible exact HW4.out) | (with_reducible exact Below.refl _ _) | (with_reducible refine bel_put ?_ (by omega) _) | (with_reducible refine Below.alloc ?_ (by first | omega | (simp; omega)) _)))))).mono ?_); rintro e w' ⟨rfl, rfl⟩))
  refine bodyPost_ret (v := headV zP zP zP zP false) ?_ rfl ⟨rfl, ?_⟩
  · simp [results, Try.results21, go_sem, r0, r1, r2, r3, r4, r5, r6, r7, r8, r9, r10, r11, r12, hne, hne2, hlt1]
  · (repeat (first | (with_reducible exact HBW.out) | (with_reducible refine bel_put ?_ (by omega) _) | (with_reducible refine Below.alloc ?_ (by first | omega | (simp; omega)) _)))

set_option maxRecDepth 20000 in
set_option maxHeartbeats 4000000 in
theorem rr_n3_t2 {b off : Nat} (RR : RRow w b off n cap l) (hwf : ∀ j, -2147483648 ≤ l.getD j 0 ∧ l.getD j 0 ≤ 2147483647) (hn : n ≤ 900) (hP : inP dtP l f t = P) (h0 : kindN P 0 = 1) (h1 : kindN P 1 = 3) (h2 : kindN P 2 = 2) {m0 m1 m2 : Nat} (hp2 : P[2]? = some (m0, m1, m2)) {x3 : Nat} (h3 : kindN P 3 = x3) (hx3 : x3 ≠ 3) {j1 : Nat} (hb1 : blankN P 3 = j1) (hj1 : j1 ≤ 100) {j4 : Nat} (hb4 : blankN P (j1 + 3) = j4) (hj4 : j4 ≤ 200) (g0 : kindN P (j1) = 5) (g1 : kindN P (j1 + 1) = 6) (g2 : kindN P (j1 + 2) = 5) (g3 : kindN P (j4) = 7) {y0 y1 y2 : Nat} (hpy : P[j1 + 1]? = some (y0, y1, y2)) (hL7 : j4 + 1 = P.length) :
    Calls Try.prog 21 #[.slice (some ⟨b, off, none⟩) n cap, .int .i64 f, .int .i64 t] w (HeadD w (((m0, m1, m2), zP, zP, (y0, y1, y2)), true)) := by
  have R : NRow w (some ⟨b, off, none⟩) n cap l := ⟨RR.len, RR.le, RR.max, RR.cells⟩
  have HP := Lib.hid (fun hb => rparts_any (R.below (w' := w.alloc rheadZ) hb) hwf (by omega) f t)
  have HP := Lib.hid (HP.out (one_ok w rheadZ))
  rw [hP] at HP
  obtain ⟨q, hq'⟩ : ∃ q, q = P.length := ⟨_, rfl⟩
  have hq : P.length = q := hq'.symm
  have HQ := Lib.hid hq
  have hqb : q ≤ 1000 := by rw [hq', ← hP]; have := inP_length dtP_facts l f t; rw [R.len] at this; omega
  have HB0 := Lib.hid (HBx.new w [.int .i64 0, .int .i64 0, .int .i64 0, .int .i64 0, .int .i64 0, .int .i64 0, .int .i64 0, .int .i64 0, .int .i64 0, .int .i64 0, .int .i64 0, .int .i64 0, .bool false] 38)
  have HK0 := Lib.hid (show KindAt P q (0) 1 from kindAt hq hqb h0)
  have HK1 := Lib.hid (show KindAt P q (1) 3 from kindAt hq hqb h1)
  have HK2 := Lib.hid (show KindAt P q (2) 2 from kindAt hq hqb h2)
  have HK3 := Lib.hid (show KindAt P q (3) (x3 : Nat) from kindAt hq hqb h3)
  have HG0 := Lib.hid (show KindAt P q (j1) 5 from kindAt hq hqb g0)
  have HG1 := Lib.hid (show KindAt P q (j1 + 1) 6 from kindAt hq hqb g1)
  have HG2 := Lib.hid (show KindAt P q (j1 + 2) 5 from kindAt hq hqb g2)
  have HG3 := Lib.hid (show KindAt P q (j4) 7 from kindAt hq hqb g3)
  have HB1a := Lib.hid (blankAt hq hqb (j := 3) (by omega) hb1)
  have HB4a := Lib.hid (blankAt hq hqb (j := j1 + 3) (by omega) hb4)
  have hz7 : (j4 : Int) + 1 = q := by omega
  have hz8 : ((j4 : Int) + 1 != (q : Int)) = false := by simp; omega
  have e3 : ((x3 : Int) == 3) = false := by simp; omega
  have e3' : ((x3 : Int) != 3) = true := by simp; omega
  have HPP2 := Lib.hid hp2
  have bq2 : (2 : Int) < (q : Int) := by have := (List.getElem?_eq_some_iff.1 hp2).1; omega
  have HPPy := Lib.hid hpy
  have bqy : (j1 : Int) + 1 < (q : Int) := by have := (List.getElem?_eq_some_iff.1 hpy).1; omega
  have bqy0 : (0 : Int) ≤ (j1 : Int) + 1 := by omega
  have ty : ((j1 : Int) + 1).toNat = j1 + 1 := by omega
  have tk0 : True := trivial
  clear R RR hwf hP hq hq' h0 h1 h2 h3 g0 g1 g2 g3 hb1 hb4 hL7 hp2 hpy
  go_enter Try.func21, Try.ntmps21
  go_wp2_with (first
    | (go_at_call 14; (with_reducible refine HP.out.mono ?_); rintro e w1 ⟨pv, rfl, hown, hb1⟩; obtain ⟨va, vc, rfl, hvc⟩ := owns_slice hown; have hs1 : w.heap.size + 1 ≤ w1.heap.size := (by have := hb1.size; simp at this; omega); have HAT := Lib.hid (fun (W : World) (hb : Below w1.heap.size w1 W) => (AtCells.of_owns hown).below hb); have HBW := Lib.hid ((one_ok w rheadZ).trans (hb1.mono (by simp))); have HB1 := Lib.hid (HB0.out.kept (Kept.of_below (p := w1.heap.size) hb1) (by omega)); clear hown hb1; rw [HQ.out]; have r0 := HB1.out.c 0 _ rfl; have r1 := HB1.out.c 1 _ rfl; have r2 := HB1.out.c 2 _ rfl; have r3 := HB1.out.c 3 _ rfl; have r4 := HB1.out.c 4 _ rfl; have r5 := HB1.out.c 5 _ rfl; have r6 := HB1.out.c 6 _ rfl; have r7 := HB1.out.c 7 _ rfl; have r8 := HB1.out.c 8 _ rfl; have r9 := HB1.out.c 9 _ rfl; have r10 := HB1.out.c 10 _ rfl; have r11 := HB1.out.c 11 _ rfl; have r12 := HB1.out.c 12 _ rfl; have rz := HB1.out.z; have hlt1 : w.heap.size < w1.heap.size := (by omega); have hne : ¬ w.heap.size = w1.heap.size := (by omega); have hne2 : ¬ w1.heap.size = w.heap.size := (by omega); obtain ⟨pb, po, hpa, hpb, gm0, gm1, gm2⟩ := tcellsA (HAT.out _ (Below.refl _ _)) HPP2.out; subst hpa; (simp only [Nat.reduceMul, Nat.reduceAdd] at gm0 gm1 gm2); have hpb2 : ¬ pb = w1.heap.size := (by omega); have hpb3 : ¬ w1.heap.size = pb := (by omega); obtain ⟨pb', po', hpa, _, gy0, gy1, gy2⟩ := tcellsA (HAT.out _ (Below.refl _ _)) HPPy.out; (simp only [Option.some.injEq, Addr.mk.injEq] at hpa); obtain ⟨rfl, rfl, _⟩ := hpa; (rw [← Nat.add_assoc] at gy1 gy2); have hpb4 : pb < w1.heap.size := (by omega); have HAX := Lib.hid (fun (W : World) (hb : Below w1.heap.size w1 W) => HAT.out W hb); clear HAT; have HAT := HAX; clear HAX)
    | (go_at_call 47; (with_reducible refine (HK0.out _ _ _ _ (by omega) (HAT.out _ (by (repeat (first | (with_reducible exact HW3.out) | (with_reducible exact HW4.out) | (with_reducible exact Below.refl _ _) | (with_reducible refine bel_put ?_ (by omega) _) | (with_reducible refine Below.alloc ?_ (by first | omega | (simp; omega)) _)))))).mono ?_); rintro e w' ⟨rfl, rfl⟩)
    | (go_at_call 47; (with_reducible refine (HK1.out _ _ _ _ (by omega) (HAT.out _ (by (repeat (first | (with_reducible exact HW3.out) | (with_reducible exact HW4.out) | (with_reducible exact Below.refl _ _) | (with_reducible refine bel_put ?_ (by omega) _) | (with_reducible refine Below.alloc ?_ (by first | omega | (simp; omega)) _)))))).mono ?_); rintro e w' ⟨rfl, rfl⟩)
    | (go_at_call 47; (with_reducible refine (HK2.out _ _ _ _ (by omega) (HAT.out _ (by (repeat (first | (with_reducible exact HW3.out) | (with_reducible exact HW4.out) | (with_reducible exact Below.refl _ _) | (with_reducible refine bel_put ?_ (by omega) _) | (with_reducible refine Below.alloc ?_ (by first | omega | (simp; omega)) _)))))).mono ?_); rintro e w' ⟨rfl, rfl⟩)
    | (go_at_call 47; (with_reducible refine (HK3.out _ _ _ _ (by omega) (HAT.out _ (by (repeat (first | (with_reducible exact HW3.out) | (with_reducible exact HW4.out) | (with_reducible exact Below.refl _ _) | (with_reducible refine bel_put ?_ (by omega) _) | (with_reducible refine Below.alloc ?_ (by first | omega | (simp; omega)) _)))))).mono ?_); rintro e w' ⟨rfl, rfl⟩)
    | (go_at_call 47; (with_reducible refine (HG0.out _ _ _ _ (by omega) (HAT.out _ (by (repeat (first | (with_reducible exact HW3.out) | (with_reducible exact HW4.out) | (with_reducible exact Below.refl _ _) | (with_reducible refine bel_put ?_ (by omega) _) | (with_reducible refine Below.alloc ?_ (by first | omega | (simp; omega)) _)))))).mono ?_); rintro e w' ⟨rfl, rfl⟩)
    | (go_at_call 47; (with_reducible refine (HG1.out _ _ _ _ (by omega) (HAT.out _ (by (repeat (first | (with_reducible exact HW3.out) | (with_reducible exact HW4.out) | (with_reducible exact Below.refl _ _) | (with_reducible refine bel_put ?_ (by omega) _) | (with_reducible refine Below.alloc ?_ (by first | omega | (simp; omega)) _)))))).mono ?_); rintro e w' ⟨rfl, rfl⟩)
    | (go_at_call 47; (with_reducible refine (HG2.out _ _ _ _ (by omega) (HAT.out _ (by (repeat (first | (with_reducible exact HW3.out) | (with_reducible exact HW4.out) | (with_reducible exact Below.refl _ _) | (with_reducible refine bel_put ?_ (by omega) _) | (with_reducible refine Below.alloc ?_ (by first | omega | (simp; omega)) _)))))).mono ?_); rintro e w' ⟨rfl, rfl⟩)
    | (go_at_call 47; (with_reducible refine (HG3.out _ _ _ _ (by omega) (HAT.out _ (by (repeat (first | (with_reducible exact HW3.out) | (with_reducible exact HW4.out) | (with_reducible exact Below.refl _ _) | (with_reducible refine bel_put ?_ (by omega) _) | (with_reducible refine Below.alloc ?_ (by first | omega | (simp; omega)) _)))))).mono ?_); rintro e w' ⟨rfl, rfl⟩)
    | (go_at_call 50; (with_reducible refine (HB1a.out _ _ _ _ (by omega) (HAT.out _ (by (repeat (first | (with_reducible exact HW3.out) | (with_reducible exact HW4.out) | (with_reducible exact Below.refl _ _) | (with_reducible refine bel_put ?_ (by omega) _) | (with_reducible refine Below.alloc ?_ (by first | omega | (simp; omega)) _)))))).mono ?_); rintro e w' ⟨rfl, rfl⟩)
    | (go_at_call 50; (with_reducible refine (HB4a.out _ _ _ _ (by omega) (HAT.out _ (by (repeat (first | (with_reducible exact HW3.out) | (with_reducible exact HW4.out) | (with_reducible exact Below.refl _ _) | (with_reducible refine bel_put ?_ (by omega) _) | (with_reducible refine Below.alloc ?_ (by first | omega | (simp; omega)) _)))))).mono ?_); rintro e w' ⟨rfl, rfl⟩))
  refine bodyPost_ret (v := headV (m0, m1, m2) zP zP (y0, y1, y2) true) ?_ rfl ⟨rfl, ?_⟩
  · simp [results, Try.results21, go_sem, r0, r1, r2, r3, r4, r5, r6, r7, r8, r9, r10, r11, r12, hne, hne2, hlt1]
  · (repeat (first | (with_reducible exact HBW.out) | (with_reducible refine bel_put ?_ (by omega) _) | (with_reducible refine Below.alloc ?_ (by first | omega | (simp; omega)) _)))

set_option maxRecDepth 20000 in
set_option maxHeartbeats 4000000 in
theorem rr_n3_t3 {b off : Nat} (RR : RRow w b off n cap l) (hwf : ∀ j, -2147483648 ≤ l.getD j 0 ∧ l.getD j 0 ≤ 2147483647) (hn : n ≤ 900) (hP : inP dtP l f t = P) (h0 : kindN P 0 = 1) (h1 : kindN P 1 = 3) (h2 : kindN P 2 = 2) {m0 m1 m2 : Nat} (hp2 : P[2]? = some (m0, m1, m2)) {x3 : Nat} (h3 : kindN P 3 = x3) (hx3 : x3 ≠ 3) {j1 : Nat} (hb1 : blankN P 3 = j1) (hj1 : j1 ≤ 100) {j4 : Nat} (hb4 : blankN P (j1 + 3) = j4) (hj4 : j4 ≤ 200) (g0 : kindN P (j1) = 5) (g1 : kindN P (j1 + 1) = 6) (g2 : kindN P (j1 + 2) = 5) {x : Nat} (g3 : kindN P (j4) = x) (gx7 : x ≠ 7) {y0 y1 y2 : Nat} (hpy : P[j1 + 1]? = some (y0, y1, y2)) :
    Calls Try.prog 21 #[.slice (some ⟨b, off, none⟩) n cap, .int .i64 f, .int .i64 t] w (HeadD w ((zP, zP, zP, zP), false)) := by
  have R : NRow w (some ⟨b, off, none⟩) n cap l := ⟨RR.len, RR.le, RR.max, RR.cells⟩
  have HP := Lib.hid (fun hb => rparts_any (R.below (w' := w.alloc rheadZ) hb) hwf (by omega) f t)
  have HP := Lib.hid (HP.out (one_ok w rheadZ))
  rw [hP] at HP
  obtain ⟨q, hq'⟩ : ∃ q, q = P.length := ⟨_, rfl⟩
  have hq : P.length = q := hq'.symm
  have HQ := Lib.hid hq
  have hqb : q ≤ 1000 := by rw [hq', ← hP]; have := inP_length dtP_facts l f t; rw [R.len] at this; omega
  have HB0 := Lib.hid (HBx.new w [.int .i64 0, .int .i64 0, .int .i64 0, .int .i64 0, .int .i64 0, .int .i64 0, .int .i64 0, .int .i64 0, .int .i64 0, .int .i64 0, .int .i64 0, .int .i64 0, .bool false] 38)
  have HK0 := Lib.hid (show KindAt P q (0) 1 from kindAt hq hqb h0)
  have HK1 := Lib.hid (show KindAt P q (1) 3 from kindAt hq hqb h1)
  have HK2 := Lib.hid (show KindAt P q (2) 2 from kindAt hq hqb h2)
  have HK3 := Lib.hid (show KindAt P q (3) (x3 : Nat) from kindAt hq hqb h3)
  have HG0 := Lib.hid (show KindAt P q (j1) 5 from kindAt hq hqb g0)
  have HG1 := Lib.hid (show KindAt P q (j1 + 1) 6 from kindAt hq hqb g1)
  have HG2 := Lib.hid (show KindAt P q (j1 + 2) 5 from kindAt hq hqb g2)
  have HG3 := Lib.hid (show KindAt P q (j4) (x : Nat) from kindAt hq hqb g3)
  have HB1a := Lib.hid (blankAt hq hqb (j := 3) (by omega) hb1)
  have HB4a := Lib.hid (blankAt hq hqb (j := j1 + 3) (by omega) hb4)
  have e3 : ((x3 : Int) == 3) = false := by simp; omega
  have e3' : ((x3 : Int) != 3) = true := by simp; omega
  have ex7 : ((x : Int) == 7) = false := by simp; omega
  have ex7' : ((x : Int) != 7) = true := by simp; omega
  have HPP2 := Lib.hid hp2
  have bq2 : (2 : Int) < (q : Int) := by have := (List.getElem?_eq_some_iff.1 hp2).1; omega
  have HPPy := Lib.hid hpy
  have bqy : (j1 : Int) + 1 < (q : Int) := by have := (List.getElem?_eq_some_iff.1 hpy).1; omega
  have bqy0 : (0 : Int) ≤ (j1 : Int) + 1 := by omega
  have ty : ((j1 : Int) + 1).toNat = j1 + 1 := by omega
  have tk0 : True := trivial
  clear R RR hwf hP hq hq' h0 h1 h2 h3 g0 g1 g2 g3 hb1 hb4 hp2 hpy
  go_enter Try.func21, Try.ntmps21
  go_wp2_with (first
    | (go_at_call 14; (with_reducible refine HP.out.mono ?_); rintro e w1 ⟨pv, rfl, hown, hb1⟩; obtain ⟨va, vc, rfl, hvc⟩ := owns_slice hown; have hs1 : w.heap.size + 1 ≤ w1.heap.size := (by have := hb1.size; simp at this; omega); have HAT := Lib.hid (fun (W : World) (hb : Below w1.heap.size w1 W) => (AtCells.of_owns hown).below hb); have HBW := Lib.hid ((one_ok w rheadZ).trans (hb1.mono (by simp))); have HB1 := Lib.hid (HB0.out.kept (Kept.of_below (p := w1.heap.size) hb1) (by omega)); clear hown hb1; rw [HQ.out]; have r0 := HB1.out.c 0 _ rfl; have r1 := HB1.out.c 1 _ rfl; have r2 := HB1.out.c 2 _ rfl; have r3 := HB1.out.c 3 _ rfl; have r4 := HB1.out.c 4 _ rfl; have r5 := HB1.out.c 5 _ rfl; have r6 := HB1.out.c 6 _ rfl; have r7 := HB1.out.c 7 _ rfl; have r8 := HB1.out.c 8 _ rfl; have r9 := HB1.out.c 9 _ rfl; have r10 := HB1.out.c 10 _ rfl; have r11 := HB1.out.c 11 _ rfl; have r12 := HB1.out.c 12 _ rfl; have rz := HB1.out.z; have hlt1 : w.heap.size < w1.heap.size := (by omega); have hne : ¬ w.heap.size = w1.heap.size := (by omega); have hne2 : ¬ w1.heap.size = w.heap.size := (by omega); obtain ⟨pb, po, hpa, hpb, gm0, gm1, gm2⟩ := tcellsA (HAT.out _ (Below.refl _ _)) HPP2.out; subst hpa; (simp only [Nat.reduceMul, Nat.reduceAdd] at gm0 gm1 gm2); have hpb2 : ¬ pb = w1.heap.size := (by omega); have hpb3 : ¬ w1.heap.size = pb := (by omega); obtain ⟨pb', po', hpa, _, gy0, gy1, gy2⟩ := tcellsA (HAT.out _ (Below.refl _ _)) HPPy.out; (simp only [Option.some.injEq, Addr.mk.injEq] at hpa); obtain ⟨rfl, rfl, _⟩ := hpa; (rw [← Nat.add_assoc] at gy1 gy2); have hpb4 : pb < w1.heap.size := (by omega); have HAX := Lib.hid (fun (W : World) (hb : Below w1.heap.size w1 W) => HAT.out W hb); clear HAT; have HAT := HAX; clear HAX)
    | (go_at_call 47; (with_reducible refine (HK0.out _ _ _ _ (by omega) (HAT.out _ (by (repeat (first | (with_reducible exact HW3.out) | (with_reducible exact HW4.out) | (with_reducible exact Below.refl _ _) | (with_reducible refine bel_put ?_ (by omega) _) | (with_reducible refine Below.alloc ?_ (by first | omega | (simp; omega)) _)))))).mono ?_); rintro e w' ⟨rfl, rfl⟩)
    | (go_at_call 47; (with_reducible refine (HK1.out _ _ _ _ (by omega) (HAT.out _ (by (repeat (first | (with_reducible exact HW3.out) | (with_reducible exact HW4.out) | (with_reducible exact Below.refl _ _) | (with_reducible refine bel_put ?_ (by omega) _) | (with_reducible refine Below.alloc ?_ (by first | omega | (simp; omega)) _)))))).mono ?_); rintro e w' ⟨rfl, rfl⟩)
    | (go_at_call 47; (with_reducible refine (HK2.out _ _ _ _ (by omega) (HAT.out _ (by (repeat (first | (with_reducible exact HW3.out) | (with_reducible exact HW4.out) | (with_reducible exact Below.refl _ _) | (with_reducible refine bel_put ?_ (by omega) _) | (with_reducible refine Below.alloc ?_ (by first | omega | (simp; omega)) _)))))).mono ?_); rintro e w' ⟨rfl, rfl⟩)
    | (go_at_call 47; (with_reducible refine (HK3.out _ _ _ _ (by omega) (HAT.out _ (by (repeat (first | (with_reducible exact HW3.out) | (with_reducible exact HW4.out) | (with_reducible exact Below.refl _ _) | (with_reducible refine bel_put ?_ (by omega) _) | (with_reducible refine Below.alloc ?_ (by first | omega | (simp; omega)) _)))))).mono ?_); rintro e w' ⟨rfl, rfl⟩)
    | (go_at_call 47; (with_reducible refine (HG0.out _ _ _ _ (by omega) (HAT.out _ (by (repeat (first | (with_reducible exact HW3.out) | (with_reducible exact HW4.out) | (with_reducible exact Below.refl _ _) | (with_reducible refine bel_put ?_ (by omega) _) | (with_reducible refine Below.alloc ?_ (by first | omega | (simp; omega)) _)))))).mono ?_); rintro e w' ⟨rfl, rfl⟩)
    | (go_at_call 47; (with_reducible refine (HG1.out _ _ _ _ (by omega) (HAT.out _ (by (repeat (first | (with_reducible exact HW3.out) | (with_reducible exact HW4.out) | (with_reducible exact Below.refl _ _) | (with_reducible refine bel_put ?_ (by omega) _) | (with_reducible refine Below.alloc ?_ (by first | omega | (simp; omega)) _)))))).mono ?_); rintro e w' ⟨rfl, rfl⟩)
    | (go_at_call 47; (with_reducible refine (HG2.out _ _ _ _ (by omega) (HAT.out _ (by (repeat (first | (with_reducible exact HW3.out) | (with_reducible exact HW4.out) | (with_reducible exact Below.refl _ _) | (with_reducible refine bel_put ?_ (by omega) _) | (with_reducible refine Below.alloc ?_ (by first | omega | (simp; omega)) _)))))).mono ?_); rintro e w' ⟨rfl, rfl⟩)
    | (go_at_call 47; (with_reducible refine (HG3.out _ _ _ _ (by omega) (HAT.out _ (by (repeat (first | (with_reducible exact HW3.out) | (with_reducible exact HW4.out) | (with_reducible exact Below.refl _ _) | (with_reducible refine bel_put ?_ (by omega) _) | (with_reducible refine Below.alloc ?_ (by first | omega | (simp; omega)) _)))))).mono ?_); rintro e w' ⟨rfl, rfl⟩)
    | (go_at_call 50; (with_reducible refine (HB1a.out _ _ _ _ (by omega) (HAT.out _ (by (repeat (first | (with_reducible exact HW3.out) | (with_reducible exact HW4.out) | (with_reducible exact Below.refl _ _) | (with_reducible refine bel_put ?_ (by omega) _) | (with_reducible refine Below.alloc ?_ (by first | omega | (simp; omega)) _)))))).mono ?_); rintro e w' ⟨rfl, rfl⟩)
    | (go_at_call 50; (with_reducible refine (HB4a.out _ _ _ _ (by omega) (HAT.out _ (by (repeat (first | (with_reducible exact HW3.out) | (with_reducible exact HW4.out) | (with_reducible exact Below.refl _ _) | (with_reducible refine bel_put ?_ (by omega) _) | (with_reducible refine Below.alloc ?_ (by first | omega | (simp; omega)) _)))))).mono ?_); rintro e w' ⟨rfl, rfl⟩))
  refine bodyPost_ret (v := headV zP zP zP zP false) ?_ rfl ⟨rfl, ?_⟩
  · simp [results, Try.results21, go_sem, r0, r1, r2, r3, r4, r5, r6, r7, r8, r9, r10, r11, r12, hne, hne2, hlt1]
  · (repeat (first | (with_reducible exact HBW.out) | (with_reducible refine bel_put ?_ (by omega) _) | (with_reducible refine Below.alloc ?_ (by first | omega | (simp; omega)) _)))

set_option maxRecDepth 20000 in
set_option maxHeartbeats 4000000 in
theorem rr_n3_t4 {b off : Nat} (RR : RRow w b off n cap l) (hwf : ∀ j, -2147483648 ≤ l.getD j 0 ∧ l.getD j 0 ≤ 2147483647) (hn : n ≤ 900) (hP : inP dtP l f t = P) (h0 : kindN P 0 = 1) (h1 : kindN P 1 = 3) (h2 : kindN P 2 = 2) {m0 m1 m2 : Nat} (hp2 : P[2]? = some (m0, m1, m2)) {x3 : Nat} (h3 : kindN P 3 = x3) (hx3 : x3 ≠ 3) {j1 : Nat} (hb1 : blankN P 3 = j1) (hj1 : j1 ≤ 100) (g0 : kindN P (j1) = 5) {x : Nat} (g1 : kindN P (j1 + 1) = x) (gx6 : x ≠ 6) (gx5 : x ≠ 5) :
    Calls Try.prog 21 #[.slice (some ⟨b, off, none⟩) n cap, .int .i64 f, .int .i64 t] w (HeadD w ((zP, zP, zP, zP), false)) := by
  have R : NRow w (some ⟨b, off, none⟩) n cap l := ⟨RR.len, RR.le, RR.max, RR.cells⟩
  have HP := Lib.hid (fun hb => rparts_any (R.below (w' := w.alloc rheadZ) hb) hwf (by omega) f t)
  have HP := Lib.hid (HP.out (one_ok w rheadZ))
  rw [hP] at HP
  obtain ⟨q, hq'⟩ : ∃ q, q = P.length := ⟨_, rfl⟩
  have hq : P.length = q := hq'.symm
  have HQ := Lib.hid hq
  have hqb : q ≤ 1000 := by rw [hq', ← hP]; have := inP_length dtP_facts l f t; rw [R.len] at this; omega
  have HB0 := Lib.hid (HBx.new w [.int .i64 0, .int .i64 0, .int .i64 0, .int .i64 0, .int .i64 0, .int .i64 0, .int .i64 0, .int .i64 0, .int .i64 0, .int .i64 0, .int .i64 0, .int .i64 0, .bool false] 38)
  have HK0 := Lib.hid (show KindAt P q (0) 1 from kindAt hq hqb h0)
  have HK1 := Lib.hid (show KindAt P q (1) 3 from kindAt hq hqb h1)
  have HK2 := Lib.hid (show KindAt P q (2) 2 from kindAt hq hqb h2)
  have HK3 := Lib.hid (show KindAt P q (3) (x3 : Nat) from kindAt hq hqb h3)
  have HG0 := Lib.hid (show KindAt P q (j1) 5 from kindAt hq hqb g0)
  have HG1 := Lib.hid (show KindAt P q (j1 + 1) (x : Nat) from kindAt hq hqb g1)
  have HB1a := Lib.hid (blankAt hq hqb (j := 3) (by omega) hb1)
  have e3 : ((x3 : Int) == 3) = false := by simp; omega
  have e3' : ((x3 : Int) != 3) = true := by simp; omega
  have ex6 : ((x : Int) == 6) = false := by simp; omega
  have ex6' : ((x : Int) != 6) = true := by simp; omega
  have ex5 : ((x : Int) == 5) = false := by simp; omega
  have ex5' : ((x : Int) != 5) = true := by simp; omega
  have HPP2 := Lib.hid hp2
  have bq2 : (2 : Int) < (q : Int) := by have := (List.getElem?_eq_some_iff.1 hp2).1; omega
  have tk0 : True := trivial
  clear R RR hwf hP hq hq' h0 h1 h2 h3 g0 g1 hb1 hp2
  go_enter Try.func21, Try.ntmps21
  go_wp2_with (first
    | (go_at_call 14; (with_reducible refine HP.out.mono ?_); rintro e w1 ⟨pv, rfl, hown, hb1⟩; obtain ⟨va, vc, rfl, hvc⟩ := owns_slice hown; have hs1 : w.heap.size + 1 ≤ w1.heap.size := (by have := hb1.size; simp at this; omega); have HAT := Lib.hid (fun (W : World) (hb : Below w1.heap.size w1 W) => (AtCells.of_owns hown).below hb); have HBW := Lib.hid ((one_ok w rheadZ).trans (hb1.mono (by simp))); have HB1 := Lib.hid (HB0.out.kept (Kept.of_below (p := w1.heap.size) hb1) (by omega)); clear hown hb1; rw [HQ.out]; have r0 := HB1.out.c 0 _ rfl; have r1 := HB1.out.c 1 _ rfl; have r2 := HB1.out.c 2 _ rfl; have r3 := HB1.out.c 3 _ rfl; have r4 := HB1.out.c 4 _ rfl; have r5 := HB1.out.c 5 _ rfl; have r6 := HB1.out.c 6 _ rfl; have r7 := HB1.out.c 7 _ rfl; have r8 := HB1.out.c 8 _ rfl; have r9 := HB1.out.c 9 _ rfl; have r10 := HB1.out.c 10 _ rfl; have r11 := HB1.out.c 11 _ rfl; have r12 := HB1.out.c 12 _ rfl; have rz := HB1.out.z; have hlt1 : w.heap.size < w1.heap.size := (by omega); have hne : ¬ w.heap.size = w1.heap.size := (by omega); have hne2 : ¬ w1.heap.size = w.heap.size := (by omega); obtain ⟨pb, po, hpa, hpb, gm0, gm1, gm2⟩ := tcellsA (HAT.out _ (Below.refl _ _)) HPP2.out; subst hpa; (simp only [Nat.reduceMul, Nat.reduceAdd] at gm0 gm1 gm2); have hpb2 : ¬ pb = w1.heap.size := (by omega); have hpb3 : ¬ w1.heap.size = pb := (by omega); have hpb4 : pb < w1.heap.size := (by omega); have HAX := Lib.hid (fun (W : World) (hb : Below w1.heap.size w1 W) => HAT.out W hb); clear HAT; have HAT := HAX; clear HAX)
    | (go_at_call 47; (with_reducible refine (HK0.out _ _ _ _ (by omega) (HAT.out _ (by (repeat (first | (with_reducible exact HW3.out) | (with_reducible exact HW4.out) | (with_reducible exact Below.refl _ _) | (with_reducible refine bel_put ?_ (by omega) _) | (with_reducible refine Below.alloc ?_ (by first | omega | (simp; omega)) _)))))).mono ?_); rintro e w' ⟨rfl, rfl⟩)
    | (go_at_call 47; (with_reducible refine (HK1.out _ _ _ _ (by omega) (HAT.out _ (by (repeat (first | (with_reducible exact HW3.out) | (with_reducible exact HW4.out) | (with_reducible exact Below.refl _ _) | (with_reducible refine bel_put ?_ (by omega) _) | (with_reducible refine Below.alloc ?_ (by first | omega | (simp; omega)) _)))))).mono ?_); rintro e w' ⟨rfl, rfl⟩)
    | (go_at_call 47; (with_reducible refine (HK2.out _ _ _ _ (by omega) (HAT.out _ (by (repeat (first | (with_reducible exact HW3.out) | (with_reducible exact HW4.out) | (with_reducible exact Below.refl _ _) | (with_reducible refine bel_put ?_ (by omega) _) | (with_reducible refine Below.alloc ?_ (by first | omega | (simp; omega)) _)))))).mono ?_); rintro e w' ⟨rfl, rfl⟩)
    | (go_at_call 47; (with_reducible refine (HK3.out _ _ _ _ (by omega) (HAT.out _ (by (repeat (first | (with_reducible exact HW3.out) | (with_reducible exact HW4.out) | (with_reducible exact Below.refl _ _) | (with_reducible refine bel_put ?_ (by omega) _) | (with_reducible refine Below.alloc ?_ (by first | omega | (simp; omega)) _)))))).mono ?_); rintro e w' ⟨rfl, rfl⟩)
    | (go_at_call 47; (with_reducible refine (HG0.out _ _ _ _ (by omega) (HAT.out _ (by (repeat (first | (with_reducible exact HW3.out) | (with_reducible exact HW4.out) | (with_reducible exact Below.refl _ _) | (with_reducible refine bel_put ?_ (by omega) _) | (with_reducible refine Below.alloc ?_ (by first | omega | (simp; omega)) _)))))).mono ?_); rintro e w' ⟨rfl, rfl⟩)
    | (go_at_call 47; (with_reducible refine (HG1.out _ _ _ _ (by omega) (HAT.out _ (by (repeat (first | (with_reducible exact HW3.out) | (with_reducible exact HW4.out) | (with_reducible exact Below.refl _ _) | (with_reducible refine bel_put ?_ (by omega) _) | (with_reducible refine Below.alloc ?_ (by first | omega | (simp; omega)) _)))))).mono ?_); rintro e w' ⟨rfl, rfl⟩)
    | (go_at_call 50; (with_reducible refine (HB1a.out _ _ _ _ (by omega) (HAT.out _ (by (repeat (first | (with_reducible exact HW3.out) | (with_reducible exact HW4.out) | (with_reducible exact Below.refl _ _) | (with_reducible refine bel_put ?_ (by omega) _) | (with_reducible refine Below.alloc ?_ (by first | omega | (simp; omega)) _)))))).mono ?_); rintro e w' ⟨rfl, rfl⟩))
  refine bodyPost_ret (v := headV zP zP zP zP false) ?_ rfl ⟨rfl, ?_⟩
  · simp [results, Try.results21, go_sem, r0, r1, r2, r3, r4, r5, r6, r7, r8, r9, r10, r11, r12, hne, hne2, hlt1]
  · (repeat (first | (with_reducible exact HBW.out) | (with_reducible refine bel_put ?_ (by omega) _) | (with_reducible refine Below.alloc ?_ (by first | omega | (simp; omega)) _)))

set_option maxRecDepth 20000 in
set_option maxHeartbeats 4000000 in
theorem rr_n3_t5 {b off : Nat} (RR : RRow w b off n cap l) (hwf : ∀ j, -2147483648 ≤ l.getD j 0 ∧ l.getD j 0 ≤ 2147483647) (hn : n ≤ 900) (hP : inP dtP l f t = P) (h0 : kindN P 0 = 1) (h1 : kindN P 1 = 3) (h2 : kindN P 2 = 2) {m0 m1 m2 : Nat} (hp2 : P[2]? = some (m0, m1, m2)) {x3 : Nat} (h3 : kindN P 3 = x3) (hx3 : x3 ≠ 3) {j1 : Nat} (hb1 : blankN P 3 = j1) (hj1 : j1 ≤ 100) {j4 : Nat} (hb4 : blankN P (j1 + 2) = j4) (hj4 : j4 ≤ 200) (g0 : kindN P (j1) = 5) (g1 : kindN P (j1 + 1) = 5) (g2 : kindN P (j4) = 7) (hL7 : j4 + 1 = P.length) :
    Calls Try.prog 21 #[.slice (some ⟨b, off, none⟩) n cap, .int .i64 f, .int .i64 t] w (HeadD w (((m0, m1, m2), zP, zP, zP), true)) := by
  have R : NRow w (some ⟨b, off, none⟩) n cap l := ⟨RR.len, RR.le, RR.max, RR.cells⟩
  have HP := Lib.hid (fun hb => rparts_any (R.below (w' := w.alloc rheadZ) hb) hwf (by omega) f t)
  have HP := Lib.hid (HP.out (one_ok w rheadZ))
  rw [hP] at HP
  obtain ⟨q, hq'⟩ : ∃ q, q = P.length := ⟨_, rfl⟩
  have hq : P.length = q := hq'.symm
  have HQ := Lib.hid hq
  have hqb : q ≤ 1000 := by rw [hq', ← hP]; have := inP_length dtP_facts l f t; rw [R.len] at this; omega
  have HB0 := Lib.hid (HBx.new w [.int .i64 0, .int .i64 0, .int .i64 0, .int .i64 0, .int .i64 0, .int .i64 0, .int .i64 0, .int .i64 0, .int .i64 0, .int .i64 0, .int .i64 0, .int .i64 0, .bool false] 38)
  have HK0 := Lib.hid (show KindAt P q (0) 1 from kindAt hq hqb h0)
  have HK1 := Lib.hid (show KindAt P q (1) 3 from kindAt hq hqb h1)
  have HK2 := Lib.hid (show KindAt P q (2) 2 from kindAt hq hqb h2)
  have HK3 := Lib.hid (show KindAt P q (3) (x3 : Nat) from kindAt hq hqb h3)
  have HG0 := Lib.hid (show KindAt P q (j1) 5 from kindAt hq hqb g0)
  have HG1 := Lib.hid (show KindAt P q (j1 + 1) 5 from kindAt hq hqb g1)
  have HG2 := Lib.hid (show KindAt P q (j4) 7 from kindAt hq hqb g2)
  have HB1a := Lib.hid (blankAt hq hqb (j := 3) (by omega) hb1)
  have HB4a := Lib.hid (blankAt hq hqb (j := j1 + 2) (by omega) hb4)
  have hz7 : (j4 : Int) + 1 = q := by omega
  have hz8 : ((j4 : Int) + 1 != (q : Int)) = false := by simp; omega
  have e3 : ((x3 : Int) == 3) = false := by simp; omega
  have e3' : ((x3 : Int) != 3) = true := by simp; omega
  have HPP2 := Lib.hid hp2
  have bq2 : (2 : Int) < (q : Int) := by have := (List.getElem?_eq_some_iff.1 hp2).1; omega
  have tk0 : True := trivial
  clear R RR hwf hP hq hq' h0 h1 h2 h3 g0 g1 g2 hb1 hb4 hL7 hp2
  go_enter Try.func21, Try.ntmps21
  go_wp2_with (first
    | (go_at_call 14; (with_reducible refine HP.out.mono ?_); rintro e w1 ⟨pv, rfl, hown, hb1⟩; obtain ⟨va, vc, rfl, hvc⟩ := owns_slice hown; have hs1 : w.heap.size + 1 ≤ w1.heap.size := (by have := hb1.size; simp at this; omega); have HAT := Lib.hid (fun (W : World) (hb : Below w1.heap.size w1 W) => (AtCells.of_owns hown).below hb); have HBW := Lib.hid ((one_ok w rheadZ).trans (hb1.mono (by simp))); have HB1 := Lib.hid (HB0.out.kept (Kept.of_below (p := w1.heap.size) hb1) (by omega)); clear hown hb1; rw [HQ.out]; have r0 := HB1.out.c 0 _ rfl; have r1 := HB1.out.c 1 _ rfl; have r2 := HB1.out.c 2 _ rfl; have r3 := HB1.out.c 3 _ rfl; have r4 := HB1.out.c 4 _ rfl; have r5 := HB1.out.c 5 _ rfl; have r6 := HB1.out.c 6 _ rfl; have r7 := HB1.out.c 7 _ rfl; have r8 := HB1.out.c 8 _ rfl; have r9 := HB1.out.c 9 _ rfl; have r10 := HB1.out.c 10 _ rfl; have r11 := HB1.out.c 11 _ rfl; have r12 := HB1.out.c 12 _ rfl; have rz := HB1.out.z; have hlt1 : w.heap.size < w1.heap.size := (by omega); have hne : ¬ w.heap.size = w1.heap.size := (by omega); have hne2 : ¬ w1.heap.size = w.heap.size := (by omega); obtain ⟨pb, po, hpa, hpb, gm0, gm1, gm2⟩ := tcellsA (HAT.out _ (Below.refl _ _)) HPP2.out; subst hpa; (simp only [Nat.reduceMul, Nat.reduceAdd] at gm0 gm1 gm2); have hpb2 : ¬ pb = w1.heap.size := (by omega); have hpb3 : ¬ w1.heap.size = pb := (by omega); have hpb4 : pb < w1.heap.size := (by omega); have HAX := Lib.hid (fun (W : World) (hb : Below w1.heap.size w1 W) => HAT.out W hb); clear HAT; have HAT := HAX; clear HAX)
    | (go_at_call 47; (with_reducible refine (HK0.out _ _ _ _ (by omega) (HAT.out _ (by (repeat (first | (with_reducible exact HW3.out) | (with_reducible exact HW4.out) | (with_reducible exact Below.refl _ _) | (with_reducible refine bel_put ?_ (by omega) _) | (with_reducible refine Below.alloc ?_ (by first | omega | (simp; omega)) _)))))).mono ?_); rintro e w' ⟨rfl, rfl⟩)
    | (go_at_call 47; (with_reducible refine (HK1.out _ _ _ _ (by omega) (HAT.out _ (by (repeat (first | (with_reducible exact HW3.out) | (with_reducible exact HW4.out) | (with_reducible exact Below.refl _ _) | (with_reducible refine bel_put ?_ (by omega) _) | (with_reducible refine Below.alloc ?_ (by first | omega | (simp; omega)) _)))))).mono ?_); rintro e w' ⟨rfl, rfl⟩)
    | (go_at_call 47; (with_reducible refine (HK2.out _ _ _ _ (by omega) (HAT.out _ (by (repeat (first | (with_reducible exact HW3.out) | (with_reducible exact HW4.out) | (with_reducible exact Below.refl _ _) | (with_reducible refine bel_put ?_ (by omega) _) | (with_reducible refine Below.alloc ?_ (by first | omega | (simp; omega)) _)))))).mono ?_); rintro e w' ⟨rfl, rfl⟩)
    | (go_at_call 47; (with_reducible refine (HK3.out _ _ _ _ (by omega) (HAT.out _ (by (repeat (first | (with_reducible exact HW3.out) | (with_reducible exact HW4.out) | (with_reducible exact Below.refl _ _) | (with_reducible refine bel_put ?_ (by omega) _) | (with_reducible refine Below.alloc ?_ (by first | omega | (simp; omega)) _)))))).mono ?_); rintro e w' ⟨rfl, rfl⟩)
    | (go_at_call 47; (with_reducible refine (HG0.out _ _ _ _ (by omega) (HAT.out _ (by (repeat (first | (with_reducible exact HW3.out) | (with_reducible exact HW4.out) | (with_reducible exact Below.refl _ _) | (with_reducible refine bel_put ?_ (by omega) _) | (with_reducible refine Below.alloc ?_ (by first | omega | (simp; omega)) _)))))).mono ?_); rintro e w' ⟨rfl, rfl⟩)
    | (go_at_call 47; (with_reducible refine (HG1.out _ _ _ _ (by omega) (HAT.out _ (by (repeat (first | (with_reducible exact HW3.out) | (with_reducible exact HW4.out) | (with_reducible exact Below.refl _ _) | (with_reducible refine bel_put ?_ (by omega) _) | (with_reducible refine Below.alloc ?_ (by first | omega | (simp; omega)) _)))))).mono ?_); rintro e w' ⟨rfl, rfl⟩)
    | (go_at_call 47; (with_reducible refine (HG2.out _ _ _ _ (by omega) (HAT.out _ (by (repeat (first | (with_reducible exact HW3.out) | (with_reducible exact HW4.out) | (with_reducible exact Below.refl _ _) | (with_reducible refine bel_put ?_ (by omega) _) | (with_reducible refine Below.alloc ?_ (by first | omega | (simp; omega)) _)))))).mono ?_); rintro e w' ⟨rfl, rfl⟩)
    | (go_at_call 50; (with_reducible refine (HB1a.out _ _ _ _ (by omega) (HAT.out _ (by (repeat (first | (with_reducible exact HW3.out) | (with_reducible exact HW4.out) | (with_reducible exact Below.refl _ _) | (with_reducible refine bel_put ?_ (by omega) _) | (with_reducible refine Below.alloc ?_ (by first | omega | (simp; omega)) _)))))).mono ?_); rintro e w' ⟨rfl, rfl⟩)
    | (go_at_call 50; (with_reducible refine (HB4a.out _ _ _ _ (by omega) (HAT.out _ (by (repeat (first | (with_reducible exact HW3.out) | (with_reducible exact HW4.out) | (with_reducible exact Below.refl _ _) | (with_reducible refine bel_put ?_ (by omega) _) | (with_reducible refine Below.alloc ?_ (by first | omega | (simp; omega)) _)))))).mono ?_); rintro e w' ⟨rfl, rfl⟩))
  refine bodyPost_ret (v := headV (m0, m1, m2) zP zP zP true) ?_ rfl ⟨rfl, ?_⟩
  · simp [results, Try.results21, go_sem, r0, r1, r2, r3, r4, r5, r6, r7, r8, r9, r10, r11, r12, hne, hne2, hlt1]
  · (repeat (first | (with_reducible exact HBW.out) | (with_reducible refine bel_put ?_ (by omega) _) | (with_reducible refine Below.alloc ?_ (by first | omega | (simp; omega)) _)))

set_option maxRecDepth 20000 in
set_option maxHeartbeats 4000000 in
theorem rr_n3_t6 {b off : Nat} (RR : RRow w b off n cap l) (hwf : ∀ j, -2147483648 ≤ l.getD j 0 ∧ l.getD j 0 ≤ 2147483647) (hn : n ≤ 900) (hP : inP dtP l f t = P) (h0 : kindN P 0 = 1) (h1 : kindN P 1 = 3) (h2 : kindN P 2 = 2) {m0 m1 m2 : Nat} (hp2 : P[2]? = some (m0, m1, m2)) {x3 : Nat} (h3 : kindN P 3 = x3) (hx3 : x3 ≠ 3) {j1 : Nat} (hb1 : blankN P 3 = j1) (hj1 : j1 ≤ 100) {j4 : Nat} (hb4 : blankN P (j1 + 2) = j4) (hj4 : j4 ≤ 200) (g0 : kindN P (j1) = 5) (g1 : kindN P (j1 + 1) = 5) {x : Nat} (g2 : kindN P (j4) = x) (gx7 : x ≠ 7) :
    Calls Try.prog 21 #[.slice (some ⟨b, off, none⟩) n cap, .int .i64 f, .int .i64 t] w (HeadD w ((zP, zP, zP, zP), false)) := by
  have R : NRow w (some ⟨b, off, none⟩) n cap l := ⟨RR.len, RR.le, RR.max, RR.cells⟩
  have HP := Lib.hid (fun hb => rparts_any (R.below (w' := w.alloc rheadZ) hb) hwf (by omega) f t)
  have HP := Lib.hid (HP.out (one_ok w rheadZ))
  rw [hP] at HP
  obtain ⟨q, hq'⟩ : ∃ q, q = P.length := ⟨_, rfl⟩
  have hq : P.length = q := hq'.symm
  have HQ := Lib.hid hq
  have hqb : q ≤ 1000 := by rw [hq', ← hP]; have := inP_length dtP_facts l f t; rw [R.len] at this; omega
  have HB0 := Lib.hid (HBx.new w [.int .i64 0, .int .i64 0, .int .i64 0, .int .i64 0, .int .i64 0, .int .i64 0, .int .i64 0, .int .i64 0, .int .i64 0, .int .i64 0, .int .i64 0, .int .i64 0, .bool false] 38)
  have HK0 := Lib.hid (show KindAt P q (0) 1 from kindAt hq hqb h0)
  have HK1 := Lib.hid (show KindAt P q (1) 3 from kindAt hq hqb h1)
  have HK2 := Lib.hid (show KindAt P q (2) 2 from kindAt hq hqb h2)
  have HK3 := Lib.hid (show KindAt P q (3) (x3 : Nat) from kindAt hq hqb h3)
  have HG0 := Lib.hid (show KindAt P q (j1) 5 from kindAt hq hqb g0)
  have HG1 := Lib.hid (show KindAt P q (j1 + 1) 5 from kindAt hq hqb g1)
  have HG2 := Lib.hid (show KindAt P q (j4) (x : Nat) from kindAt hq hqb g2)
  have HB1a := Lib.hid (blankAt hq hqb (j := 3) (by omega) hb1)
  have HB4a := Lib.hid (blankAt hq hqb (j := j1 + 2) (by omega) hb4)
  have e3 : ((x3 : Int) == 3) = false := by simp; omega
  have e3' : ((x3 : Int) != 3) = true := by simp; omega
  have ex7 : ((x : Int) == 7) = false := by simp; omega
  have ex7' : ((x : Int) != 7) = true := by simp; omega
  have HPP2 := Lib.hid hp2
  have bq2 : (2 : Int) < (q : Int) := by have := (List.getElem?_eq_some_iff.1 hp2).1; omega
  have tk0 : True := trivial
  clear R RR hwf hP hq hq' h0 h1 h2 h3 g0 g1 g2 hb1 hb4 hp2
  go_enter Try.func21, Try.ntmps21
  go_wp2_with (first
    | (go_at_call 14; (with_reducible refine HP.out.mono ?_); rintro e w1 ⟨pv, rfl, hown, hb1⟩; obtain ⟨va, vc, rfl, hvc⟩ := owns_slice hown; have hs1 : w.heap.size + 1 ≤ w1.heap.size := (by have := hb1.size; simp at this; omega); have HAT := Lib.hid (fun (W : World) (hb : Below w1.heap.size w1 W) => (AtCells.of_owns hown).below hb); have HBW := Lib.hid ((one_ok w rheadZ).trans (hb1.mono (by simp))); have HB1 := Lib.hid (HB0.out.kept (Kept.of_below (p := w1.heap.size) hb1) (by omega)); clear hown hb1; rw [HQ.out]; have r0 := HB1.out.c 0 _ rfl; have r1 := HB1.out.c 1 _ rfl; have r2 := HB1.out.c 2 _ rfl; have r3 := HB1.out.c 3 _ rfl; have r4 := HB1.out.c 4 _ rfl; have r5 := HB1.out.c 5 _ rfl; have r6 := HB1.out.c 6 _ rfl; have r7 := HB1.out.c 7 _ rfl; have r8 := HB1.out.c 8 _ rfl; have r9 := HB1.out.c 9 _ rfl; have r10 := HB1.out.c 10 _ rfl; have r11 := HB1.out.c 11 _ rfl; have r12 := HB1.out.c 12 _ rfl; have rz := HB1.out.z; have hlt1 : w.heap.size < w1.heap.size := (by omega); have hne : ¬ w.heap.size = w1.heap.size := (by omega); have hne2 : ¬ w1.heap.size = w.heap.size := (by omega); obtain ⟨pb, po, hpa, hpb, gm0, gm1, gm2⟩ := tcellsA (HAT.out _ (Below.refl _ _)) HPP2.out; subst hpa; (simp only [Nat.reduceMul, Nat.reduceAdd] at gm0 gm1 gm2); have hpb2 : ¬ pb = w1.heap.size := (by omega); have hpb3 : ¬ w1.heap.size = pb := (by omega); have hpb4 : pb < w1.heap.size := (by omega); have HAX := Lib.hid (fun (W : World) (hb : Below w1.heap.size w1 W) => HAT.out W hb); clear HAT; have HAT := HAX; clear HAX)
    | (go_at_call 47; (with_reducible refine (HK0.out _ _ _ _ (by omega) (HAT.out _ (by (repeat (first | (with_reducible exact HW3.out) | (with_reducible exact HW4.out) | (with_reducible exact Below.refl _ _) | (with_reducible refine bel_put ?_ (by omega) _) | (with_reducible refine Below.alloc ?_ (by first | omega | (simp; omega)) _)))))).mono ?_); rintro e w' ⟨rfl, rfl⟩)
    | (go_at_call 47; (with_reducible refine (HK1.out _ _ _ _ (by omega) (HAT.out _ (by (repeat (first | (with_reducible exact HW3.out) | (with_reducible exact HW4.out) | (with_reducible exact Below.refl _ _) | (with_reducible refine bel_put ?_ (by omega) _) | (with_reducible refine Below.alloc ?_ (by first | omega | (simp; omega)) _)))))).mono ?_); rintro e w' ⟨rfl, rfl⟩)
    | (go_at_call 47; (with_reducible refine (HK2.out _ _ _ _ (by omega) (HAT.out _ (by (repeat (first | (with_reducible exact HW3.out) | (with_reducible exact HW4.out) | (with_reducible exact Below.refl _ _) | (with_reducible refine bel_put ?_ (by omega) _) | (with_reducible refine Below.alloc ?_ (by first | omega | (simp; omega)) _)))))).mono ?_); rintro e w' ⟨rfl, rfl⟩)
    | (go_at_call 47; (with_reducible refine (HK3.out _ _ _ _ (by omega) (HAT.out _ (by (repeat (first | (with_reducible exact HW3.out) | (with_reducible exact HW4.out) | (with_reducible exact Below.refl _ _) | (with_reducible refine bel_put ?_ (by omega) _) | (with_reducible refine Below.alloc ?_ (by first | omega | (simp; omega)) _)))))).mono ?_); rintro e w' ⟨rfl, rfl⟩)
    | (go_at_call 47; (with_reducible refine (HG0.out _ _ _ _ (by omega) (HAT.out _ (by (repeat (first | (with_reducible exact HW3.out) | (with_reducible exact HW4.out) | (with_reducible exact Below.refl _ _) | (with_reducible refine bel_put ?_ (by omega) _) | (with_reducible refine Below.alloc ?_ (by first | omega | (simp; omega)) _)))))).mono ?_); rintro e w' ⟨rfl, rfl⟩)
    | (go_at_call 47; (with_reducible refine (HG1.out _ _ _ _ (by omega) (HAT.out _ (by (repeat (first | (with_reducible exact HW3.out) | (with_reducible exact HW4.out) | (with_reducible exact Below.refl _ _) | (with_reducible refine bel_put ?_ (by omega) _) | (with_reducible refine Below.alloc ?_ (by first | omega | (simp; omega)) _)))))).mono ?_); rintro e w' ⟨rfl, rfl⟩)
    | (go_at_call 47; (with_reducible refine (HG2.out _ _ _ _ (by omega) (HAT.out _ (by (repeat (first | (with_reducible exact HW3.out) | (with_reducible exact HW4.out) | (with_reducible exact Below.refl _ _) | (with_reducible refine bel_put ?_ (by omega) _) | (with_reducible refine Below.alloc ?_ (by first | omega | (simp; omega)) _)))))).mono ?_); rintro e w' ⟨rfl, rfl⟩)
    | (go_at_call 50; (with_reducible refine (HB1a.out _ _ _ _ (by omega) (HAT.out _ (by (repeat (first | (with_reducible exact HW3.out) | (with_reducible exact HW4.out) | (with_reducible exact Below.refl _ _) | (with_reducible refine bel_put ?_ (by omega) _) | (with_reducible refine Below.alloc ?_ (by first | omega | (simp; omega)) _)))))).mono ?_); rintro e w' ⟨rfl, rfl⟩)
    | (go_at_call 50; (with_reducible refine (HB4a.out _ _ _ _ (by omega) (HAT.out _ (by (repeat (first | (with_reducible exact HW3.out) | (with_reducible exact HW4.out) | (with_reducible exact Below.refl _ _) | (with_reducible refine bel_put ?_ (by omega) _) | (with_reducible refine Below.alloc ?_ (by first | omega | (simp; omega)) _)))))).mono ?_); rintro e w' ⟨rfl, rfl⟩))
  refine bodyPost_ret (v := headV zP zP zP zP false) ?_ rfl ⟨rfl, ?_⟩
  · simp [results, Try.results21, go_sem, r0, r1, r2, r3, r4, r5, r6, r7, r8, r9, r10, r11, r12, hne, hne2, hlt1]
  · (repeat (first | (with_reducible exact HBW.out) | (with_reducible refine bel_put ?_ (by omega) _) | (with_reducible refine Below.alloc ?_ (by first | omega | (simp; omega)) _)))

set_option maxRecDepth 20000 in
set_option maxHeartbeats 4000000 in
theorem rr_n3_t7 {b off : Nat} (RR : RRow w b off n cap l) (hwf : ∀ j, -2147483648 ≤ l.getD j 0 ∧ l.getD j 0 ≤ 2147483647) (hn : n ≤ 900) (hP : inP dtP l f t = P) (h0 : kindN P 0 = 1) (h1 : kindN P 1 = 3) (h2 : kindN P 2 = 2) {m0 m1 m2 : Nat} (hp2 : P[2]? = some (m0, m1, m2)) {x3 : Nat} (h3 : kindN P 3 = x3) (hx3 : x3 ≠ 3) {j1 : Nat} (hb1 : blankN P 3 = j1) (hj1 : j1 ≤ 100) (g0 : kindN P (j1) = 7) (hL7 : j1 + 1 = P.length) :
    Calls Try.prog 21 #[.slice (some ⟨b, off, none⟩) n cap, .int .i64 f, .int .i64 t] w (HeadD w (((m0, m1, m2), zP, zP, zP), true)) := by
  have R : NRow w (some ⟨b, off, none⟩) n cap l := ⟨RR.len, RR.le, RR.max, RR.cells⟩
  have HP := Lib.hid (fun hb => rparts_any (R.below (w' := w.alloc rheadZ) hb) hwf (by omega) f t)
  have HP := Lib.hid (HP.out (one_ok w rheadZ))
  rw [hP] at HP
  obtain ⟨q, hq'⟩ : ∃ q, q = P.length := ⟨_, rfl⟩
  have hq : P.length = q := hq'.symm
  have HQ := Lib.hid hq
  have hqb : q ≤ 1000 := by rw [hq', ← hP]; have := inP_length dtP_facts l f t; rw [R.len] at this; omega
  have HB0 := Lib.hid (HBx.new w [.int .i64 0, .int .i64 0, .int .i64 0, .int .i64 0, .int .i64 0, .int .i64 0, .int .i64 0, .int .i64 0, .int .i64 0, .int .i64 0, .int .i64 0, .int .i64 0, .bool false] 38)
  have HK0 := Lib.hid (show KindAt P q (0) 1 from kindAt hq hqb h0)
  have HK1 := Lib.hid (show KindAt P q (1) 3 from kindAt hq hqb h1)
  have HK2 := Lib.hid (show KindAt P q (2) 2 from kindAt hq hqb h2)
  have HK3 := Lib.hid (show KindAt P q (3) (x3 : Nat) from kindAt hq hqb h3)
  have HG0 := Lib.hid (show KindAt P q (j1) 7 from kindAt hq hqb g0)
  have HB1a := Lib.hid (blankAt hq hqb (j := 3) (by omega) hb1)
  have hz7 : (j1 : Int) + 1 = q := by omega
  have hz8 : ((j1 : Int) + 1 != (q : Int)) = false := by simp; omega
  have e3 : ((x3 : Int) == 3) = false := by simp; omega
  have e3' : ((x3 : Int) != 3) = true := by simp; omega
  have HPP2 := Lib.hid hp2
  have bq2 : (2 : Int) < (q : Int) := by have := (List.getElem?_eq_some_iff.1 hp2).1; omega
  have tk0 : True := trivial
  clear R RR hwf hP hq hq' h0 h1 h2 h3 g0 hb1 hL7 hp2
  go_enter Try.func21, Try.ntmps21
  go_wp2_with (first
    | (go_at_call 14; (with_reducible refine HP.out.mono ?_); rintro e w1 ⟨pv, rfl, hown, hb1⟩; obtain ⟨va, vc, rfl, hvc⟩ := owns_slice hown; have hs1 : w.heap.size + 1 ≤ w1.heap.size := (by have := hb1.size; simp at this; omega); have HAT := Lib.hid (fun (W : World) (hb : Below w1.heap.size w1 W) => (AtCells.of_owns hown).below hb); have HBW := Lib.hid ((one_ok w rheadZ).trans (hb1.mono (by simp))); have HB1 := Lib.hid (HB0.out.kept (Kept.of_below (p := w1.heap.size) hb1) (by omega)); clear hown hb1; rw [HQ.out]; have r0 := HB1.out.c 0 _ rfl; have r1 := HB1.out.c 1 _ rfl; have r2 := HB1.out.c 2 _ rfl; have r3 := HB1.out.c 3 _ rfl; have r4 := HB1.out.c 4 _ rfl; have r5 := HB1.out.c 5 _ rfl; have r6 := HB1.out.c 6 _ rfl; have r7 := HB1.out.c 7 _ rfl; have r8 := HB1.out.c 8 _ rfl; have r9 := HB1.out.c 9 _ rfl; have r10 := HB1.out.c 10 _ rfl; have r11 := HB1.out.c 11 _ rfl; have r12 := HB1.out.c 12 _ rfl; have rz := HB1.out.z; have hlt1 : w.heap.size < w1.heap.size := (by omega); have hne : ¬ w.heap.size = w1.heap.size := (by omega); have hne2 : ¬ w1.heap.size = w.heap.size := (by omega); obtain ⟨pb, po, hpa, hpb, gm0, gm1, gm2⟩ := tcellsA (HAT.out _ (Below.refl _ _)) HPP2.out; subst hpa; (simp only [Nat.reduceMul, Nat.reduceAdd] at gm0 gm1 gm2); have hpb2 : ¬ pb = w1.heap.size := (by omega); have hpb3 : ¬ w1.heap.size = pb := (by omega); have hpb4 : pb < w1.heap.size := (by omega); have HAX := Lib.hid (fun (W : World) (hb : Below w1.heap.size w1 W) => HAT.out W hb); clear HAT; have HAT := HAX; clear HAX)
    | (go_at_call 47; (with_reducible refine (HK0.out _ _ _ _ (by omega) (HAT.out _ (by (repeat (first | (with_reducible exact HW3.out) | (with_reducible exact HW4.out) | (with_reducible exact Below.refl _ _) | (with_reducible refine bel_put ?_ (by omega) _) | (with_reducible refine Below.alloc ?_ (by first | omega | (simp; omega)) _)))))).mono ?_); rintro e w' ⟨rfl, rfl⟩)
    | (go_at_call 47; (with_reducible refine (HK1.out _ _ _ _ (by omega) (HAT.out _ (by (repeat (first | (with_reducible exact HW3.out) | (with_reducible exact HW4.out) | (with_reducible exact Below.refl _ _) | (with_reducible refine bel_put ?_ (by omega) _) | (with_reducible refine Below.alloc ?_ (by first | omega | (simp; omega)) _)))))).mono ?_); rintro e w' ⟨rfl, rfl⟩)
    | (go_at_call 47; (with_reducible refine (HK2.out _ _ _ _ (by omega) (HAT.out _ (by (repeat (first | (with_reducible exact HW3.out) | (with_reducible exact HW4.out) | (with_reducible exact Below.refl _ _) | (with_reducible refine bel_put ?_ (by omega) _) | (with_reducible refine Below.alloc ?_ (by first | omega | (simp; omega)) _)))))).mono ?_); rintro e w' ⟨rfl, rfl⟩)
    | (go_at_call 47; (with_reducible refine (HK3.out _ _ _ _ (by omega) (HAT.out _ (by (repeat (first | (with_reducible exact HW3.out) | (with_reducible exact HW4.out) | (with_reducible exact Below.refl _ _) | (with_reducible refine bel_put ?_ (by omega) _) | (with_reducible refine Below.alloc ?_ (by first | omega | (simp; omega)) _)))))).mono ?_); rintro e w' ⟨rfl, rfl⟩)
    | (go_at_call 47; (with_reducible refine (HG0.out _ _ _ _ (by omega) (HAT.out _ (by (repeat (first | (with_reducible exact HW3.out) | (with_reducible exact HW4.out) | (with_reducible exact Below.refl _ _) | (with_reducible refine bel_put ?_ (by omega) _) | (with_reducible refine Below.alloc ?_ (by first | omega | (simp; omega)) _)))))).mono ?_); rintro e w' ⟨rfl, rfl⟩)
    | (go_at_call 50; (with_reducible refine (HB1a.out _ _ _ _ (by omega) (HAT.out _ (by (repeat (first | (with_reducible exact HW3.out) | (with_reducible exact HW4.out) | (with_reducible exact Below.refl _ _) | (with_reducible refine bel_put ?_ (by omega) _) | (with_reducible refine Below.alloc ?_ (by first | omega | (simp; omega)) _)))))).mono ?_); rintro e w' ⟨rfl, rfl⟩))
  refine bodyPost_ret (v := headV (m0, m1, m2) zP zP zP true) ?_ rfl ⟨rfl, ?_⟩
  · simp [results, Try.results21, go_sem, r0, r1, r2, r3, r4, r5, r6, r7, r8, r9, r10, r11, r12, hne, hne2, hlt1]
  · (repeat (first | (with_reducible exact HBW.out) | (with_reducible refine bel_put ?_ (by omega) _) | (with_reducible refine Below.alloc ?_ (by first | omega | (simp; omega)) _)))

set_option maxRecDepth 20000 in
set_option maxHeartbeats 4000000 in
theorem rr_n3_t8 {b off : Nat} (RR : RRow w b off n cap l) (hwf : ∀ j, -2147483648 ≤ l.getD j 0 ∧ l.getD j 0 ≤ 2147483647) (hn : n ≤ 900) (hP : inP dtP l f t = P) (h0 : kindN P 0 = 1) (h1 : kindN P 1 = 3) (h2 : kindN P 2 = 2) {m0 m1 m2 : Nat} (hp2 : P[2]? = some (m0, m1, m2)) {x3 : Nat} (h3 : kindN P 3 = x3) (hx3 : x3 ≠ 3) {j1 : Nat} (hb1 : blankN P 3 = j1) (hj1 : j1 ≤ 100) {x : Nat} (g0 : kindN P (j1) = x) (gx5 : x ≠ 5) (gx7 : x ≠ 7) :
    Calls Try.prog 21 #[.slice (some ⟨b, off, none⟩) n cap, .int .i64 f, .int .i64 t] w (HeadD w ((zP, zP, zP, zP), false)) := by
  have R : NRow w (some ⟨b, off, none⟩) n cap l := ⟨RR.len, RR.le, RR.max, RR.cells⟩
  have HP := Lib.hid (fun hb => rparts_any (R.below (w' := w.alloc rheadZ) hb) hwf (by omega) f t)
  have HP := Lib.hid (HP.out (one_ok w rheadZ))
  rw [hP] at HP
  obtain ⟨q, hq'⟩ : ∃ q, q = P.length := ⟨_, rfl⟩
  have hq : P.length = q := hq'.symm
  have HQ := Lib.hid hq
  have hqb : q ≤ 1000 := by rw [hq', ← hP]; have := inP_length dtP_facts l f t; rw [R.len] at this; omega
  have HB0 := Lib.hid (HBx.new w [.int .i64 0, .int .i64 0, .int .i64 0, .int .i64 0, .int .i64 0, .int .i64 0, .int .i64 0, .int .i64 0, .int .i64 0, .int .i64 0, .int .i64 0, .int .i64 0, .bool false] 38)
  have HK0 := Lib.hid (show KindAt P q (0) 1 from kindAt hq hqb h0)
  have HK1 := Lib.hid (show KindAt P q (1) 3 from kindAt hq hqb h1)
  have HK2 := Lib.hid (show KindAt P q (2) 2 from kindAt hq hqb h2)
  have HK3 := Lib.hid (show KindAt P q (3) (x3 : Nat) from kindAt hq hqb h3)
  have HG0 := Lib.hid (show KindAt P q (j1) (x : Nat) from kindAt hq hqb g0)
  have HB1a := Lib.hid (blankAt hq hqb (j := 3) (by omega) hb1)
  have e3 : ((x3 : Int) == 3) = false := by simp; omega
  have e3' : ((x3 : Int) != 3) = true := by simp; omega
  have ex5 : ((x : Int) == 5) = false := by simp; omega
  have ex5' : ((x : Int) != 5) = true := by simp; omega
  have ex7 : ((x : Int) == 7) = false := by simp; omega
  have ex7' : ((x : Int) != 7) = true := by simp; omega
  have HPP2 := Lib.hid hp2
  have bq2 : (2 : Int) < (q : Int) := by have := (List.getElem?_eq_some_iff.1 hp2).1; omega
  have tk0 : True := trivial
  clear R RR hwf hP hq hq' h0 h1 h2 h3 g0 hb1 hp2
  go_enter Try.func21, Try.ntmps21
  go_wp2_with (first
    | (go_at_call 14; (with_reducible refine HP.out.mono ?_); rintro e w1 ⟨pv, rfl, hown, hb1⟩; obtain ⟨va, vc, rfl, hvc⟩ := owns_slice hown; have hs1 : w.heap.size + 1 ≤ w1.heap.size := (by have := hb1.size; simp at this; omega); have HAT := Lib.hid (fun (W : World) (hb : Below w1.heap.size w1 W) => (AtCells.of_owns hown).below hb); have HBW := Lib.hid ((one_ok w rheadZ).trans (hb1.mono (by simp))); have HB1 := Lib.hid (HB0.out.kept (Kept.of_below (p := w1.heap.size) hb1) (by omega)); clear hown hb1; rw [HQ.out]; have r0 := HB1.out.c 0 _ rfl; have r1 := HB1.out.c 1 _ rfl; have r2 := HB1.out.c 2 _ rfl; have r3 := HB1.out.c 3 _ rfl; have r4 := HB1.out.c 4 _ rfl; have r5 := HB1.out.c 5 _ rfl; have r6 := HB1.out.c 6 _ rfl; have r7 := HB1.out.c 7 _ rfl; have r8 := HB1.out.c 8 _ rfl; have r9 := HB1.out.c 9 _ rfl; have r10 := HB1.out.c 10 _ rfl; have r11 := HB1.out.c 11 _ rfl; have r12 := HB1.out.c 12 _ rfl; have rz := HB1.out.z; have hlt1 : w.heap.size < w1.heap.size := (by omega); have hne : ¬ w.heap.size = w1.heap.size := (by omega); have hne2 : ¬ w1.heap.size = w.heap.size := (by omega); obtain ⟨pb, po, hpa, hpb, gm0, gm1, gm2⟩ := tcellsA (HAT.out _ (Below.refl _ _)) HPP2.out; subst hpa; (simp only [Nat.reduceMul, Nat.reduceAdd] at gm0 gm1 gm2); have hpb2 : ¬ pb = w1.heap.size := (by omega); have hpb3 : ¬ w1.heap.size = pb := (by omega); have hpb4 : pb < w1.heap.size := (by omega); have HAX := Lib.hid (fun (W : World) (hb : Below w1.heap.size w1 W) => HAT.out W hb); clear HAT; have HAT := HAX; clear HAX)
    | (go_at_call 47; (with_reducible refine (HK0.out _ _ _ _ (by omega) (HAT.out _ (by (repeat (first | (with_reducible exact HW3.out) | (with_reducible exact HW4.out) | (with_reducible exact Below.refl _ _) | (with_reducible refine bel_put ?_ (by omega) _) | (with_reducible refine Below.alloc ?_ (by first | omega | (simp; omega)) _)))))).mono ?_); rintro e w' ⟨rfl, rfl⟩)
    | (go_at_call 47; (with_reducible refine (HK1.out _ _ _ _ (by omega) (HAT.out _ (by (repeat (first | (with_reducible exact HW3.out) | (with_reducible exact HW4.out) | (with_reducible exact Below.refl _ _) | (with_reducible refine bel_put ?_ (by omega) _) | (with_reducible refine Below.alloc ?_ (by first | omega | (simp; omega)) _)))))).mono ?_); rintro e w' ⟨rfl, rfl⟩)
    | (go_at_call 47; (with_reducible refine (HK2.out _ _ _ _ (by omega) (HAT.out _ (by (repeat (first | (with_reducible exact HW3.out) | (with_reducible exact HW4.out) | (with_reducible exact Below.refl _ _) | (with_reducible refine bel_put ?_ (by omega) _) | (with_reducible refine Below.alloc ?_ (by first | omega | (simp; omega)) _)))))).mono ?_); rintro e w' ⟨rfl, rfl⟩)
    | (go_at_call 47; (with_reducible refine (HK3.out _ _ _ _ (by omega) (HAT.out _ (by (repeat (first | (with_reducible exact HW3.out) | (with_reducible exact HW4.out) | (with_reducible exact Below.refl _ _) | (with_reducible refine bel_put ?_ (by omega) _) | (with_reducible refine Below.alloc ?_ (by first | omega | (simp; omega)) _)))))).mono ?_); rintro e w' ⟨rfl, rfl⟩)
    | (go_at_call 47; (with_reducible refine (HG0.out _ _ _ _ (by omega) (HAT.out _ (by (repeat (first | (with_reducible exact HW3.out) | (with_reducible exact HW4.out) | (with_reducible exact Below.refl _ _) | (with_reducible refine bel_put ?_ (by omega) _) | (with_reducible refine Below.alloc ?_ (by first | omega | (simp; omega)) _)))))).mono ?_); rintro e w' ⟨rfl, rfl⟩)
    | (go_at_call 50; (with_reducible refine (HB1a.out _ _ _ _ (by omega) (HAT.out _ (by (repeat (first | (with_reducible exact HW3.out) | (with_reducible exact HW4.out) | (with_reducible exact Below.refl _ _) | (with_reducible refine bel_put ?_ (by omega) _) | (with_reducible refine Below.alloc ?_ (by first | omega | (simp; omega)) _)))))).mono ?_); rintro e w' ⟨rfl, rfl⟩))
  refine bodyPost_ret (v := headV zP zP zP zP false) ?_ rfl ⟨rfl, ?_⟩
  · simp [results, Try.results21, go_sem, r0, r1, r2, r3, r4, r5, r6, r7, r8, r9, r10, r11, r12, hne, hne2, hlt1]
  · (repeat (first | (with_reducible exact HBW.out) | (with_reducible refine bel_put ?_ (by omega) _) | (with_reducible refine Below.alloc ?_ (by first | omega | (simp; omega)) _)))

set_option maxRecDepth 20000 in
set_option maxHeartbeats 4000000 in
theorem rr_f5 {b off : Nat} (RR : RRow w b off n cap l) (hwf : ∀ j, -2147483648 ≤ l.getD j 0 ∧ l.getD j 0 ≤ 2147483647) (hn : n ≤ 900) (hP : inP dtP l f t = P) (h0 : kindN P 0 = 1) (h1 : kindN P 1 = 3) (h2 : kindN P 2 = 2) {m0 m1 m2 : Nat} (hp2 : P[2]? = some (m0, m1, m2)) (h3 : kindN P 3 = 3) (h4 : kindN P 4 = 2) {x5 : Nat} (h5 : kindN P 5 = x5) (hx5 : x5 ≠ 3) {a0 a1 a2 : Nat} (hp4 : P[4]? = some (a0, a1, a2)) (ha : a1 ≤ a2) (ha2 : a2 ≤ n) {S : ByteArray} (hS : strOfNums (txt ((l.take a2).drop a1)) = S) :
    Calls Try.prog 21 #[.slice (some ⟨b, off, none⟩) n cap, .int .i64 f, .int .i64 t] w (HeadD w ((zP, zP, zP, zP), false)) := by
  have R : NRow w (some ⟨b, off, none⟩) n cap l := ⟨RR.len, RR.le, RR.max, RR.cells⟩
  have HP := Lib.hid (fun hb => rparts_any (R.below (w' := w.alloc rheadZ) hb) hwf (by omega) f t)
  have HP := Lib.hid (HP.out (one_ok w rheadZ))
  rw [hP] at HP
  obtain ⟨q, hq'⟩ : ∃ q, q = P.length := ⟨_, rfl⟩
  have hq : P.length = q := hq'.symm
  have HQ := Lib.hid hq
  have hqb : q ≤ 1000 := by rw [hq', ← hP]; have := inP_length dtP_facts l f t; rw [R.len] at this; omega
  have HB0 := Lib.hid (HBx.new w [.int .i64 0, .int .i64 0, .int .i64 0, .int .i64 0, .int .i64 0, .int .i64 0, .int .i64 0, .int .i64 0, .int .i64 0, .int .i64 0, .int .i64 0, .int .i64 0, .bool false] 38)
  have HK0 := Lib.hid (show KindAt P q (0) 1 from kindAt hq hqb h0)
  have HK1 := Lib.hid (show KindAt P q (1) 3 from kindAt hq hqb h1)
  have HK2 := Lib.hid (show KindAt P q (2) 2 from kindAt hq hqb h2)
  have HK3 := Lib.hid (show KindAt P q (3) 3 from kindAt hq hqb h3)
  have HK4 := Lib.hid (show KindAt P q (4) 2 from kindAt hq hqb h4)
  have HK5 := Lib.hid (show KindAt P q (5) (x5 : Nat) from kindAt hq hqb h5)
  have HTX := Lib.hid (fun (W : World) (hW : Below w.heap.size w W) => hS ▸ rtext_any (RR.below hW) (by omega) a0 a1 a2 ha ha2)
  have e5 : ((x5 : Int) == 3) = false := by simp; omega
  have e5' : ((x5 : Int) != 3) = true := by simp; omega
  have HPP2 := Lib.hid hp2
  have bq2 : (2 : Int) < (q : Int) := by have := (List.getElem?_eq_some_iff.1 hp2).1; omega
  have HPP4 := Lib.hid hp4
  have bq4 : (4 : Int) < (q : Int) := by have := (List.getElem?_eq_some_iff.1 hp4).1; omega
  have tk0 : True := trivial
  clear R RR hwf hP hq hq' h0 h1 h2 h3 h4 h5 hS hp2 hp4
  go_enter Try.func21, Try.ntmps21
  go_wp2_with (first
    | (go_at_call 14; (with_reducible refine HP.out.mono ?_); rintro e w1 ⟨pv, rfl, hown, hb1⟩; obtain ⟨va, vc, rfl, hvc⟩ := owns_slice hown; have hs1 : w.heap.size + 1 ≤ w1.heap.size := (by have := hb1.size; simp at this; omega); have HAT := Lib.hid (fun (W : World) (hb : Below w1.heap.size w1 W) => (AtCells.of_owns hown).below hb); have HBW := Lib.hid ((one_ok w rheadZ).trans (hb1.mono (by simp))); have HB1 := Lib.hid (HB0.out.kept (Kept.of_below (p := w1.heap.size) hb1) (by omega)); clear hown hb1; rw [HQ.out]; have r0 := HB1.out.c 0 _ rfl; have r1 := HB1.out.c 1 _ rfl; have r2 := HB1.out.c 2 _ rfl; have r3 := HB1.out.c 3 _ rfl; have r4 := HB1.out.c 4 _ rfl; have r5 := HB1.out.c 5 _ rfl; have r6 := HB1.out.c 6 _ rfl; have r7 := HB1.out.c 7 _ rfl; have r8 := HB1.out.c 8 _ rfl; have r9 := HB1.out.c 9 _ rfl; have r10 := HB1.out.c 10 _ rfl; have r11 := HB1.out.c 11 _ rfl; have r12 := HB1.out.c 12 _ rfl; have rz := HB1.out.z; have hlt1 : w.heap.size < w1.heap.size := (by omega); have hne : ¬ w.heap.size = w1.heap.size := (by omega); have hne2 : ¬ w1.heap.size = w.heap.size := (by omega); obtain ⟨pb, po, hpa, hpb, gm0, gm1, gm2⟩ := tcellsA (HAT.out _ (Below.refl _ _)) HPP2.out; subst hpa; (simp only [Nat.reduceMul, Nat.reduceAdd] at gm0 gm1 gm2); have hpb2 : ¬ pb = w1.heap.size := (by omega); have hpb3 : ¬ w1.heap.size = pb := (by omega); obtain ⟨pb', po', hpa, _, ga0, ga1, ga2⟩ := tcellsA (HAT.out _ (Below.refl _ _)) HPP4.out; (simp only [Option.some.injEq, Addr.mk.injEq] at hpa); obtain ⟨rfl, rfl, _⟩ := hpa; (simp only [Nat.reduceMul, Nat.reduceAdd] at ga0 ga1 ga2); have hpb4 : pb < w1.heap.size := (by omega); have HAX := Lib.hid (fun (W : World) (hb : Below w1.heap.size w1 W) => HAT.out W hb); clear HAT; have HAT := HAX; clear HAX)
    | (go_at_call 47; (with_reducible refine (HK0.out _ _ _ _ (by omega) (HAT.out _ (by (repeat (first | (with_reducible exact HW3.out) | (with_reducible exact HW4.out) | (with_reducible exact Below.refl _ _) | (with_reducible refine bel_put ?_ (by omega) _) | (with_reducible refine Below.alloc ?_ (by first | omega | (simp; omega)) _)))))).mono ?_); rintro e w' ⟨rfl, rfl⟩)
    | (go_at_call 47; (with_reducible refine (HK1.out _ _ _ _ (by omega) (HAT.out _ (by (repeat (first | (with_reducible exact HW3.out) | (with_reducible exact HW4.out) | (with_reducible exact Below.refl _ _) | (with_reducible refine bel_put ?_ (by omega) _) | (with_reducible refine Below.alloc ?_ (by first | omega | (simp; omega)) _)))))).mono ?_); rintro e w' ⟨rfl, rfl⟩)
    | (go_at_call 47; (with_reducible refine (HK2.out _ _ _ _ (by omega) (HAT.out _ (by (repeat (first | (with_reducible exact HW3.out) | (with_reducible exact HW4.out) | (with_reducible exact Below.refl _ _) | (with_reducible refine bel_put ?_ (by omega) _) | (with_reducible refine Below.alloc ?_ (by first | omega | (simp; omega)) _)))))).mono ?_); rintro e w' ⟨rfl, rfl⟩)
    | (go_at_call 47; (with_reducible refine (HK3.out _ _ _ _ (by omega) (HAT.out _ (by (repeat (first | (with_reducible exact HW3.out) | (with_reducible exact HW4.out) | (with_reducible exact Below.refl _ _) | (with_reducible refine bel_put ?_ (by omega) _) | (with_reducible refine Below.alloc ?_ (by first | omega | (simp; omega)) _)))))).mono ?_); rintro e w' ⟨rfl, rfl⟩)
    | (go_at_call 47; (with_reducible refine (HK4.out _ _ _ _ (by omega) (HAT.out _ (by (repeat (first | (with_reducible exact HW3.out) | (with_reducible exact HW4.out) | (with_reducible exact Below.refl _ _) | (with_reducible refine bel_put ?_ (by omega) _) | (with_reducible refine Below.alloc ?_ (by first | omega | (simp; omega)) _)))))).mono ?_); rintro e w' ⟨rfl, rfl⟩)
    | (go_at_call 47; (with_reducible refine (HK5.out _ _ _ _ (by omega) (HAT.out _ (by (repeat (first | (with_reducible exact HW3.out) | (with_reducible exact HW4.out) | (with_reducible exact Below.refl _ _) | (with_reducible refine bel_put ?_ (by omega) _) | (with_reducible refine Below.alloc ?_ (by first | omega | (simp; omega)) _)))))).mono ?_); rintro e w' ⟨rfl, rfl⟩)
    | (go_at_call 48; (refine (HTX.out _ (by (repeat (first | (with_reducible exact HBW.out) | (with_reducible refine Below.alloc ?_ (by first | omega | (simp; omega)) _))))).mono ?_); rintro e w3 ⟨rfl, hb3⟩; have HW3 := Lib.hid (Below.more (one_ok w1 (.cells #[.int .i64 (m0 : Nat), .int .i64 (m1 : Nat), .int .i64 (m2 : Nat), .int .i64 0, .int .i64 0, .int .i64 0, .int .i64 0, .int .i64 0, .int .i64 0, .int .i64 0, .int .i64 0, .int .i64 0, .bool false] 38)) hb3); have HW3w := Lib.hid (Below.more HBW.out HW3.out); have HX3 := (HBx.new w1 [.int .i64 (m0 : Nat), .int .i64 (m1 : Nat), .int .i64 (m2 : Nat), .int .i64 0, .int .i64 0, .int .i64 0, .int .i64 0, .int .i64 0, .int .i64 0, .int .i64 0, .int .i64 0, .int .i64 0, .bool false] 38).below hb3; have HR3 := HB1.out.below HW3.out; clear r0 r1 r2 r3 r4 r5 r6 r7 r8 r9 r10 r11 r12 rz gm0 gm1 gm2 ga0 ga1 ga2; have r0 := HR3.c 0 _ rfl; have r1 := HR3.c 1 _ rfl; have r2 := HR3.c 2 _ rfl; have r3 := HR3.c 3 _ rfl; have r4 := HR3.c 4 _ rfl; have r5 := HR3.c 5 _ rfl; have r6 := HR3.c 6 _ rfl; have r7 := HR3.c 7 _ rfl; have r8 := HR3.c 8 _ rfl; have r9 := HR3.c 9 _ rfl; have r10 := HR3.c 10 _ rfl; have r11 := HR3.c 11 _ rfl; have r12 := HR3.c 12 _ rfl; have rz := HR3.z; have x0 := HX3.c 0 _ rfl; have x1 := HX3.c 1 _ rfl; have x2 := HX3.c 2 _ rfl; have x3 := HX3.c 3 _ rfl; have x4 := HX3.c 4 _ rfl; have x5 := HX3.c 5 _ rfl; have x6 := HX3.c 6 _ rfl; have x7 := HX3.c 7 _ rfl; have x8 := HX3.c 8 _ rfl; have x9 := HX3.c 9 _ rfl; have x10 := HX3.c 10 _ rfl; have x11 := HX3.c 11 _ rfl; have x12 := HX3.c 12 _ rfl; have xz := HX3.z; have hz3 : w1.heap.size < w3.heap.size := HX3.lt; have hr3 : w.heap.size < w3.heap.size := HR3.lt; clear hb3))
  refine bodyPost_ret (v := headV zP zP zP zP false) ?_ rfl ⟨rfl, ?_⟩
  · simp [results, Try.results21, go_sem, r0, r1, r2, r3, r4, r5, r6, r7, r8, r9, r10, r11, r12, hne, hne2, hlt1]
  · (repeat (first | (with_reducible exact HBW.out) | (with_reducible exact HW3w.out) | (with_reducible refine bel_put ?_ (by omega) _) | (with_reducible refine Below.alloc ?_ (by first | omega | (simp; omega)) _)))

set_option maxRecDepth 20000 in
set_option maxHeartbeats 4000000 in
theorem rr_f6 {b off : Nat} (RR : RRow w b off n cap l) (hwf : ∀ j, -2147483648 ≤ l.getD j 0 ∧ l.getD j 0 ≤ 2147483647) (hn : n ≤ 900) (hP : inP dtP l f t = P) (h0 : kindN P 0 = 1) (h1 : kindN P 1 = 3) (h2 : kindN P 2 = 2) {m0 m1 m2 : Nat} (hp2 : P[2]? = some (m0, m1, m2)) (h3 : kindN P 3 = 3) (h4 : kindN P 4 = 2) (h5 : kindN P 5 = 3) {x6 : Nat} (h6 : kindN P 6 = x6) (hx6 : x6 ≠ 4) {a0 a1 a2 : Nat} (hp4 : P[4]? = some (a0, a1, a2)) (ha : a1 ≤ a2) (ha2 : a2 ≤ n) {S : ByteArray} (hS : strOfNums (txt ((l.take a2).drop a1)) = S) :
    Calls Try.prog 21 #[.slice (some ⟨b, off, none⟩) n cap, .int .i64 f, .int .i64 t] w (HeadD w ((zP, zP, zP, zP), false)) := by
  have R : NRow w (some ⟨b, off, none⟩) n cap l := ⟨RR.len, RR.le, RR.max, RR.cells⟩
  have HP := Lib.hid (fun hb => rparts_any (R.below (w' := w.alloc rheadZ) hb) hwf (by omega) f t)
  have HP := Lib.hid (HP.out (one_ok w rheadZ))
  rw [hP] at HP
  obtain ⟨q, hq'⟩ : ∃ q, q = P.length := ⟨_, rfl⟩
  have hq : P.length = q := hq'.symm
  have HQ := Lib.hid hq
  have hqb : q ≤ 1000 := by rw [hq', ← hP]; have := inP_length dtP_facts l f t; rw [R.len] at this; omega
  have HB0 := Lib.hid (HBx.new w [.int .i64 0, .int .i64 0, .int .i64 0, .int .i64 0, .int .i64 0, .int .i64 0, .int .i64 0, .int .i64 0, .int .i64 0, .int .i64 0, .int .i64 0, .int .i64 0, .bool false] 38)
  have HK0 := Lib.hid (show KindAt P q (0) 1 from kindAt hq hqb h0)
  have HK1 := Lib.hid (show KindAt P q (1) 3 from kindAt hq hqb h1)
  have HK2 := Lib.hid (show KindAt P q (2) 2 from kindAt hq hqb h2)
  have HK3 := Lib.hid (show KindAt P q (3) 3 from kindAt hq hqb h3)
  have HK4 := Lib.hid (show KindAt P q (4) 2 from kindAt hq hqb h4)
  have HK5 := Lib.hid (show KindAt P q (5) 3 from kindAt hq hqb h5)
  have HK6 := Lib.hid (show KindAt P q (6) (x6 : Nat) from kindAt hq hqb h6)
  have HTX := Lib.hid (fun (W : World) (hW : Below w.heap.size w W) => hS ▸ rtext_any (RR.below hW) (by omega) a0 a1 a2 ha ha2)
  have e6 : ((x6 : Int) == 4) = false := by simp; omega
  have e6' : ((x6 : Int) != 4) = true := by simp; omega
  have HPP2 := Lib.hid hp2
  have bq2 : (2 : Int) < (q : Int) := by have := (List.getElem?_eq_some_iff.1 hp2).1; omega
  have HPP4 := Lib.hid hp4
  have bq4 : (4 : Int) < (q : Int) := by have := (List.getElem?_eq_some_iff.1 hp4).1; omega
  have tk0 : True := trivial
  clear R RR hwf hP hq hq' h0 h1 h2 h3 h4 h5 h6 hS hp2 hp4
  go_enter Try.func21, Try.ntmps21
  go_wp2_with (first
    | (go_at_call 14; (with_reducible refine HP.out.mono ?_); rintro e w1 ⟨pv, rfl, hown, hb1⟩; obtain ⟨va, vc, rfl, hvc⟩ := owns_slice hown; have hs1 : w.heap.size + 1 ≤ w1.heap.size := (by have := hb1.size; simp at this; omega); have HAT := Lib.hid (fun (W : World) (hb : Below w1.heap.size w1 W) => (AtCells.of_owns hown).below hb); have HBW := Lib.hid ((one_ok w rheadZ).trans (hb1.mono (by simp))); have HB1 := Lib.hid (HB0.out.kept (Kept.of_below (p := w1.heap.size) hb1) (by omega)); clear hown hb1; rw [HQ.out]; have r0 := HB1.out.c 0 _ rfl; have r1 := HB1.out.c 1 _ rfl; have r2 := HB1.out.c 2 _ rfl; have r3 := HB1.out.c 3 _ rfl; have r4 := HB1.out.c 4 _ rfl; have r5 := HB1.out.c 5 _ rfl; have r6 := HB1.out.c 6 _ rfl; have r7 := HB1.out.c 7 _ rfl; have r8 := HB1.out.c 8 _ rfl; have r9 := HB1.out.c 9 _ rfl; have r10 := HB1.out.c 10 _ rfl; have r11 := HB1.out.c 11 _ rfl; have r12 := HB1.out.c 12 _ rfl; have rz := HB1.out.z; have hlt1 : w.heap.size < w1.heap.size := (by omega); have hne : ¬ w.heap.size = w1.heap.size := (by omega); have hne2 : ¬ w1.heap.size = w.heap.size := (by omega); obtain ⟨pb, po, hpa, hpb, gm0, gm1, gm2⟩ := tcellsA (HAT.out _ (Below.refl _ _)) HPP2.out; subst hpa; (simp only [Nat.reduceMul, Nat.reduceAdd] at gm0 gm1 gm2); have hpb2 : ¬ pb = w1.heap.size := (by omega); have hpb3 : ¬ w1.heap.size = pb := (by omega); obtain ⟨pb', po', hpa, _, ga0, ga1, ga2⟩ := tcellsA (HAT.out _ (Below.refl _ _)) HPP4.out; (simp only [Option.some.injEq, Addr.mk.injEq] at hpa); obtain ⟨rfl, rfl, _⟩ := hpa; (simp only [Nat.reduceMul, Nat.reduceAdd] at ga0 ga1 ga2); have hpb4 : pb < w1.heap.size := (by omega); have HAX := Lib.hid (fun (W : World) (hb : Below w1.heap.size w1 W) => HAT.out W hb); clear HAT; have HAT := HAX; clear HAX)
    | (go_at_call 47; (with_reducible refine (HK0.out _ _ _ _ (by omega) (HAT.out _ (by (repeat (first | (with_reducible exact HW3.out) | (with_reducible exact HW4.out) | (with_reducible exact Below.refl _ _) | (with_reducible refine bel_put ?_ (by omega) _) | (with_reducible refine Below.alloc ?_ (by first | omega | (simp; omega)) _)))))).mono ?_); rintro e w' ⟨rfl, rfl⟩)
    | (go_at_call 47; (with_reducible refine (HK1.out _ _ _ _ (by omega) (HAT.out _ (by (repeat (first | (with_reducible exact HW3.out) | (with_reducible exact HW4.out) | (with_reducible exact Below.refl _ _) | (with_reducible refine bel_put ?_ (by omega) _) | (with_reducible refine Below.alloc ?_ (by first | omega | (simp; omega)) _)))))).mono ?_); rintro e w' ⟨rfl, rfl⟩)
    | (go_at_call 47; (with_reducible refine (HK2.out _ _ _ _ (by omega) (HAT.out _ (by (repeat (first | (with_reducible exact HW3.out) | (with_reducible exact HW4.out) | (with_reducible exact Below.refl _ _) | (with_reducible refine bel_put ?_ (by omega) _) | (with_reducible refine Below.alloc ?_ (by first | omega | (simp; omega)) _)))))).mono ?_); rintro e w' ⟨rfl, rfl⟩)
    | (go_at_call 47; (with_reducible refine (HK3.out _ _ _ _ (by omega) (HAT.out _ (by (repeat (first | (with_reducible exact HW3.out) | (with_reducible exact HW4.out) | (with_reducible exact Below.refl _ _) | (with_reducible refine bel_put ?_ (by omega) _) | (with_reducible refine Below.alloc ?_ (by first | omega | (simp; omega)) _)))))).mono ?_); rintro e w' ⟨rfl, rfl⟩)
    | (go_at_call 47; (with_reducible refine (HK4.out _ _ _ _ (by omega) (HAT.out _ (by (repeat (first | (with_reducible exact HW3.out) | (with_reducible exact HW4.out) | (with_reducible exact Below.refl _ _) | (with_reducible refine bel_put ?_ (by omega) _) | (with_reducible refine Below.alloc ?_ (by first | omega | (simp; omega)) _)))))).mono ?_); rintro e w' ⟨rfl, rfl⟩)
    | (go_at_call 47; (with_reducible refine (HK5.out _ _ _ _ (by omega) (HAT.out _ (by (repeat (first | (with_reducible exact HW3.out) | (with_reducible exact HW4.out) | (with_reducible exact Below.refl _ _) | (with_reducible refine bel_put ?_ (by omega) _) | (with_reducible refine Below.alloc ?_ (by first | omega | (simp; omega)) _)))))).mono ?_); rintro e w' ⟨rfl, rfl⟩)
    | (go_at_call 47; (with_reducible refine (HK6.out _ _ _ _ (by omega) (HAT.out _ (by (repeat (first | (with_reducible exact HW3.out) | (with_reducible exact HW4.out) | (with_reducible exact Below.refl _ _) | (with_reducible refine bel_put ?_ (by omega) _) | (with_reducible refine Below.alloc ?_ (by first | omega | (simp; omega)) _)))))).mono ?_); rintro e w' ⟨rfl, rfl⟩)
    | (go_at_call 48; (refine (HTX.out _ (by (repeat (first | (with_reducible exact HBW.out) | (with_reducible refine Below.alloc ?_ (by first | omega | (simp; omega)) _))))).mono ?_); rintro e w3 ⟨rfl, hb3⟩; have HW3 := Lib.hid (Below.more (one_ok w1 (.cells #[.int .i64 (m0 : Nat), .int .i64 (m1 : Nat), .int .i64 (m2 : Nat), .int .i64 0, .int .i64 0, .int .i64 0, .int .i64 0, .int .i64 0, .int .i64 0, .int .i64 0, .int .i64 0, .int .i64 0, .bool false] 38)) hb3); have HW3w := Lib.hid (Below.more HBW.out HW3.out); have HX3 := (HBx.new w1 [.int .i64 (m0 : Nat), .int .i64 (m1 : Nat), .int .i64 (m2 : Nat), .int .i64 0, .int .i64 0, .int .i64 0, .int .i64 0, .int .i64 0, .int .i64 0, .int .i64 0, .int .i64 0, .int .i64 0, .bool false] 38).below hb3; have HR3 := HB1.out.below HW3.out; clear r0 r1 r2 r3 r4 r5 r6 r7 r8 r9 r10 r11 r12 rz gm0 gm1 gm2 ga0 ga1 ga2; have r0 := HR3.c 0 _ rfl; have r1 := HR3.c 1 _ rfl; have r2 := HR3.c 2 _ rfl; have r3 := HR3.c 3 _ rfl; have r4 := HR3.c 4 _ rfl; have r5 := HR3.c 5 _ rfl; have r6 := HR3.c 6 _ rfl; have r7 := HR3.c 7 _ rfl; have r8 := HR3.c 8 _ rfl; have r9 := HR3.c 9 _ rfl; have r10 := HR3.c 10 _ rfl; have r11 := HR3.c 11 _ rfl; have r12 := HR3.c 12 _ rfl; have rz := HR3.z; have x0 := HX3.c 0 _ rfl; have x1 := HX3.c 1 _ rfl; have x2 := HX3.c 2 _ rfl; have x3 := HX3.c 3 _ rfl; have x4 := HX3.c 4 _ rfl; have x5 := HX3.c 5 _ rfl; have x6 := HX3.c 6 _ rfl; have x7 := HX3.c 7 _ rfl; have x8 := HX3.c 8 _ rfl; have x9 := HX3.c 9 _ rfl; have x10 := HX3.c 10 _ rfl; have x11 := HX3.c 11 _ rfl; have x12 := HX3.c 12 _ rfl; have xz := HX3.z; have hz3 : w1.heap.size < w3.heap.size := HX3.lt; have hr3 : w.heap.size < w3.heap.size := HR3.lt; clear hb3))
  refine bodyPost_ret (v := headV zP zP zP zP false) ?_ rfl ⟨rfl, ?_⟩
  · simp [results, Try.results21, go_sem, r0, r1, r2, r3, r4, r5, r6, r7, r8, r9, r10, r11, r12, hne, hne2, hlt1]
  · (repeat (first | (with_reducible exact HBW.out) | (with_reducible exact HW3w.out) | (with_reducible refine bel_put ?_ (by omega) _) | (with_reducible refine Below.alloc ?_ (by first | omega | (simp; omega)) _)))

set_option maxRecDepth 20000 in
set_option maxHeartbeats 4000000 in
theorem rr_fs {b off : Nat} (RR : RRow w b off n cap l) (hwf : ∀ j, -2147483648 ≤ l.getD j 0 ∧ l.getD j 0 ≤ 2147483647) (hn : n ≤ 900) (hP : inP dtP l f t = P) (h0 : kindN P 0 = 1) (h1 : kindN P 1 = 3) (h2 : kindN P 2 = 2) {m0 m1 m2 : Nat} (hp2 : P[2]? = some (m0, m1, m2)) (h3 : kindN P 3 = 3) (h4 : kindN P 4 = 2) (h5 : kindN P 5 = 3) (h6 : kindN P 6 = 4) {a0 a1 a2 : Nat} (hp4 : P[4]? = some (a0, a1, a2)) (ha : a1 ≤ a2) (ha2 : a2 ≤ n) {S : ByteArray} (hS : strOfNums (txt ((l.take a2).drop a1)) = S) (hS1 : S ≠ ⟨#[83, 89, 83, 84, 69, 77]⟩) (hS2 : S ≠ ⟨#[80, 85, 66, 76, 73, 67]⟩) :
    Calls Try.prog 21 #[.slice (some ⟨b, off, none⟩) n cap, .int .i64 f, .int .i64 t] w (HeadD w ((zP, zP, zP, zP), false)) := by
  have R : NRow w (some ⟨b, off, none⟩) n cap l := ⟨RR.len, RR.le, RR.max, RR.cells⟩
  have HP := Lib.hid (fun hb => rparts_any (R.below (w' := w.alloc rheadZ) hb) hwf (by omega) f t)
  have HP := Lib.hid (HP.out (one_ok w rheadZ))
  rw [hP] at HP
  obtain ⟨q, hq'⟩ : ∃ q, q = P.length := ⟨_, rfl⟩
  have hq : P.length = q := hq'.symm
  have HQ := Lib.hid hq
  have hqb : q ≤ 1000 := by rw [hq', ← hP]; have := inP_length dtP_facts l f t; rw [R.len] at this; omega
  have HB0 := Lib.hid (HBx.new w [.int .i64 0, .int .i64 0, .int .i64 0, .int .i64 0, .int .i64 0, .int .i64 0, .int .i64 0, .int .i64 0, .int .i64 0, .int .i64 0, .int .i64 0, .int .i64 0, .bool false] 38)
  have HK0 := Lib.hid (show KindAt P q (0) 1 from kindAt hq hqb h0)
  have HK1 := Lib.hid (show KindAt P q (1) 3 from kindAt hq hqb h1)
  have HK2 := Lib.hid (show KindAt P q (2) 2 from kindAt hq hqb h2)
  have HK3 := Lib.hid (show KindAt P q (3) 3 from kindAt hq hqb h3)
  have HK4 := Lib.hid (show KindAt P q (4) 2 from kindAt hq hqb h4)
  have HK5 := Lib.hid (show KindAt P q (5) 3 from kindAt hq hqb h5)
  have HK6 := Lib.hid (show KindAt P q (6) 4 from kindAt hq hqb h6)
  have HTX := Lib.hid (fun (W : World) (hW : Below w.heap.size w W) => hS ▸ rtext_any (RR.below hW) (by omega) a0 a1 a2 ha ha2)
  have es1 : (S.toList == [83, 89, 83, 84, 69, 77]) = false := by simpa using strne hS1
  have es2 : (S.toList == [80, 85, 66, 76, 73, 67]) = false := by simpa using strne hS2
  clear hS1 hS2
  have HPP2 := Lib.hid hp2
  have bq2 : (2 : Int) < (q : Int) := by have := (List.getElem?_eq_some_iff.1 hp2).1; omega
  have HPP4 := Lib.hid hp4
  have bq4 : (4 : Int) < (q : Int) := by have := (List.getElem?_eq_some_iff.1 hp4).1; omega
  have tk0 : True := trivial
  clear R RR hwf hP hq hq' h0 h1 h2 h3 h4 h5 h6 hS hp2 hp4
  go_enter Try.func21, Try.ntmps21
  go_wp2_with (first
    | (go_at_call 14; (with_reducible refine HP.out.mono ?_); rintro e w1 ⟨pv, rfl, hown, hb1⟩; obtain ⟨va, vc, rfl, hvc⟩ := owns_slice hown; have hs1 : w.heap.size + 1 ≤ w1.heap.size := (by have := hb1.size; simp at this; omega); have HAT := Lib.hid (fun (W : World) (hb : Below w1.heap.size w1 W) => (AtCells.of_owns hown).below hb); have HBW := Lib.hid ((one_ok w rheadZ).trans (hb1.mono (by simp))); have HB1 := Lib.hid (HB0.out.kept (Kept.of_below (p := w1.heap.size) hb1) (by omega)); clear hown hb1; rw [HQ.out]; have r0 := HB1.out.c 0 _ rfl; have r1 := HB1.out.c 1 _ rfl; have r2 := HB1.out.c 2 _ rfl; have r3 := HB1.out.c 3 _ rfl; have r4 := HB1.out.c 4 _ rfl; have r5 := HB1.out.c 5 _ rfl; have r6 := HB1.out.c 6 _ rfl; have r7 := HB1.out.c 7 _ rfl; have r8 := HB1.out.c 8 _ rfl; have r9 := HB1.out.c 9 _ rfl; have r10 := HB1.out.c 10 _ rfl; have r11 := HB1.out.c 11 _ rfl; have r12 := HB1.out.c 12 _ rfl; have rz := HB1.out.z; have hlt1 : w.heap.size < w1.heap.size := (by omega); have hne : ¬ w.heap.size = w1.heap.size := (by omega); have hne2 : ¬ w1.heap.size = w.heap.size := (by omega); obtain ⟨pb, po, hpa, hpb, gm0, gm1, gm2⟩ := tcellsA (HAT.out _ (Below.refl _ _)) HPP2.out; subst hpa; (simp only [Nat.reduceMul, Nat.reduceAdd] at gm0 gm1 gm2); have hpb2 : ¬ pb = w1.heap.size := (by omega); have hpb3 : ¬ w1.heap.size = pb := (by omega); obtain ⟨pb', po', hpa, _, ga0, ga1, ga2⟩ := tcellsA (HAT.out _ (Below.refl _ _)) HPP4.out; (simp only [Option.some.injEq, Addr.mk.injEq] at hpa); obtain ⟨rfl, rfl, _⟩ := hpa; (simp only [Nat.reduceMul, Nat.reduceAdd] at ga0 ga1 ga2); have hpb4 : pb < w1.heap.size := (by omega); have HAX := Lib.hid (fun (W : World) (hb : Below w1.heap.size w1 W) => HAT.out W hb); clear HAT; have HAT := HAX; clear HAX)
    | (go_at_call 47; (with_reducible refine (HK0.out _ _ _ _ (by omega) (HAT.out _ (by (repeat (first | (with_reducible exact HW3.out) | (with_reducible exact HW4.out) | (with_reducible exact Below.refl _ _) | (with_reducible refine bel_put ?_ (by omega) _) | (with_reducible refine Below.alloc ?_ (by first | omega | (simp; omega)) _)))))).mono ?_); rintro e w' ⟨rfl, rfl⟩)
    | (go_at_call 47; (with_reducible refine (HK1.out _ _ _ _ (by omega) (HAT.out _ (by (repeat (first | (with_reducible exact HW3.out) | (with_reducible exact HW4.out) | (with_reducible exact Below.refl _ _) | (with_reducible refine bel_put ?_ (by omega) _) | (with_reducible refine Below.alloc ?_ (by first | omega | (simp; omega)) _)))))).mono ?_); rintro e w' ⟨rfl, rfl⟩)
    | (go_at_call 47; (with_reducible refine (HK2.out _ _ _ _ (by omega) (HAT.out _ (by (repeat (first | (with_reducible exact HW3.out) | (with_reducible exact HW4.out) | (with_reducible exact Below.refl _ _) | (with_reducible refine bel_put ?_ (by omega) _) | (with_reducible refine Below.alloc ?_ (by first | omega | (simp; omega)) _)))))).mono ?_); rintro e w' ⟨rfl, rfl⟩)
    | (go_at_call 47; (with_reducible refine (HK3.out _ _ _ _ (by omega) (HAT.out _ (by (repeat (first | (with_reducible exact HW3.out) | (with_reducible exact HW4.out) | (with_reducible exact Below.refl _ _) | (with_reducible refine bel_put ?_ (by omega) _) | (with_reducible refine Below.alloc ?_ (by first | omega | (simp; omega)) _)))))).mono ?_); rintro e w' ⟨rfl, rfl⟩)
    | (go_at_call 47; (with_reducible refine (HK4.out _ _ _ _ (by omega) (HAT.out _ (by (repeat (first | (with_reducible exact HW3.out) | (with_reducible exact HW4.out) | (with_reducible exact Below.refl _ _) | (with_reducible refine bel_put ?_ (by omega) _) | (with_reducible refine Below.alloc ?_ (by first | omega | (simp; omega)) _)))))).mono ?_); rintro e w' ⟨rfl, rfl⟩)
    | (go_at_call 47; (with_reducible refine (HK5.out _ _ _ _ (by omega) (HAT.out _ (by (repeat (first | (with_reducible exact HW3.out) | (with_reducible exact HW4.out) | (with_reducible exact Below.refl _ _) | (with_reducible refine bel_put ?_ (by omega) _) | (with_reducible refine Below.alloc ?_ (by first | omega | (simp; omega)) _)))))).mono ?_); rintro e w' ⟨rfl, rfl⟩)
    | (go_at_call 47; (with_reducible refine (HK6.out _ _ _ _ (by omega) (HAT.out _ (by (repeat (first | (with_reducible exact HW3.out) | (with_reducible exact HW4.out) | (with_reducible exact Below.refl _ _) | (with_reducible refine bel_put ?_ (by omega) _) | (with_reducible refine Below.alloc ?_ (by first | omega | (simp; omega)) _)))))).mono ?_); rintro e w' ⟨rfl, rfl⟩)
    | (go_at_call 48; (refine (HTX.out _ (by (repeat (first | (with_reducible exact HBW.out) | (with_reducible refine Below.alloc ?_ (by first | omega | (simp; omega)) _))))).mono ?_); rintro e w3 ⟨rfl, hb3⟩; have HW3 := Lib.hid (Below.more (one_ok w1 (.cells #[.int .i64 (m0 : Nat), .int .i64 (m1 : Nat), .int .i64 (m2 : Nat), .int .i64 0, .int .i64 0, .int .i64 0, .int .i64 0, .int .i64 0, .int .i64 0, .int .i64 0, .int .i64 0, .int .i64 0, .bool false] 38)) hb3); have HW3w := Lib.hid (Below.more HBW.out HW3.out); have HX3 := (HBx.new w1 [.int .i64 (m0 : Nat), .int .i64 (m1 : Nat), .int .i64 (m2 : Nat), .int .i64 0, .int .i64 0, .int .i64 0, .int .i64 0, .int .i64 0, .int .i64 0, .int .i64 0, .int .i64 0, .int .i64 0, .bool false] 38).below hb3; have HR3 := HB1.out.below HW3.out; clear r0 r1 r2 r3 r4 r5 r6 r7 r8 r9 r10 r11 r12 rz gm0 gm1 gm2 ga0 ga1 ga2; have r0 := HR3.c 0 _ rfl; have r1 := HR3.c 1 _ rfl; have r2 := HR3.c 2 _ rfl; have r3 := HR3.c 3 _ rfl; have r4 := HR3.c 4 _ rfl; have r5 := HR3.c 5 _ rfl; have r6 := HR3.c 6 _ rfl; have r7 := HR3.c 7 _ rfl; have r8 := HR3.c 8 _ rfl; have r9 := HR3.c 9 _ rfl; have r10 := HR3.c 10 _ rfl; have r11 := HR3.c 11 _ rfl; have r12 := HR3.c 12 _ rfl; have rz := HR3.z; have x0 := HX3.c 0 _ rfl; have x1 := HX3.c 1 _ rfl; have x2 := HX3.c 2 _ rfl; have x3 := HX3.c 3 _ rfl; have x4 := HX3.c 4 _ rfl; have x5 := HX3.c 5 _ rfl; have x6 := HX3.c 6 _ rfl; have x7 := HX3.c 7 _ rfl; have x8 := HX3.c 8 _ rfl; have x9 := HX3.c 9 _ rfl; have x10 := HX3.c 10 _ rfl; have x11 := HX3.c 11 _ rfl; have x12 := HX3.c 12 _ rfl; have xz := HX3.z; have hz3 : w1.heap.size < w3.heap.size := HX3.lt; have hr3 : w.heap.size < w3.heap.size := HR3.lt; clear hb3))
  refine bodyPost_ret (v := headV zP zP zP zP false) ?_ rfl ⟨rfl, ?_⟩
  · simp [results, Try.results21, go_sem, r0, r1, r2, r3, r4, r5, r6, r7, r8, r9, r10, r11, r12, hne, hne2, hlt1]
  · (repeat (first | (with_reducible exact HBW.out) | (with_reducible exact HW3w.out) | (with_reducible refine bel_put ?_ (by omega) _) | (with_reducible refine Below.alloc ?_ (by first | omega | (simp; omega)) _)))

set_option maxRecDepth 20000 in
set_option maxHeartbeats 4000000 in
theorem rr_p7 {b off : Nat} (RR : RRow w b off n cap l) (hwf : ∀ j, -2147483648 ≤ l.getD j 0 ∧ l.getD j 0 ≤ 2147483647) (hn : n ≤ 900) (hP : inP dtP l f t = P) (h0 : kindN P 0 = 1) (h1 : kindN P 1 = 3) (h2 : kindN P 2 = 2) {m0 m1 m2 : Nat} (hp2 : P[2]? = some (m0, m1, m2)) (h3 : kindN P 3 = 3) (h4 : kindN P 4 = 2) (h5 : kindN P 5 = 3) (h6 : kindN P 6 = 4) {x7 : Nat} (h7 : kindN P 7 = x7) (hx7 : x7 ≠ 3) {a0 a1 a2 : Nat} (hp4 : P[4]? = some (a0, a1, a2)) (ha : a1 ≤ a2) (ha2 : a2 ≤ n) (hS : strOfNums (txt ((l.take a2).drop a1)) = ⟨#[80, 85, 66, 76, 73, 67]⟩) {b0 b1 b2 : Nat} (hp6 : P[6]? = some (b0, b1, b2)) :
    Calls Try.prog 21 #[.slice (some ⟨b, off, none⟩) n cap, .int .i64 f, .int .i64 t] w (HeadD w ((zP, zP, zP, zP), false)) := by
  have R : NRow w (some ⟨b, off, none⟩) n cap l := ⟨RR.len, RR.le, RR.max, RR.cells⟩
  have HP := Lib.hid (fun hb => rparts_any (R.below (w' := w.alloc rheadZ) hb) hwf (by omega) f t)
  have HP := Lib.hid (HP.out (one_ok w rheadZ))
  rw [hP] at HP
  obtain ⟨q, hq'⟩ : ∃ q, q = P.length := ⟨_, rfl⟩
  have hq : P.length = q := hq'.symm
  have HQ := Lib.hid hq
  have hqb : q ≤ 1000 := by rw [hq', ← hP]; have := inP_length dtP_facts l f t; rw [R.len] at this; omega
  have HB0 := Lib.hid (HBx.new w [.int .i64 0, .int .i64 0, .int .i64 0, .int .i64 0, .int .i64 0, .int .i64 0, .int .i64 0, .int .i64 0, .int .i64 0, .int .i64 0, .int .i64 0, .int .i64 0, .bool false] 38)
  have HK0 := Lib.hid (show KindAt P q (0) 1 from kindAt hq hqb h0)
  have HK1 := Lib.hid (show KindAt P q (1) 3 from kindAt hq hqb h1)
  have HK2 := Lib.hid (show KindAt P q (2) 2 from kindAt hq hqb h2)
  have HK3 := Lib.hid (show KindAt P q (3) 3 from kindAt hq hqb h3)
  have HK4 := Lib.hid (show KindAt P q (4) 2 from kindAt hq hqb h4)
  have HK5 := Lib.hid (show KindAt P q (5) 3 from kindAt hq hqb h5)
  have HK6 := Lib.hid (show KindAt P q (6) 4 from kindAt hq hqb h6)
  have HK7 := Lib.hid (show KindAt P q (7) (x7 : Nat) from kindAt hq hqb h7)
  have HTX := Lib.hid (fun (W : World) (hW : Below w.heap.size w W) => hS ▸ rtext_any (RR.below hW) (by omega) a0 a1 a2 ha ha2)
  have e7 : ((x7 : Int) == 3) = false := by simp; omega
  have e7' : ((x7 : Int) != 3) = true := by simp; omega
  have HPP2 := Lib.hid hp2
  have bq2 : (2 : Int) < (q : Int) := by have := (List.getElem?_eq_some_iff.1 hp2).1; omega
  have HPP4 := Lib.hid hp4
  have bq4 : (4 : Int) < (q : Int) := by have := (List.getElem?_eq_some_iff.1 hp4).1; omega
  have HPP6 := Lib.hid hp6
  have bq6 : (6 : Int) < (q : Int) := by have := (List.getElem?_eq_some_iff.1 hp6).1; omega
  have tk0 : True := trivial
  clear R RR hwf hP hq hq' h0 h1 h2 h3 h4 h5 h6 h7 hS hp2 hp4 hp6
  go_enter Try.func21, Try.ntmps21
  go_wp2_with (first
    | (go_at_call 14; (with_reducible refine HP.out.mono ?_); rintro e w1 ⟨pv, rfl, hown, hb1⟩; obtain ⟨va, vc, rfl, hvc⟩ := owns_slice hown; have hs1 : w.heap.size + 1 ≤ w1.heap.size := (by have := hb1.size; simp at this; omega); have HAT := Lib.hid (fun (W : World) (hb : Below w1.heap.size w1 W) => (AtCells.of_owns hown).below hb); have HBW := Lib.hid ((one_ok w rheadZ).trans (hb1.mono (by simp))); have HB1 := Lib.hid (HB0.out.kept (Kept.of_below (p := w1.heap.size) hb1) (by omega)); clear hown hb1; rw [HQ.out]; have r0 := HB1.out.c 0 _ rfl; have r1 := HB1.out.c 1 _ rfl; have r2 := HB1.out.c 2 _ rfl; have r3 := HB1.out.c 3 _ rfl; have r4 := HB1.out.c 4 _ rfl; have r5 := HB1.out.c 5 _ rfl; have r6 := HB1.out.c 6 _ rfl; have r7 := HB1.out.c 7 _ rfl; have r8 := HB1.out.c 8 _ rfl; have r9 := HB1.out.c 9 _ rfl; have r10 := HB1.out.c 10 _ rfl; have r11 := HB1.out.c 11 _ rfl; have r12 := HB1.out.c 12 _ rfl; have rz := HB1.out.z; have hlt1 : w.heap.size < w1.heap.size := (by omega); have hne : ¬ w.heap.size = w1.heap.size := (by omega); have hne2 : ¬ w1.heap.size = w.heap.size := (by omega); obtain ⟨pb, po, hpa, hpb, gm0, gm1, gm2⟩ := tcellsA (HAT.out _ (Below.refl _ _)) HPP2.out; subst hpa; (simp only [Nat.reduceMul, Nat.reduceAdd] at gm0 gm1 gm2); have hpb2 : ¬ pb = w1.heap.size := (by omega); have hpb3 : ¬ w1.heap.size = pb := (by omega); obtain ⟨pb', po', hpa, _, ga0, ga1, ga2⟩ := tcellsA (HAT.out _ (Below.refl _ _)) HPP4.out; (simp only [Option.some.injEq, Addr.mk.injEq] at hpa); obtain ⟨rfl, rfl, _⟩ := hpa; (simp only [Nat.reduceMul, Nat.reduceAdd] at ga0 ga1 ga2); have hpb4 : pb < w1.heap.size := (by omega); have HAX := Lib.hid (fun (W : World) (hb : Below w1.heap.size w1 W) => HAT.out W hb); clear HAT; have HAT := HAX; clear HAX)
    | (go_at_call 47; (with_reducible refine (HK0.out _ _ _ _ (by omega) (HAT.out _ (by (repeat (first | (with_reducible exact HW3.out) | (with_reducible exact HW4.out) | (with_reducible exact Below.refl _ _) | (with_reducible refine bel_put ?_ (by omega) _) | (with_reducible refine Below.alloc ?_ (by first | omega | (simp; omega)) _)))))).mono ?_); rintro e w' ⟨rfl, rfl⟩)
    | (go_at_call 47; (with_reducible refine (HK1.out _ _ _ _ (by omega) (HAT.out _ (by (repeat (first | (with_reducible exact HW3.out) | (with_reducible exact HW4.out) | (with_reducible exact Below.refl _ _) | (with_reducible refine bel_put ?_ (by omega) _) | (with_reducible refine Below.alloc ?_ (by first | omega | (simp; omega)) _)))))).mono ?_); rintro e w' ⟨rfl, rfl⟩)
    | (go_at_call 47; (with_reducible refine (HK2.out _ _ _ _ (by omega) (HAT.out _ (by (repeat (first | (with_reducible exact HW3.out) | (with_reducible exact HW4.out) | (with_reducible exact Below.refl _ _) | (with_reducible refine bel_put ?_ (by omega) _) | (with_reducible refine Below.alloc ?_ (by first | omega | (simp; omega)) _)))))).mono ?_); rintro e w' ⟨rfl, rfl⟩)
    | (go_at_call 47; (with_reducible refine (HK3.out _ _ _ _ (by omega) (HAT.out _ (by (repeat (first | (with_reducible exact HW3.out) | (with_reducible exact HW4.out) | (with_reducible exact Below.refl _ _) | (with_reducible refine bel_put ?_ (by omega) _) | (with_reducible refine Below.alloc ?_ (by first | omega | (simp; omega)) _)))))).mono ?_); rintro e w' ⟨rfl, rfl⟩)
    | (go_at_call 47; (with_reducible refine (HK4.out _ _ _ _ (by omega) (HAT.out _ (by (repeat (first | (with_reducible exact HW3.out) | (with_reducible exact HW4.out) | (with_reducible exact Below.refl _ _) | (with_reducible refine bel_put ?_ (by omega) _) | (with_reducible refine Below.alloc ?_ (by first | omega | (simp; omega)) _)))))).mono ?_); rintro e w' ⟨rfl, rfl⟩)
    | (go_at_call 47; (with_reducible refine (HK5.out _ _ _ _ (by omega) (HAT.out _ (by (repeat (first | (with_reducible exact HW3.out) | (with_reducible exact HW4.out) | (with_reducible exact Below.refl _ _) | (with_reducible refine bel_put ?_ (by omega) _) | (with_reducible refine Below.alloc ?_ (by first | omega | (simp; omega)) _)))))).mono ?_); rintro e w' ⟨rfl, rfl⟩)
    | (go_at_call 47; (with_reducible refine (HK6.out _ _ _ _ (by omega) (HAT.out _ (by (repeat (first | (with_reducible exact HW3.out) | (with_reducible exact HW4.out) | (with_reducible exact Below.refl _ _) | (with_reducible refine bel_put ?_ (by omega) _) | (with_reducible refine Below.alloc ?_ (by first | omega | (simp; omega)) _)))))).mono ?_); rintro e w' ⟨rfl, rfl⟩)
    | (go_at_call 47; (with_reducible refine (HK7.out _ _ _ _ (by omega) (HAT.out _ (by (repeat (first | (with_reducible exact HW3.out) | (with_reducible exact HW4.out) | (with_reducible exact Below.refl _ _) | (with_reducible refine bel_put ?_ (by omega) _) | (with_reducible refine Below.alloc ?_ (by first | omega | (simp; omega)) _)))))).mono ?_); rintro e w' ⟨rfl, rfl⟩)
    | (go_at_call 48; (refine (HTX.out _ (by (repeat (first | (with_reducible exact HBW.out) | (with_reducible refine Below.alloc ?_ (by first | omega | (simp; omega)) _))))).mono ?_); rintro e w3 ⟨rfl, hb3⟩; have HW3 := Lib.hid (Below.more (one_ok w1 (.cells #[.int .i64 (m0 : Nat), .int .i64 (m1 : Nat), .int .i64 (m2 : Nat), .int .i64 0, .int .i64 0, .int .i64 0, .int .i64 0, .int .i64 0, .int .i64 0, .int .i64 0, .int .i64 0, .int .i64 0, .bool false] 38)) hb3); have HW3w := Lib.hid (Below.more HBW.out HW3.out); have HX3 := (HBx.new w1 [.int .i64 (m0 : Nat), .int .i64 (m1 : Nat), .int .i64 (m2 : Nat), .int .i64 0, .int .i64 0, .int .i64 0, .int .i64 0, .int .i64 0, .int .i64 0, .int .i64 0, .int .i64 0, .int .i64 0, .bool false] 38).below hb3; have HR3 := HB1.out.below HW3.out; clear r0 r1 r2 r3 r4 r5 r6 r7 r8 r9 r10 r11 r12 rz gm0 gm1 gm2 ga0 ga1 ga2; have r0 := HR3.c 0 _ rfl; have r1 := HR3.c 1 _ rfl; have r2 := HR3.c 2 _ rfl; have r3 := HR3.c 3 _ rfl; have r4 := HR3.c 4 _ rfl; have r5 := HR3.c 5 _ rfl; have r6 := HR3.c 6 _ rfl; have r7 := HR3.c 7 _ rfl; have r8 := HR3.c 8 _ rfl; have r9 := HR3.c 9 _ rfl; have r10 := HR3.c 10 _ rfl; have r11 := HR3.c 11 _ rfl; have r12 := HR3.c 12 _ rfl; have rz := HR3.z; have x0 := HX3.c 0 _ rfl; have x1 := HX3.c 1 _ rfl; have x2 := HX3.c 2 _ rfl; have x3 := HX3.c 3 _ rfl; have x4 := HX3.c 4 _ rfl; have x5 := HX3.c 5 _ rfl; have x6 := HX3.c 6 _ rfl; have x7 := HX3.c 7 _ rfl; have x8 := HX3.c 8 _ rfl; have x9 := HX3.c 9 _ rfl; have x10 := HX3.c 10 _ rfl; have x11 := HX3.c 11 _ rfl; have x12 := HX3.c 12 _ rfl; have xz := HX3.z; have hz3 : w1.heap.size < w3.heap.size := HX3.lt; have hr3 : w.heap.size < w3.heap.size := HR3.lt; obtain ⟨pb', po', hpa, _, gb0, gb1, gb2⟩ := tcellsA (HAT.out _ HW3.out) HPP6.out; (simp only [Option.some.injEq, Addr.mk.injEq] at hpa); obtain ⟨rfl, rfl, _⟩ := hpa; (simp only [Nat.reduceMul, Nat.reduceAdd] at gb0 gb1 gb2); clear hb3))
  refine bodyPost_ret (v := headV zP zP zP zP false) ?_ rfl ⟨rfl, ?_⟩
  · simp [results, Try.results21, go_sem, r0, r1, r2, r3, r4, r5, r6, r7, r8, r9, r10, r11, r12, hne, hne2, hlt1]
  · (repeat (first | (with_reducible exact HBW.out) | (with_reducible exact HW3w.out) | (with_reducible refine bel_put ?_ (by omega) _) | (with_reducible refine Below.alloc ?_ (by first | omega | (simp; omega)) _)))

set_option maxRecDepth 20000 in
set_option maxHeartbeats 4000000 in
theorem rr_p8 {b off : Nat} (RR : RRow w b off n cap l) (hwf : ∀ j, -2147483648 ≤ l.getD j 0 ∧ l.getD j 0 ≤ 2147483647) (hn : n ≤ 900) (hP : inP dtP l f t = P) (h0 : kindN P 0 = 1) (h1 : kindN P 1 = 3) (h2 : kindN P 2 = 2) {m0 m1 m2 : Nat} (hp2 : P[2]? = some (m0, m1, m2)) (h3 : kindN P 3 = 3) (h4 : kindN P 4 = 2) (h5 : kindN P 5 = 3) (h6 : kindN P 6 = 4) (h7 : kindN P 7 = 3) {x8 : Nat} (h8 : kindN P 8 = x8) (hx8 : x8 ≠ 4) {a0 a1 a2 : Nat} (hp4 : P[4]? = some (a0, a1, a2)) (ha : a1 ≤ a2) (ha2 : a2 ≤ n) (hS : strOfNums (txt ((l.take a2).drop a1)) = ⟨#[80, 85, 66, 76, 73, 67]⟩) {b0 b1 b2 : Nat} (hp6 : P[6]? = some (b0, b1, b2)) :
    Calls Try.prog 21 #[.slice (some ⟨b, off, none⟩) n cap, .int .i64 f, .int .i64 t] w (HeadD w ((zP, zP, zP, zP), false)) := by
  have R : NRow w (some ⟨b, off, none⟩) n cap l := ⟨RR.len, RR.le, RR.max, RR.cells⟩
  have HP := Lib.hid (fun hb => rparts_any (R.below (w' := w.alloc rheadZ) hb) hwf (by omega) f t)
  have HP := Lib.hid (HP.out (one_ok w rheadZ))
  rw [hP] at HP
  obtain ⟨q, hq'⟩ : ∃ q, q = P.length := ⟨_, rfl⟩
  have hq : P.length = q := hq'.symm
  have HQ := Lib.hid hq
  have hqb : q ≤ 1000 := by rw [hq', ← hP]; have := inP_length dtP_facts l f t; rw [R.len] at this; omega
  have HB0 := Lib.hid (HBx.new w [.int .i64 0, .int .i64 0, .int .i64 0, .int .i64 0, .int .i64 0, .int .i64 0, .int .i64 0, .int .i64 0, .int .i64 0, .int .i64 0, .int .i64 0, .int .i64 0, .bool false] 38)
  have HK0 := Lib.hid (show KindAt P q (0) 1 from kindAt hq hqb h0)
  have HK1 := Lib.hid (show KindAt P q (1) 3 from kindAt hq hqb h1)
  have HK2 := Lib.hid (show KindAt P q (2) 2 from kindAt hq hqb h2)
  have HK3 := Lib.hid (show KindAt P q (3) 3 from kindAt hq hqb h3)
  have HK4 := Lib.hid (show KindAt P q (4) 2 from kindAt hq hqb h4)
  have HK5 := Lib.hid (show KindAt P q (5) 3 from kindAt hq hqb h5)
  have HK6 := Lib.hid (show KindAt P q (6) 4 from kindAt hq hqb h6)
  have HK7 := Lib.hid (show KindAt P q (7) 3 from kindAt hq hqb h7)
  have HK8 := Lib.hid (show KindAt P q (8) (x8 : Nat) from kindAt hq hqb h8)
  have HTX := Lib.hid (fun (W : World) (hW : Below w.heap.size w W) => hS ▸ rtext_any (RR.below hW) (by omega) a0 a1 a2 ha ha2)
  have e8 : ((x8 : Int) == 4) = false := by simp; omega
  have e8' : ((x8 : Int) != 4) = true := by simp; omega
  have HPP2 := Lib.hid hp2
  have bq2 : (2 : Int) < (q : Int) := by have := (List.getElem?_eq_some_iff.1 hp2).1; omega
  have HPP4 := Lib.hid hp4
  have bq4 : (4 : Int) < (q : Int) := by have := (List.getElem?_eq_some_iff.1 hp4).1; omega
  have HPP6 := Lib.hid hp6
  have bq6 : (6 : Int) < (q : Int) := by have := (List.getElem?_eq_some_iff.1 hp6).1; omega
  have tk0 : True := trivial
  clear R RR hwf hP hq hq' h0 h1 h2 h3 h4 h5 h6 h7 h8 hS hp2 hp4 hp6
  go_enter Try.func21, Try.ntmps21
  go_wp2_with (first
    | (go_at_call 14; (with_reducible refine HP.out.mono ?_); rintro e w1 ⟨pv, rfl, hown, hb1⟩; obtain ⟨va, vc, rfl, hvc⟩ := owns_slice hown; have hs1 : w.heap.size + 1 ≤ w1.heap.size := (by have := hb1.size; simp at this; omega); have HAT := Lib.hid (fun (W : World) (hb : Below w1.heap.size w1 W) => (AtCells.of_owns hown).below hb); have HBW := Lib.hid ((one_ok w rheadZ).trans (hb1.mono (by simp))); have HB1 := Lib.hid (HB0.out.kept (Kept.of_below (p := w1.heap.size) hb1) (by omega)); clear hown hb1; rw [HQ.out]; have r0 := HB1.out.c 0 _ rfl; have r1 := HB1.out.c 1 _ rfl; have r2 := HB1.out.c 2 _ rfl; have r3 := HB1.out.c 3 _ rfl; have r4 := HB1.out.c 4 _ rfl; have r5 := HB1.out.c 5 _ rfl; have r6 := HB1.out.c 6 _ rfl; have r7 := HB1.out.c 7 _ rfl; have r8 := HB1.out.c 8 _ rfl; have r9 := HB1.out.c 9 _ rfl; have r10 := HB1.out.c 10 _ rfl; have r11 := HB1.out.c 11 _ rfl; have r12 := HB1.out.c 12 _ rfl; have rz := HB1.out.z; have hlt1 : w.heap.size < w1.heap.size := (by omega); have hne : ¬ w.heap.size = w1.heap.size := (by omega); have hne2 : ¬ w1.heap.size = w.heap.size := (by omega); obtain ⟨pb, po, hpa, hpb, gm0, gm1, gm2⟩ := tcellsA (HAT.out _ (Below.refl _ _)) HPP2.out; subst hpa; (simp only [Nat.reduceMul, Nat.reduceAdd] at gm0 gm1 gm2); have hpb2 : ¬ pb = w1.heap.size := (by omega); have hpb3 : ¬ w1.heap.size = pb := (by omega); obtain ⟨pb', po', hpa, _, ga0, ga1, ga2⟩ := tcellsA (HAT.out _ (Below.refl _ _)) HPP4.out; (simp only [Option.some.injEq, Addr.mk.injEq] at hpa); obtain ⟨rfl, rfl, _⟩ := hpa; (simp only [Nat.reduceMul, Nat.reduceAdd] at ga0 ga1 ga2); have hpb4 : pb < w1.heap.size := (by omega); have HAX := Lib.hid (fun (W : World) (hb : Below w1.heap.size w1 W) => HAT.out W hb); clear HAT; have HAT := HAX; clear HAX)
    | (go_at_call 47; (with_reducible refine (HK0.out _ _ _ _ (by omega) (HAT.out _ (by (repeat (first | (with_reducible exact HW3.out) | (with_reducible exact HW4.out) | (with_reducible exact Below.refl _ _) | (with_reducible refine bel_put ?_ (by omega) _) | (with_reducible refine Below.alloc ?_ (by first | omega | (simp; omega)) _)))))).mono ?_); rintro e w' ⟨rfl, rfl⟩)
    | (go_at_call 47; (with_reducible refine (HK1.out _ _ _ _ (by omega) (HAT.out _ (by (repeat (first | (with_reducible exact HW3.out) | (with_reducible exact HW4.out) | (with_reducible exact Below.refl _ _) | (with_reducible refine bel_put ?_ (by omega) _) | (with_reducible refine Below.alloc ?_ (by first | omega | (simp; omega)) _)))))).mono ?_); rintro e w' ⟨rfl, rfl⟩)
    | (go_at_call 47; (with_reducible refine (HK2.out _ _ _ _ (by omega) (HAT.out _ (by (repeat (first | (with_reducible exact HW3.out) | (with_reducible exact HW4.out) | (with_reducible exact Below.refl _ _) | (with_reducible refine bel_put ?_ (by omega) _) | (with_reducible refine Below.alloc ?_ (by first | omega | (simp; omega)) _)))))).mono ?_); rintro e w' ⟨rfl, rfl⟩)
    | (go_at_call 47; (with_reducible refine (HK3.out _ _ _ _ (by omega) (HAT.out _ (by (repeat (first | (with_reducible exact HW3.out) | (with_reducible exact HW4.out) | (with_reducible exact Below.refl _ _) | (with_reducible refine bel_put ?_ (by omega) _) | (with_reducible refine Below.alloc ?_ (by first | omega | (simp; omega)) _)))))).mono ?_); rintro e w' ⟨rfl, rfl⟩)
    | (go_at_call 47; (with_reducible refine (HK4.out _ _ _ _ (by omega) (HAT.out _ (by (repeat (first | (with_reducible exact HW3.out) | (with_reducible exact HW4.out) | (with_reducible exact Below.refl _ _) | (with_reducible refine bel_put ?_ (by omega) _) | (with_reducible refine Below.alloc ?_ (by first | omega | (simp; omega)) _)))))).mono ?_); rintro e w' ⟨rfl, rfl⟩)
    | (go_at_call 47; (with_reducible refine (HK5.out _ _ _ _ (by omega) (HAT.out _ (by (repeat (first | (with_reducible exact HW3.out) | (with_reducible exact HW4.out) | (with_reducible exact Below.refl _ _) | (with_reducible refine bel_put ?_ (by omega) _) | (with_reducible refine Below.alloc ?_ (by first | omega | (simp; omega)) _)))))).mono ?_); rintro e w' ⟨rfl, rfl⟩)
    | (go_at_call 47; (with_reducible refine (HK6.out _ _ _ _ (by omega) (HAT.out _ (by (repeat (first | (with_reducible exact HW3.out) | (with_reducible exact HW4.out) | (with_reducible exact Below.refl _ _) | (with_reducible refine bel_put ?_ (by omega) _) | (with_reducible refine Below.alloc ?_ (by first | omega | (simp; omega)) _)))))).mono ?_); rintro e w' ⟨rfl, rfl⟩)
    | (go_at_call 47; (with_reducible refine (HK7.out _ _ _ _ (by omega) (HAT.out _ (by (repeat (first | (with_reducible exact HW3.out) | (with_reducible exact HW4.out) | (with_reducible exact Below.refl _ _) | (with_reducible refine bel_put ?_ (by omega) _) | (with_reducible refine Below.alloc ?_ (by first | omega | (simp; omega)) _)))))).mono ?_); rintro e w' ⟨rfl, rfl⟩)
    | (go_at_call 47; (with_reducible refine (HK8.out _ _ _ _ (by omega) (HAT.out _ (by (repeat (first | (with_reducible exact HW3.out) | (with_reducible exact HW4.out) | (with_reducible exact Below.refl _ _) | (with_reducible refine bel_put ?_ (by omega) _) | (with_reducible refine Below.alloc ?_ (by first | omega | (simp; omega)) _)))))).mono ?_); rintro e w' ⟨rfl, rfl⟩)
    | (go_at_call 48; (refine (HTX.out _ (by (repeat (first | (with_reducible exact HBW.out) | (with_reducible refine Below.alloc ?_ (by first | omega | (simp; omega)) _))))).mono ?_); rintro e w3 ⟨rfl, hb3⟩; have HW3 := Lib.hid (Below.more (one_ok w1 (.cells #[.int .i64 (m0 : Nat), .int .i64 (m1 : Nat), .int .i64 (m2 : Nat), .int .i64 0, .int .i64 0, .int .i64 0, .int .i64 0, .int .i64 0, .int .i64 0, .int .i64 0, .int .i64 0, .int .i64 0, .bool false] 38)) hb3); have HW3w := Lib.hid (Below.more HBW.out HW3.out); have HX3 := (HBx.new w1 [.int .i64 (m0 : Nat), .int .i64 (m1 : Nat), .int .i64 (m2 : Nat), .int .i64 0, .int .i64 0, .int .i64 0, .int .i64 0, .int .i64 0, .int .i64 0, .int .i64 0, .int .i64 0, .int .i64 0, .bool false] 38).below hb3; have HR3 := HB1.out.below HW3.out; clear r0 r1 r2 r3 r4 r5 r6 r7 r8 r9 r10 r11 r12 rz gm0 gm1 gm2 ga0 ga1 ga2; have r0 := HR3.c 0 _ rfl; have r1 := HR3.c 1 _ rfl; have r2 := HR3.c 2 _ rfl; have r3 := HR3.c 3 _ rfl; have r4 := HR3.c 4 _ rfl; have r5 := HR3.c 5 _ rfl; have r6 := HR3.c 6 _ rfl; have r7 := HR3.c 7 _ rfl; have r8 := HR3.c 8 _ rfl; have r9 := HR3.c 9 _ rfl; have r10 := HR3.c 10 _ rfl; have r11 := HR3.c 11 _ rfl; have r12 := HR3.c 12 _ rfl; have rz := HR3.z; have x0 := HX3.c 0 _ rfl; have x1 := HX3.c 1 _ rfl; have x2 := HX3.c 2 _ rfl; have x3 := HX3.c 3 _ rfl; have x4 := HX3.c 4 _ rfl; have x5 := HX3.c 5 _ rfl; have x6 := HX3.c 6 _ rfl; have x7 := HX3.c 7 _ rfl; have x8 := HX3.c 8 _ rfl; have x9 := HX3.c 9 _ rfl; have x10 := HX3.c 10 _ rfl; have x11 := HX3.c 11 _ rfl; have x12 := HX3.c 12 _ rfl; have xz := HX3.z; have hz3 : w1.heap.size < w3.heap.size := HX3.lt; have hr3 : w.heap.size < w3.heap.size := HR3.lt; obtain ⟨pb', po', hpa, _, gb0, gb1, gb2⟩ := tcellsA (HAT.out _ HW3.out) HPP6.out; (simp only [Option.some.injEq, Addr.mk.injEq] at hpa); obtain ⟨rfl, rfl, _⟩ := hpa; (simp only [Nat.reduceMul, Nat.reduceAdd] at gb0 gb1 gb2); clear hb3))
  refine bodyPost_ret (v := headV zP zP zP zP false) ?_ rfl ⟨rfl, ?_⟩
  · simp [results, Try.results21, go_sem, r0, r1, r2, r3, r4, r5, r6, r7, r8, r9, r10, r11, r12, hne, hne2, hlt1]
  · (repeat (first | (with_reducible exact HBW.out) | (with_reducible exact HW3w.out) | (with_reducible refine bel_put ?_ (by omega) _) | (with_reducible refine Below.alloc ?_ (by first | omega | (simp; omega)) _)))

set_option maxRecDepth 20000 in
set_option maxHeartbeats 4000000 in
theorem rr_pn {b off : Nat} (RR : RRow w b off n cap l) (hwf : ∀ j, -2147483648 ≤ l.getD j 0 ∧ l.getD j 0 ≤ 2147483647) (hn : n ≤ 900) (hP : inP dtP l f t = P) (h0 : kindN P 0 = 1) (h1 : kindN P 1 = 3) (h2 : kindN P 2 = 2) {m0 m1 m2 : Nat} (hp2 : P[2]? = some (m0, m1, m2)) (h3 : kindN P 3 = 3) (h4 : kindN P 4 = 2) (h5 : kindN P 5 = 3) (h6 : kindN P 6 = 4) (h7 : kindN P 7 = 3) (h8 : kindN P 8 = 4) {a0 a1 a2 : Nat} (hp4 : P[4]? = some (a0, a1, a2)) (ha : a1 ≤ a2) (ha2 : a2 ≤ n) (hS : strOfNums (txt ((l.take a2).drop a1)) = ⟨#[80, 85, 66, 76, 73, 67]⟩) {b0 b1 b2 : Nat} (hp6 : P[6]? = some (b0, b1, b2)) (hb : b1 + 2 ≤ b2) (hb2 : b2 ≤ n) (hpu : pubP l (b0, b1, b2) = false) :
    Calls Try.prog 21 #[.slice (some ⟨b, off, none⟩) n cap, .int .i64 f, .int .i64 t] w (HeadD w ((zP, zP, zP, zP), false)) := by
  have R : NRow w (some ⟨b, off, none⟩) n cap l := ⟨RR.len, RR.le, RR.max, RR.cells⟩
  have HP := Lib.hid (fun hb => rparts_any (R.below (w' := w.alloc rheadZ) hb) hwf (by omega) f t)
  have HP := Lib.hid (HP.out (one_ok w rheadZ))
  rw [hP] at HP
  obtain ⟨q, hq'⟩ : ∃ q, q = P.length := ⟨_, rfl⟩
  have hq : P.length = q := hq'.symm
  have HQ := Lib.hid hq
  have hqb : q ≤ 1000 := by rw [hq', ← hP]; have := inP_length dtP_facts l f t; rw [R.len] at this; omega
  have HB0 := Lib.hid (HBx.new w [.int .i64 0, .int .i64 0, .int .i64 0, .int .i64 0, .int .i64 0, .int .i64 0, .int .i64 0, .int .i64 0, .int .i64 0, .int .i64 0, .int .i64 0, .int .i64 0, .bool false] 38)
  have HK0 := Lib.hid (show KindAt P q (0) 1 from kindAt hq hqb h0)
  have HK1 := Lib.hid (show KindAt P q (1) 3 from kindAt hq hqb h1)
  have HK2 := Lib.hid (show KindAt P q (2) 2 from kindAt hq hqb h2)
  have HK3 := Lib.hid (show KindAt P q (3) 3 from kindAt hq hqb h3)
  have HK4 := Lib.hid (show KindAt P q (4) 2 from kindAt hq hqb h4)
  have HK5 := Lib.hid (show KindAt P q (5) 3 from kindAt hq hqb h5)
  have HK6 := Lib.hid (show KindAt P q (6) 4 from kindAt hq hqb h6)
  have HK7 := Lib.hid (show KindAt P q (7) 3 from kindAt hq hqb h7)
  have HK8 := Lib.hid (show KindAt P q (8) 4 from kindAt hq hqb h8)
  have HTX := Lib.hid (fun (W : World) (hW : Below w.heap.size w W) => hS ▸ rtext_any (RR.below hW) (by omega) a0 a1 a2 ha ha2)
  have HPU := Lib.hid (fun (W : World) (hW : Below w.heap.size w W) => rpubid_any (RR.below hW) (by omega) b0 b1 b2 hb hb2 hpu)
  have HPP2 := Lib.hid hp2
  have bq2 : (2 : Int) < (q : Int) := by have := (List.getElem?_eq_some_iff.1 hp2).1; omega
  have HPP4 := Lib.hid hp4
  have bq4 : (4 : Int) < (q : Int) := by have := (List.getElem?_eq_some_iff.1 hp4).1; omega
  have HPP6 := Lib.hid hp6
  have bq6 : (6 : Int) < (q : Int) := by have := (List.getElem?_eq_some_iff.1 hp6).1; omega
  have tk0 : True := trivial
  clear R RR hwf hP hq hq' h0 h1 h2 h3 h4 h5 h6 h7 h8 hS hpu hp2 hp4 hp6
  go_enter Try.func21, Try.ntmps21
  go_wp2_with (first
    | (go_at_call 14; (with_reducible refine HP.out.mono ?_); rintro e w1 ⟨pv, rfl, hown, hb1⟩; obtain ⟨va, vc, rfl, hvc⟩ := owns_slice hown; have hs1 : w.heap.size + 1 ≤ w1.heap.size := (by have := hb1.size; simp at this; omega); have HAT := Lib.hid (fun (W : World) (hb : Below w1.heap.size w1 W) => (AtCells.of_owns hown).below hb); have HBW := Lib.hid ((one_ok w rheadZ).trans (hb1.mono (by simp))); have HB1 := Lib.hid (HB0.out.kept (Kept.of_below (p := w1.heap.size) hb1) (by omega)); clear hown hb1; rw [HQ.out]; have r0 := HB1.out.c 0 _ rfl; have r1 := HB1.out.c 1 _ rfl; have r2 := HB1.out.c 2 _ rfl; have r3 := HB1.out.c 3 _ rfl; have r4 := HB1.out.c 4 _ rfl; have r5 := HB1.out.c 5 _ rfl; have r6 := HB1.out.c 6 _ rfl; have r7 := HB1.out.c 7 _ rfl; have r8 := HB1.out.c 8 _ rfl; have r9 := HB1.out.c 9 _ rfl; have r10 := HB1.out.c 10 _ rfl; have r11 := HB1.out.c 11 _ rfl; have r12 := HB1.out.c 12 _ rfl; have rz := HB1.out.z; have hlt1 : w.heap.size < w1.heap.size := (by omega); have hne : ¬ w.heap.size = w1.heap.size := (by omega); have hne2 : ¬ w1.heap.size = w.heap.size := (by omega); obtain ⟨pb, po, hpa, hpb, gm0, gm1, gm2⟩ := tcellsA (HAT.out _ (Below.refl _ _)) HPP2.out; subst hpa; (simp only [Nat.reduceMul, Nat.reduceAdd] at gm0 gm1 gm2); have hpb2 : ¬ pb = w1.heap.size := (by omega); have hpb3 : ¬ w1.heap.size = pb := (by omega); obtain ⟨pb', po', hpa, _, ga0, ga1, ga2⟩ := tcellsA (HAT.out _ (Below.refl _ _)) HPP4.out; (simp only [Option.some.injEq, Addr.mk.injEq] at hpa); obtain ⟨rfl, rfl, _⟩ := hpa; (simp only [Nat.reduceMul, Nat.reduceAdd] at ga0 ga1 ga2); have hpb4 : pb < w1.heap.size := (by omega); have HAX := Lib.hid (fun (W : World) (hb : Below w1.heap.size w1 W) => HAT.out W hb); clear HAT; have HAT := HAX; clear HAX)
    | (go_at_call 47; (with_reducible refine (HK0.out _ _ _ _ (by omega) (HAT.out _ (by (repeat (first | (with_reducible exact HW3.out) | (with_reducible exact HW4.out) | (with_reducible exact Below.refl _ _) | (with_reducible refine bel_put ?_ (by omega) _) | (with_reducible refine Below.alloc ?_ (by first | omega | (simp; omega)) _)))))).mono ?_); rintro e w' ⟨rfl, rfl⟩)
    | (go_at_call 47; (with_reducible refine (HK1.out _ _ _ _ (by omega) (HAT.out _ (by (repeat (first | (with_reducible exact HW3.out) | (with_reducible exact HW4.out) | (with_reducible exact Below.refl _ _) | (with_reducible refine bel_put ?_ (by omega) _) | (with_reducible refine Below.alloc ?_ (by first | omega | (simp; omega)) _)))))).mono ?_); rintro e w' ⟨rfl, rfl⟩)
    | (go_at_call 47; (with_reducible refine (HK2.out _ _ _ _ (by omega) (HAT.out _ (by (repeat (first | (with_reducible exact HW3.out) | (with_reducible exact HW4.out) | (with_reducible exact Below.refl _ _) | (with_reducible refine bel_put ?_ (by omega) _) | (with_reducible refine Below.alloc ?_ (by first | omega | (simp; omega)) _)))))).mono ?_); rintro e w' ⟨rfl, rfl⟩)
    | (go_at_call 47; (with_reducible refine (HK3.out _ _ _ _ (by omega) (HAT.out _ (by (repeat (first | (with_reducible exact HW3.out) | (with_reducible exact HW4.out) | (with_reducible exact Below.refl _ _) | (with_reducible refine bel_put ?_ (by omega) _) | (with_reducible refine Below.alloc ?_ (by first | omega | (simp; omega)) _)))))).mono ?_); rintro e w' ⟨rfl, rfl⟩)
    | (go_at_call 47; (with_reducible refine (HK4.out _ _ _ _ (by omega) (HAT.out _ (by (repeat (first | (with_reducible exact HW3.out) | (with_reducible exact HW4.out) | (with_reducible exact Below.refl _ _) | (with_reducible refine bel_put ?_ (by omega) _) | (with_reducible refine Below.alloc ?_ (by first | omega | (simp; omega)) _)))))).mono ?_); rintro e w' ⟨rfl, rfl⟩)
    | (go_at_call 47; (with_reducible refine (HK5.out _ _ _ _ (by omega) (HAT.out _ (by (repeat (first | (with_reducible exact HW3.out) | (with_reducible exact HW4.out) | (with_reducible exact Below.refl _ _) | (with_reducible refine bel_put ?_ (by omega) _) | (with_reducible refine Below.alloc ?_ (by first | omega | (simp; omega)) _)))))).mono ?_); rintro e w' ⟨rfl, rfl⟩)
    | (go_at_call 47; (with_reducible refine (HK6.out _ _ _ _ (by omega) (HAT.out _ (by (repeat (first | (with_reducible exact HW3.out) | (with_reducible exact HW4.out) | (with_reducible exact Below.refl _ _) | (with_reducible refine bel_put ?_ (by omega) _) | (with_reducible refine Below.alloc ?_ (by first | omega | (simp; omega)) _)))))).mono ?_); rintro e w' ⟨rfl, rfl⟩)
    | (go_at_call 47; (with_reducible refine (HK7.out _ _ _ _ (by omega) (HAT.out _ (by (repeat (first | (with_reducible exact HW3.out) | (with_reducible exact HW4.out) | (with_reducible exact Below.refl _ _) | (with_reducible refine bel_put ?_ (by omega) _) | (with_reducible refine Below.alloc ?_ (by first | omega | (simp; omega)) _)))))).mono ?_); rintro e w' ⟨rfl, rfl⟩)
    | (go_at_call 47; (with_reducible refine (HK8.out _ _ _ _ (by omega) (HAT.out _ (by (repeat (first | (with_reducible exact HW3.out) | (with_reducible exact HW4.out) | (with_reducible exact Below.refl _ _) | (with_reducible refine bel_put ?_ (by omega) _) | (with_reducible refine Below.alloc ?_ (by first | omega | (simp; omega)) _)))))).mono ?_); rintro e w' ⟨rfl, rfl⟩)
    | (go_at_call 48; (refine (HTX.out _ (by (repeat (first | (with_reducible exact HBW.out) | (with_reducible refine Below.alloc ?_ (by first | omega | (simp; omega)) _))))).mono ?_); rintro e w3 ⟨rfl, hb3⟩; have HW3 := Lib.hid (Below.more (one_ok w1 (.cells #[.int .i64 (m0 : Nat), .int .i64 (m1 : Nat), .int .i64 (m2 : Nat), .int .i64 0, .int .i64 0, .int .i64 0, .int .i64 0, .int .i64 0, .int .i64 0, .int .i64 0, .int .i64 0, .int .i64 0, .bool false] 38)) hb3); have HW3w := Lib.hid (Below.more HBW.out HW3.out); have HX3 := (HBx.new w1 [.int .i64 (m0 : Nat), .int .i64 (m1 : Nat), .int .i64 (m2 : Nat), .int .i64 0, .int .i64 0, .int .i64 0, .int .i64 0, .int .i64 0, .int .i64 0, .int .i64 0, .int .i64 0, .int .i64 0, .bool false] 38).below hb3; have HR3 := HB1.out.below HW3.out; clear r0 r1 r2 r3 r4 r5 r6 r7 r8 r9 r10 r11 r12 rz gm0 gm1 gm2 ga0 ga1 ga2; have r0 := HR3.c 0 _ rfl; have r1 := HR3.c 1 _ rfl; have r2 := HR3.c 2 _ rfl; have r3 := HR3.c 3 _ rfl; have r4 := HR3.c 4 _ rfl; have r5 := HR3.c 5 _ rfl; have r6 := HR3.c 6 _ rfl; have r7 := HR3.c 7 _ rfl; have r8 := HR3.c 8 _ rfl; have r9 := HR3.c 9 _ rfl; have r10 := HR3.c 10 _ rfl; have r11 := HR3.c 11 _ rfl; have r12 := HR3.c 12 _ rfl; have rz := HR3.z; have x0 := HX3.c 0 _ rfl; have x1 := HX3.c 1 _ rfl; have x2 := HX3.c 2 _ rfl; have x3 := HX3.c 3 _ rfl; have x4 := HX3.c 4 _ rfl; have x5 := HX3.c 5 _ rfl; have x6 := HX3.c 6 _ rfl; have x7 := HX3.c 7 _ rfl; have x8 := HX3.c 8 _ rfl; have x9 := HX3.c 9 _ rfl; have x10 := HX3.c 10 _ rfl; have x11 := HX3.c 11 _ rfl; have x12 := HX3.c 12 _ rfl; have xz := HX3.z; have hz3 : w1.heap.size < w3.heap.size := HX3.lt; have hr3 : w.heap.size < w3.heap.size := HR3.lt; obtain ⟨pb', po', hpa, _, gb0, gb1, gb2⟩ := tcellsA (HAT.out _ HW3.out) HPP6.out; (simp only [Option.some.injEq, Addr.mk.injEq] at hpa); obtain ⟨rfl, rfl, _⟩ := hpa; (simp only [Nat.reduceMul, Nat.reduceAdd] at gb0 gb1 gb2); clear hb3)
    | (go_at_call 49; (refine (HPU.out _ (by (repeat (first | (with_reducible exact HW3w.out) | (with_reducible refine bel_put ?_ (by omega) _))))).mono ?_); rintro e w4 ⟨rfl, hb4⟩; have HW4 := Lib.hid (Below.more (show Below w1.heap.size w1 _ from bel_put (bel_put (bel_put HW3.out (Nat.le_refl _) (.int .i64 (b0 : Nat))) (Nat.le_refl _) (.int .i64 (b1 : Nat))) (Nat.le_refl _) (.int .i64 (b2 : Nat))) hb4); have HW4w := Lib.hid (Below.more HBW.out HW4.out); have HX4 : HBx w4 w1.heap.size [.int .i64 (m0 : Nat), .int .i64 (m1 : Nat), .int .i64 (m2 : Nat), .int .i64 0, .int .i64 0, .int .i64 0, .int .i64 (b0 : Nat), .int .i64 (b1 : Nat), .int .i64 (b2 : Nat), .int .i64 0, .int .i64 0, .int .i64 0, .bool false] := (((HX3.put 6 (.int .i64 (b0 : Nat)) (by simp)).put 7 (.int .i64 (b1 : Nat)) (by simp)).put 8 (.int .i64 (b2 : Nat)) (by simp)).below hb4; have HR4 := HB1.out.below HW4.out; clear r0 r1 r2 r3 r4 r5 r6 r7 r8 r9 r10 r11 r12 rz x0 x1 x2 x3 x4 x5 x6 x7 x8 x9 x10 x11 x12 xz gb0 gb1 gb2; have r0 := HR4.c 0 _ rfl; have r1 := HR4.c 1 _ rfl; have r2 := HR4.c 2 _ rfl; have r3 := HR4.c 3 _ rfl; have r4 := HR4.c 4 _ rfl; have r5 := HR4.c 5 _ rfl; have r6 := HR4.c 6 _ rfl; have r7 := HR4.c 7 _ rfl; have r8 := HR4.c 8 _ rfl; have r9 := HR4.c 9 _ rfl; have r10 := HR4.c 10 _ rfl; have r11 := HR4.c 11 _ rfl; have r12 := HR4.c 12 _ rfl; have rz := HR4.z; have x0 := HX4.c 0 _ rfl; have x1 := HX4.c 1 _ rfl; have x2 := HX4.c 2 _ rfl; have x3 := HX4.c 3 _ rfl; have x4 := HX4.c 4 _ rfl; have x5 := HX4.c 5 _ rfl; have x6 := HX4.c 6 _ rfl; have x7 := HX4.c 7 _ rfl; have x8 := HX4.c 8 _ rfl; have x9 := HX4.c 9 _ rfl; have x10 := HX4.c 10 _ rfl; have x11 := HX4.c 11 _ rfl; have x12 := HX4.c 12 _ rfl; have xz := HX4.z; have hz4 : w1.heap.size < w4.heap.size := HX4.lt; have hr4 : w.heap.size < w4.heap.size := HR4.lt; obtain ⟨pb', po', hpa, _, gb0, gb1, gb2⟩ := tcellsA (HAT.out _ HW4.out) HPP6.out; (simp only [Option.some.injEq, Addr.mk.injEq] at hpa); obtain ⟨rfl, rfl, _⟩ := hpa; (simp only [Nat.reduceMul, Nat.reduceAdd] at gb0 gb1 gb2); clear hb4))
  refine bodyPost_ret (v := headV zP zP zP zP false) ?_ rfl ⟨rfl, ?_⟩
  · simp [results, Try.results21, go_sem, r0, r1, r2, r3, r4, r5, r6, r7, r8, r9, r10, r11, r12, hne, hne2, hlt1]
  · (repeat (first | (with_reducible exact HBW.out) | (with_reducible exact HW3w.out) | (with_reducible exact HW4w.out) | (with_reducible refine bel_put ?_ (by omega) _) | (with_reducible refine Below.alloc ?_ (by first | omega | (simp; omega)) _)))

end
end Go.Proofs.Ytpjcheelafegbaa

namespace Go.Proofs.Ytpjcheelafegbaa
open Go.RowKit
set_option linter.unusedVariables false

section
variable {w : World} {a : Option Addr} {n cap : Nat} {l : List Int} {P : List PartA} {f t : Int}

set_option maxRecDepth 20000 in
set_option maxHeartbeats 4000000 in
theorem rr_n4_t1 {b off : Nat} (RR : RRow w b off n cap l) (hwf : ∀ j, -2147483648 ≤ l.getD j 0 ∧ l.getD j 0 ≤ 2147483647) (hn : n ≤ 900) (hP : inP dtP l f t = P) (h0 : kindN P 0 = 1) (h1 : kindN P 1 = 3) (h2 : kindN P 2 = 2) {m0 m1 m2 : Nat} (hp2 : P[2]? = some (m0, m1, m2)) (h3 : kindN P 3 = 3) {x4 : Nat} (h4 : kindN P 4 = x4) (hx4 : x4 ≠ 2) {j1 : Nat} (hb1 : blankN P 3 = j1) (hj1 : j1 ≤ 100) (g0 : kindN P (j1) = 5) (g1 : kindN P (j1 + 1) = 6) {x : Nat} (g2 : kindN P (j1 + 2) = x) (gx5 : x ≠ 5) {y0 y1 y2 : Nat} (hpy : P[j1 + 1]? = some (y0, y1, y2)) :
    Calls Try.prog 21 #[.slice (some ⟨b, off, none⟩) n cap, .int .i64 f, .int .i64 t] w (HeadD w ((zP, zP, zP, zP), false)) := by
  have R : NRow w (some ⟨b, off, none⟩) n cap l := ⟨RR.len, RR.le, RR.max, RR.cells⟩
  have HP := Lib.hid (fun hb => rparts_any (R.below (w' := w.alloc rheadZ) hb) hwf (by omega) f t)
  have HP := Lib.hid (HP.out (one_ok w rheadZ))
  rw [hP] at HP
  obtain ⟨q, hq'⟩ : ∃ q, q = P.length := ⟨_, rfl⟩
  have hq : P.length = q := hq'.symm
  have HQ := Lib.hid hq
  have hqb : q ≤ 1000 := by rw [hq', ← hP]; have := inP_length dtP_facts l f t; rw [R.len] at this; omega
  have HB0 := Lib.hid (HBx.new w [.int .i64 0, .int .i64 0, .int .i64 0, .int .i64 0, .int .i64 0, .int .i64 0, .int .i64 0, .int .i64 0, .int .i64 0, .int .i64 0, .int .i64 0, .int .i64 0, .bool false] 38)
  have HK0 := Lib.hid (show KindAt P q (0) 1 from kindAt hq hqb h0)
  have HK1 := Lib.hid (show KindAt P q (1) 3 from kindAt hq hqb h1)
  have HK2 := Lib.hid (show KindAt P q (2) 2 from kindAt hq hqb h2)
  have HK3 := Lib.hid (show KindAt P q (3) 3 from kindAt hq hqb h3)
  have HK4 := Lib.hid (show KindAt P q (4) (x4 : Nat) from kindAt hq hqb h4)
  have HG0 := Lib.hid (show KindAt P q (j1) 5 from kindAt hq hqb g0)
  have HG1 := Lib.hid (show KindAt P q (j1 + 1) 6 from kindAt hq hqb g1)
  have HG2 := Lib.hid (show KindAt P q (j1 + 2) (x : Nat) from kindAt hq hqb g2)
  have HB1a := Lib.hid (blankAt hq hqb (j := 3) (by omega) hb1)
  have e4 : ((x4 : Int) == 2) = false := by simp; omega
  have e4' : ((x4 : Int) != 2) = true := by simp; omega
  have ex5 : ((x : Int) == 5) = false := by simp; omega
  have ex5' : ((x : Int) != 5) = true := by simp; omega
  have HPP2 := Lib.hid hp2
  have bq2 : (2 : Int) < (q : Int) := by have := (List.getElem?_eq_some_iff.1 hp2).1; omega
  have HPPy := Lib.hid hpy
  have bqy : (j1 : Int) + 1 < (q : Int) := by have := (List.getElem?_eq_some_iff.1 hpy).1; omega
  have bqy0 : (0 : Int) ≤ (j1 : Int) + 1 := by omega
  have ty : ((j1 : Int) + 1).toNat = j1 + 1 := by omega
  have tk0 : True := trivial
  clear R RR hwf hP hq hq' h0 h1 h2 h3 h4 g0 g1 g2 hb1 hp2 hpy
  go_enter Try.func21, Try.ntmps21
  go_wp2_with (first
    | (go_at_call 14; (with_reducible refine HP.out.mono ?_); rintro e w1 ⟨pv, rfl, hown, hb1⟩; obtain ⟨va, vc, rfl, hvc⟩ := owns_slice hown; have hs1 : w.heap.size + 1 ≤ w1.heap.size := (by have := hb1.size; simp at this; omega); have HAT := Lib.hid (fun (W : World) (hb : Below w1.heap.size w1 W) => (AtCells.of_owns hown).below hb); have HBW := Lib.hid ((one_ok w rheadZ).trans (hb1.mono (by simp))); have HB1 := Lib.hid (HB0.out.kept (Kept.of_below (p := w1.heap.size) hb1) (by omega)); clear hown hb1; rw [HQ.out]; have r0 := HB1.out.c 0 _ rfl; have r1 := HB1.out.c 1 _ rfl; have r2 := HB1.out.c 2 _ rfl; have r3 := HB1.out.c 3 _ rfl; have r4 := HB1.out.c 4 _ rfl; have r5 := HB1.out.c 5 _ rfl; have r6 := HB1.out.c 6 _ rfl; have r7 := HB1.out.c 7 _ rfl; have r8 := HB1.out.c 8 _ rfl; have r9 := HB1.out.c 9 _ rfl; have r10 := HB1.out.c 10 _ rfl; have r11 := HB1.out.c 11 _ rfl; have r12 := HB1.out.c 12 _ rfl; have rz := HB1.out.z; have hlt1 : w.heap.size < w1.heap.size := (by omega); have hne : ¬ w.heap.size = w1.heap.size := (by omega); have hne2 : ¬ w1.heap.size = w.heap.size := (by omega); obtain ⟨pb, po, hpa, hpb, gm0, gm1, gm2⟩ := tcellsA (HAT.out _ (Below.refl _ _)) HPP2.out; subst hpa; (simp only [Nat.reduceMul, Nat.reduceAdd] at gm0 gm1 gm2); have hpb2 : ¬ pb = w1.heap.size := (by omega); have hpb3 : ¬ w1.heap.size = pb := (by omega); obtain ⟨pb', po', hpa, _, gy0, gy1, gy2⟩ := tcellsA (HAT.out _ (Below.refl _ _)) HPPy.out; (simp only [Option.some.injEq, Addr.mk.injEq] at hpa); obtain ⟨rfl, rfl, _⟩ := hpa; (rw [← Nat.add_assoc] at gy1 gy2); have hpb4 : pb < w1.heap.size := (by omega); have HAX := Lib.hid (fun (W : World) (hb : Below w1.heap.size w1 W) => HAT.out W hb); clear HAT; have HAT := HAX; clear HAX)
    | (go_at_call 47; (with_reducible refine (HK0.out _ _ _ _ (by omega) (HAT.out _ (by (repeat (first | (with_reducible exact HW3.out) | (with_reducible exact HW4.out) | (with_reducible exact Below.refl _ _) | (with_reducible refine bel_put ?_ (by omega) _) | (with_reducible refine Below.alloc ?_ (by first | omega | (simp; omega)) _)))))).mono ?_); rintro e w' ⟨rfl, rfl⟩)
    | (go_at_call 47; (with_reducible refine (HK1.out _ _ _ _ (by omega) (HAT.out _ (by (repeat (first | (with_reducible exact HW3.out) | (with_reducible exact HW4.out) | (with_reducible exact Below.refl _ _) | (with_reducible refine bel_put ?_ (by omega) _) | (with_reducible refine Below.alloc ?_ (by first | omega | (simp; omega)) _)))))).mono ?_); rintro e w' ⟨rfl, rfl⟩)
    | (go_at_call 47; (with_reducible refine (HK2.out _ _ _ _ (by omega) (HAT.out _ (by (repeat (first | (with_reducible exact HW3.out) | (with_reducible exact HW4.out) | (with_reducible exact Below.refl _ _) | (with_reducible refine bel_put ?_ (by omega) _) | (with_reducible refine Below.alloc ?_ (by first | omega | (simp; omega)) _)))))).mono ?_); rintro e w' ⟨rfl, rfl⟩)
    | (go_at_call 47; (with_reducible refine (HK3.out _ _ _ _ (by omega) (HAT.out _ (by (repeat (first | (with_reducible exact HW3.out) | (with_reducible exact HW4.out) | (with_reducible exact Below.refl _ _) | (with_reducible refine bel_put ?_ (by omega) _) | (with_reducible refine Below.alloc ?_ (by first | omega | (simp; omega)) _)))))).mono ?_); rintro e w' ⟨rfl, rfl⟩)
    | (go_at_call 47; (with_reducible refine (HK4.out _ _ _ _ (by omega) (HAT.out _ (by (repeat (first | (with_reducible exact HW3.out) | (with_reducible exact HW4.out) | (with_reducible exact Below.refl _ _) | (with_reducible refine bel_put ?_ (by omega) _) | (with_reducible refine Below.alloc ?_ (by first | omega | (simp; omega)) _)))))).mono ?_); rintro e w' ⟨rfl, rfl⟩)
    | (go_at_call 47; (with_reducible refine (HG0.out _ _ _ _ (by omega) (HAT.out _ (by (repeat (first | (with_reducible exact HW3.out) | (with_reducible exact HW4.out) | (with_reducible exact Below.refl _ _) | (with_reducible refine bel_put ?_ (by omega) _) | (with_reducible refine Below.alloc ?_ (by first | omega | (simp; omega)) _)))))).mono ?_); rintro e w' ⟨rfl, rfl⟩)
    | (go_at_call 47; (with_reducible refine (HG1.out _ _ _ _ (by omega) (HAT.out _ (by (repeat (first | (with_reducible exact HW3.out) | (with_reducible exact HW4.out) | (with_reducible exact Below.refl _ _) | (with_reducible refine bel_put ?_ (by omega) _) | (with_reducible refine Below.alloc ?_ (by first | omega | (simp; omega)) _)))))).mono ?_); rintro e w' ⟨rfl, rfl⟩)
    | (go_at_call 47; (with_reducible refine (HG2.out _ _ _ _ (by omega) (HAT.out _ (by (repeat (first | (with_reducible exact HW3.out) | (with_reducible exact HW4.out) | (with_reducible exact Below.refl _ _) | (with_reducible refine bel_put ?_ (by omega) _) | (with_reducible refine Below.alloc ?_ (by first | omega | (simp; omega)) _)))))).mono ?_); rintro e w' ⟨rfl, rfl⟩)
    | (go_at_call 50; (with_reducible refine (HB1a.out _ _ _ _ (by omega) (HAT.out _ (by (repeat (first | (with_reducible exact HW3.out) | (with_reducible exact HW4.out) | (with_reducible exact Below.refl _ _) | (with_reducible refine bel_put ?_ (by omega) _) | (with_reducible refine Below.alloc ?_ (by first | omega | (simp; omega)) _)))))).mono ?_); rintro e w' ⟨rfl, rfl⟩))
  refine bodyPost_ret (v := headV zP zP zP zP false) ?_ rfl ⟨rfl, ?_⟩
  · simp [results, Try.results21, go_sem, r0, r1, r2, r3, r4, r5, r6, r7, r8, r9, r10, r11, r12, hne, hne2, hlt1]
  · (repeat (first | (with_reducible exact HBW.out) | (with_reducible refine bel_put ?_ (by omega) _) | (with_reducible refine Below.alloc ?_ (by first | omega | (simp; omega)) _)))

set_option maxRecDepth 20000 in
set_option maxHeartbeats 4000000 in
theorem rr_n4_t2 {b off : Nat} (RR : RRow w b off n cap l) (hwf : ∀ j, -2147483648 ≤ l.getD j 0 ∧ l.getD j 0 ≤ 2147483647) (hn : n ≤ 900) (hP : inP dtP l f t = P) (h0 : kindN P 0 = 1) (h1 : kindN P 1 = 3) (h2 : kindN P 2 = 2) {m0 m1 m2 : Nat} (hp2 : P[2]? = some (m0, m1, m2)) (h3 : kindN P 3 = 3) {x4 : Nat} (h4 : kindN P 4 = x4) (hx4 : x4 ≠ 2) {j1 : Nat} (hb1 : blankN P 3 = j1) (hj1 : j1 ≤ 100) {j4 : Nat} (hb4 : blankN P (j1 + 3) = j4) (hj4 : j4 ≤ 200) (g0 : kindN P (j1) = 5) (g1 : kindN P (j1 + 1) = 6) (g2 : kindN P (j1 + 2) = 5) (g3 : kindN P (j4) = 7) {y0 y1 y2 : Nat} (hpy : P[j1 + 1]? = some (y0, y1, y2)) (hL7 : j4 + 1 = P.length) :
    Calls Try.prog 21 #[.slice (some ⟨b, off, none⟩) n cap, .int .i64 f, .int .i64 t] w (HeadD w (((m0, m1, m2), zP, zP, (y0, y1, y2)), true)) := by
  have R : NRow w (some ⟨b, off, none⟩) n cap l := ⟨RR.len, RR.le, RR.max, RR.cells⟩
  have HP := Lib.hid (fun hb => rparts_any (R.below (w' := w.alloc rheadZ) hb) hwf (by omega) f t)
  have HP := Lib.hid (HP.out (one_ok w rheadZ))
  rw [hP] at HP
  obtain ⟨q, hq'⟩ : ∃ q, q = P.length := ⟨_, rfl⟩
  have hq : P.length = q := hq'.symm
  have HQ := Lib.hid hq
  have hqb : q ≤ 1000 := by rw [hq', ← hP]; have := inP_length dtP_facts l f t; rw [R.len] at this; omega
  have HB0 := Lib.hid (HBx.new w [.int .i64 0, .int .i64 0, .int .i64 0, .int .i64 0, .int .i64 0, .int .i64 0, .int .i64 0, .int .i64 0, .int .i64 0, .int .i64 0, .int .i64 0, .int .i64 0, .bool false] 38)
  have HK0 := Lib.hid (show KindAt P q (0) 1 from kindAt hq hqb h0)
  have HK1 := Lib.hid (show KindAt P q (1) 3 from kindAt hq hqb h1)
  have HK2 := Lib.hid (show KindAt P q (2) 2 from kindAt hq hqb h2)
  have HK3 := Lib.hid (show KindAt P q (3) 3 from kindAt hq hqb h3)
  have HK4 := Lib.hid (show KindAt P q (4) (x4 : Nat) from kindAt hq hqb h4)
  have HG0 := Lib.hid (show KindAt P q (j1) 5 from kindAt hq hqb g0)
  have HG1 := Lib.hid (show KindAt P q (j1 + 1) 6 from kindAt hq hqb g1)
  have HG2 := Lib.hid (show KindAt P q (j1 + 2) 5 from kindAt hq hqb g2)
  have HG3 := Lib.hid (show KindAt P q (j4) 7 from kindAt hq hqb g3)
  have HB1a := Lib.hid (blankAt hq hqb (j := 3) (by omega) hb1)
  have HB4a := Lib.hid (blankAt hq hqb (j := j1 + 3) (by omega) hb4)
  have hz7 : (j4 : Int) + 1 = q := by omega
  have hz8 : ((j4 : Int) + 1 != (q : Int)) = false := by simp; omega
  have e4 : ((x4 : Int) == 2) = false := by simp; omega
  have e4' : ((x4 : Int) != 2) = true := by simp; omega
  have HPP2 := Lib.hid hp2
  have bq2 : (2 : Int) < (q : Int) := by have := (List.getElem?_eq_some_iff.1 hp2).1; omega
  have HPPy := Lib.hid hpy
  have bqy : (j1 : Int) + 1 < (q : Int) := by have := (List.getElem?_eq_some_iff.1 hpy).1; omega
  have bqy0 : (0 : Int) ≤ (j1 : Int) + 1 := by omega
  have ty : ((j1 : Int) + 1).toNat = j1 + 1 := by omega
  have tk0 : True := trivial
  clear R RR hwf hP hq hq' h0 h1 h2 h3 h4 g0 g1 g2 g3 hb1 hb4 hL7 hp2 hpy
  go_enter Try.func21, Try.ntmps21
  go_wp2_with (first
    | (go_at_call 14; (with_reducible refine HP.out.mono ?_); rintro e w1 ⟨pv, rfl, hown, hb1⟩; obtain ⟨va, vc, rfl, hvc⟩ := owns_slice hown; have hs1 : w.heap.size + 1 ≤ w1.heap.size := (by have := hb1.size; simp at this; omega); have HAT := Lib.hid (fun (W : World) (hb : Below w1.heap.size w1 W) => (AtCells.of_owns hown).below hb); have HBW := Lib.hid ((one_ok w rheadZ).trans (hb1.mono (by simp))); have HB1 := Lib.hid (HB0.out.kept (Kept.of_below (p := w1.heap.size) hb1) (by omega)); clear hown hb1; rw [HQ.out]; have r0 := HB1.out.c 0 _ rfl; have r1 := HB1.out.c 1 _ rfl; have r2 := HB1.out.c 2 _ rfl; have r3 := HB1.out.c 3 _ rfl; have r4 := HB1.out.c 4 _ rfl; have r5 := HB1.out.c 5 _ rfl; have r6 := HB1.out.c 6 _ rfl; have r7 := HB1.out.c 7 _ rfl; have r8 := HB1.out.c 8 _ rfl; have r9 := HB1.out.c 9 _ rfl; have r10 := HB1.out.c 10 _ rfl; have r11 := HB1.out.c 11 _ rfl; have r12 := HB1.out.c 12 _ rfl; have rz := HB1.out.z; have hlt1 : w.heap.size < w1.heap.size := (by omega); have hne : ¬ w.heap.size = w1.heap.size := (by omega); have hne2 : ¬ w1.heap.size = w.heap.size := (by omega); obtain ⟨pb, po, hpa, hpb, gm0, gm1, gm2⟩ := tcellsA (HAT.out _ (Below.refl _ _)) HPP2.out; subst hpa; (simp only [Nat.reduceMul, Nat.reduceAdd] at gm0 gm1 gm2); have hpb2 : ¬ pb = w1.heap.size := (by omega); have hpb3 : ¬ w1.heap.size = pb := (by omega); obtain ⟨pb', po', hpa, _, gy0, gy1, gy2⟩ := tcellsA (HAT.out _ (Below.refl _ _)) HPPy.out; (simp only [Option.some.injEq, Addr.mk.injEq] at hpa); obtain ⟨rfl, rfl, _⟩ := hpa; (rw [← Nat.add_assoc] at gy1 gy2); have hpb4 : pb < w1.heap.size := (by omega); have HAX := Lib.hid (fun (W : World) (hb : Below w1.heap.size w1 W) => HAT.out W hb); clear HAT; have HAT := HAX; clear HAX)
    | (go_at_call 47; (with_reducible refine (HK0.out _ _ _ _ (by omega) (HAT.out _ (by (repeat (first | (with_reducible exact HW3.out) | (with_reducible exact HW4.out) | (with_reducible exact Below.refl _ _) | (with_reducible refine bel_put ?_ (by omega) _) | (with_reducible refine Below.alloc ?_ (by first | omega | (simp; omega)) _)))))).mono ?_); rintro e w' ⟨rfl, rfl⟩)
    | (go_at_call 47; (with_reducible refine (HK1.out _ _ _ _ (by omega) (HAT.out _ (by (repeat (first | (with_reducible exact HW3.out) | (with_reducible exact HW4.out) | (with_reducible exact Below.refl _ _) | (with_reducible refine bel_put ?_ (by omega) _) | (with_reducible refine Below.alloc ?_ (by first | omega | (simp; omega)) _)))))).mono ?_); rintro e w' ⟨rfl, rfl⟩)
    | (go_at_call 47; (with_reducible refine (HK2.out _ _ _ _ (by omega) (HAT.out _ (by (repeat (first | (with_reducible exact HW3.out) | (with_reducible exact HW4.out) | (with_reducible exact Below.refl _ _) | (with_reducible refine bel_put ?_ (by omega) _) | (with_reducible refine Below.alloc ?_ (by first | omega | (simp; omega)) _)))))).mono ?_); rintro e w' ⟨rfl, rfl⟩)
    | (go_at_call 47; (with_reducible refine (HK3.out _ _ _ _ (by omega) (HAT.out _ (by (repeat (first | (with_reducible exact HW3.out) | (with_reducible exact HW4.out) | (with_reducible exact Below.refl _ _) | (with_reducible refine bel_put ?_ (by omega) _) | (with_reducible refine Below.alloc ?_ (by first | omega | (simp; omega)) _)))))).mono ?_); rintro e w' ⟨rfl, rfl⟩)
    | (go_at_call 47; (with_reducible refine (HK4.out _ _ _ _ (by omega) (HAT.out _ (by (repeat (first | (with_reducible exact HW3.out) | (with_reducible exact HW4.out) | (with_reducible exact Below.refl _ _) | (with_reducible refine bel_put ?_ (by omega) _) | (with_reducible refine Below.alloc ?_ (by first | omega | (simp; omega)) _)))))).mono ?_); rintro e w' ⟨rfl, rfl⟩)
    | (go_at_call 47; (with_reducible refine (HG0.out _ _ _ _ (by omega) (HAT.out _ (by (repeat (first | (with_reducible exact HW3.out) | (with_reducible exact HW4.out) | (with_reducible exact Below.refl _ _) | (with_reducible refine bel_put ?_ (by omega) _) | (with_reducible refine Below.alloc ?_ (by first | omega | (simp; omega)) _)))))).mono ?_); rintro e w' ⟨rfl, rfl⟩)
    | (go_at_call 47; (with_reducible refine (HG1.out _ _ _ _ (by omega) (HAT.out _ (by (repeat (first | (with_reducible exact HW3.out) | (with_reducible exact HW4.out) | (with_reducible exact Below.refl _ _) | (with_reducible refine bel_put ?_ (by omega) _) | (with_reducible refine Below.alloc ?_ (by first | omega | (simp; omega)) _)))))).mono ?_); rintro e w' ⟨rfl, rfl⟩)
    | (go_at_call 47; (with_reducible refine (HG2.out _ _ _ _ (by omega) (HAT.out _ (by (repeat (first | (with_reducible exact HW3.out) | (with_reducible exact HW4.out) | (with_reducible exact Below.refl _ _) | (with_reducible refine bel_put ?_ (by omega) _) | (with_reducible refine Below.alloc ?_ (by first | omega | (simp; omega)) _)))))).mono ?_); rintro e w' ⟨rfl, rfl⟩)
    | (go_at_call 47; (with_reducible refine (HG3.out _ _ _ _ (by omega) (HAT.out _ (by (repeat (first | (with_reducible exact HW3.out) | (with_reducible exact HW4.out) | (with_reducible exact Below.refl _ _) | (with_reducible refine bel_put ?_ (by omega) _) | (with_reducible refine Below.alloc ?_ (by first | omega | (simp; omega)) _)))))).mono ?_); rintro e w' ⟨rfl, rfl⟩)
    | (go_at_call 50; (with_reducible refine (HB1a.out _ _ _ _ (by omega) (HAT.out _ (by (repeat (first | (with_reducible exact HW3.out) | (with_reducible exact HW4.out) | (with_reducible exact Below.refl _ _) | (with_reducible refine bel_put ?_ (by omega) _) | (with_reducible refine Below.alloc ?_ (by first | omega | (simp; omega)) _)))))).mono ?_); rintro e w' ⟨rfl, rfl⟩)
    | (go_at_call 50; (with_reducible refine (HB4a.out _ _ _ _ (by omega) (HAT.out _ (by (repeat (first | (with_reducible exact HW3.out) | (with_reducible exact HW4.out) | (with_reducible exact Below.refl _ _) | (with_reducible refine bel_put ?_ (by omega) _) | (with_reducible refine Below.alloc ?_ (by first | omega | (simp; omega)) _)))))).mono ?_); rintro e w' ⟨rfl, rfl⟩))
  refine bodyPost_ret (v := headV (m0, m1, m2) zP zP (y0, y1, y2) true) ?_ rfl ⟨rfl, ?_⟩
  · simp [results, Try.results21, go_sem, r0, r1, r2, r3, r4, r5, r6, r7, r8, r9, r10, r11, r12, hne, hne2, hlt1]
  · (repeat (first | (with_reducible exact HBW.out) | (with_reducible refine bel_put ?_ (by omega) _) | (with_reducible refine Below.alloc ?_ (by first | omega | (simp; omega)) _)))

set_option maxRecDepth 20000 in
set_option maxHeartbeats 4000000 in
theorem rr_n4_t3 {b off : Nat} (RR : RRow w b off n cap l) (hwf : ∀ j, -2147483648 ≤ l.getD j 0 ∧ l.getD j 0 ≤ 2147483647) (hn : n ≤ 900) (hP : inP dtP l f t = P) (h0 : kindN P 0 = 1) (h1 : kindN P 1 = 3) (h2 : kindN P 2 = 2) {m0 m1 m2 : Nat} (hp2 : P[2]? = some (m0, m1, m2)) (h3 : kindN P 3 = 3) {x4 : Nat} (h4 : kindN P 4 = x4) (hx4 : x4 ≠ 2) {j1 : Nat} (hb1 : blankN P 3 = j1) (hj1 : j1 ≤ 100) {j4 : Nat} (hb4 : blankN P (j1 + 3) = j4) (hj4 : j4 ≤ 200) (g0 : kindN P (j1) = 5) (g1 : kindN P (j1 + 1) = 6) (g2 : kindN P (j1 + 2) = 5) {x : Nat} (g3 : kindN P (j4) = x) (gx7 : x ≠ 7) {y0 y1 y2 : Nat} (hpy : P[j1 + 1]? = some (y0, y1, y2)) :
    Calls Try.prog 21 #[.slice (some ⟨b, off, none⟩) n cap, .int .i64 f, .int .i64 t] w (HeadD w ((zP, zP, zP, zP), false)) := by
  have R : NRow w (some ⟨b, off, none⟩) n cap l := ⟨RR.len, RR.le, RR.max, RR.cells⟩
  have HP := Lib.hid (fun hb => rparts_any (R.below (w' := w.alloc rheadZ) hb) hwf (by omega) f t)
  have HP := Lib.hid (HP.out (one_ok w rheadZ))
  rw [hP] at HP
  obtain ⟨q, hq'⟩ : ∃ q, q = P.length := ⟨_, rfl⟩
  have hq : P.length = q := hq'.symm
  have HQ := Lib.hid hq
  have hqb : q ≤ 1000 := by rw [hq', ← hP]; have := inP_length dtP_facts l f t; rw [R.len] at this; omega
  have HB0 := Lib.hid (HBx.new w [.int .i64 0, .int .i64 0, .int .i64 0, .int .i64 0, .int .i64 0, .int .i64 0, .int .i64 0, .int .i64 0, .int .i64 0, .int .i64 0, .int .i64 0, .int .i64 0, .bool false] 38)
  have HK0 := Lib.hid (show KindAt P q (0) 1 from kindAt hq hqb h0)
  have HK1 := Lib.hid (show KindAt P q (1) 3 from kindAt hq hqb h1)
  have HK2 := Lib.hid (show KindAt P q (2) 2 from kindAt hq hqb h2)
  have HK3 := Lib.hid (show KindAt P q (3) 3 from kindAt hq hqb h3)
  have HK4 := Lib.hid (show KindAt P q (4) (x4 : Nat) from kindAt hq hqb h4)
  have HG0 := Lib.hid (show KindAt P q (j1) 5 from kindAt hq hqb g0)
  have HG1 := Lib.hid (show KindAt P q (j1 + 1) 6 from kindAt hq hqb g1)
  have HG2 := Lib.hid (show KindAt P q (j1 + 2) 5 from kindAt hq hqb g2)
  have HG3 := Lib.hid (show KindAt P q (j4) (x : Nat) from kindAt hq hqb g3)
  have HB1a := Lib.hid (blankAt hq hqb (j := 3) (by omega) hb1)
  have HB4a := Lib.hid (blankAt hq hqb (j := j1 + 3) (by omega) hb4)
  have e4 : ((x4 : Int) == 2) = false := by simp; omega
  have e4' : ((x4 : Int) != 2) = true := by simp; omega
  have ex7 : ((x : Int) == 7) = false := by simp; omega
  have ex7' : ((x : Int) != 7) = true := by simp; omega
  have HPP2 := Lib.hid hp2
  have bq2 : (2 : Int) < (q : Int) := by have := (List.getElem?_eq_some_iff.1 hp2).1; omega
  have HPPy := Lib.hid hpy
  have bqy : (j1 : Int) + 1 < (q : Int) := by have := (List.getElem?_eq_some_iff.1 hpy).1; omega
  have bqy0 : (0 : Int) ≤ (j1 : Int) + 1 := by omega
  have ty : ((j1 : Int) + 1).toNat = j1 + 1 := by omega
  have tk0 : True := trivial
  clear R RR hwf hP hq hq' h0 h1 h2 h3 h4 g0 g1 g2 g3 hb1 hb4 hp2 hpy
  go_enter Try.func21, Try.ntmps21
  go_wp2_with (first
    | (go_at_call 14; (with_reducible refine HP.out.mono ?_); rintro e w1 ⟨pv, rfl, hown, hb1⟩; obtain ⟨va, vc, rfl, hvc⟩ := owns_slice hown; have hs1 : w.heap.size + 1 ≤ w1.heap.size := (by have := hb1.size; simp at this; omega); have HAT := Lib.hid (fun (W : World) (hb : Below w1.heap.size w1 W) => (AtCells.of_owns hown).below hb); have HBW := Lib.hid ((one_ok w rheadZ).trans (hb1.mono (by simp))); have HB1 := Lib.hid (HB0.out.kept (Kept.of_below (p := w1.heap.size) hb1) (by omega)); clear hown hb1; rw [HQ.out]; have r0 := HB1.out.c 0 _ rfl; have r1 := HB1.out.c 1 _ rfl; have r2 := HB1.out.c 2 _ rfl; have r3 := HB1.out.c 3 _ rfl; have r4 := HB1.out.c 4 _ rfl; have r5 := HB1.out.c 5 _ rfl; have r6 := HB1.out.c 6 _ rfl; have r7 := HB1.out.c 7 _ rfl; have r8 := HB1.out.c 8 _ rfl; have r9 := HB1.out.c 9 _ rfl; have r10 := HB1.out.c 10 _ rfl; have r11 := HB1.out.c 11 _ rfl; have r12 := HB1.out.c 12 _ rfl; have rz := HB1.out.z; have hlt1 : w.heap.size < w1.heap.size := (by omega); have hne : ¬ w.heap.size = w1.heap.size := (by omega); have hne2 : ¬ w1.heap.size = w.heap.size := (by omega); obtain ⟨pb, po, hpa, hpb, gm0, gm1, gm2⟩ := tcellsA (HAT.out _ (Below.refl _ _)) HPP2.out; subst hpa; (simp only [Nat.reduceMul, Nat.reduceAdd] at gm0 gm1 gm2); have hpb2 : ¬ pb = w1.heap.size := (by omega); have hpb3 : ¬ w1.heap.size = pb := (by omega); obtain ⟨pb', po', hpa, _, gy0, gy1, gy2⟩ := tcellsA (HAT.out _ (Below.refl _ _)) HPPy.out; (simp only [Option.some.injEq, Addr.mk.injEq] at hpa); obtain ⟨rfl, rfl, _⟩ := hpa; (rw [← Nat.add_assoc] at gy1 gy2); have hpb4 : pb < w1.heap.size := (by omega); have HAX := Lib.hid (fun (W : World) (hb : Below w1.heap.size w1 W) => HAT.out W hb); clear HAT; have HAT := HAX; clear HAX)
    | (go_at_call 47; (with_reducible refine (HK0.out _ _ _ _ (by omega) (HAT.out _ (by (repeat (first | (with_reducible exact HW3.out) | (with_reducible exact HW4.out) | (with_reducible exact Below.refl _ _) | (with_reducible refine bel_put ?_ (by omega) _) | (with_reducible refine Below.alloc ?_ (by first | omega | (simp; omega)) _)))))).mono ?_); rintro e w' ⟨rfl, rfl⟩)
    | (go_at_call 47; (with_reducible refine (HK1.out _ _ _ _ (by omega) (HAT.out _ (by (repeat (first | (with_reducible exact HW3.out) | (with_reducible exact HW4.out) | (with_reducible exact Below.refl _ _) | (with_reducible refine bel_put ?_ (by omega) _) | (with_reducible refine Below.alloc ?_ (by first | omega | (simp; omega)) _)))))).mono ?_); rintro e w' ⟨rfl, rfl⟩)
    | (go_at_call 47; (with_reducible refine (HK2.out _ _ _ _ (by omega) (HAT.out _ (by (repeat (first | (with_reducible exact HW3.out) | (with_reducible exact HW4.out) | (with_reducible exact Below.refl _ _) | (with_reducible refine bel_put ?_ (by omega) _) | (with_reducible refine Below.alloc ?_ (by first | omega | (simp; omega)) _)))))).mono ?_); rintro e w' ⟨rfl, rfl⟩)
    | (go_at_call 47; (with_reducible refine (HK3.out _ _ _ _ (by omega) (HAT.out _ (by (repeat (first | (with_reducible exact HW3.out) | (with_reducible exact HW4.out) | (with_reducible exact Below.refl _ _) | (with_reducible refine bel_put ?_ (by omega) _) | (with_reducible refine Below.alloc ?_ (by first | omega | (simp; omega)) _)))))).mono ?_); rintro e w' ⟨rfl, rfl⟩)
    | (go_at_call 47; (with_reducible refine (HK4.out _ _ _ _ (by omega) (HAT.out _ (by (repeat (first | (with_reducible exact HW3.out) | (with_reducible exact HW4.out) | (with_reducible exact Below.refl _ _) | (with_reducible refine bel_put ?_ (by omega) _) | (with_reducible refine Below.alloc ?_ (by first | omega | (simp; omega)) _)))))).mono ?_); rintro e w' ⟨rfl, rfl⟩)
    | (go_at_call 47; (with_reducible refine (HG0.out _ _ _ _ (by omega) (HAT.out _ (by (repeat (first | (with_reducible exact HW3.out) | (with_reducible exact HW4.out) | (with_reducible exact Below.refl _ _) | (with_reducible refine bel_put ?_ (by omega) _) | (with_reducible refine Below.alloc ?_ (by first | omega | (simp; omega)) _)))))).mono ?_); rintro e w' ⟨rfl, rfl⟩)
    | (go_at_call 47; (with_reducible refine (HG1.out _ _ _ _ (by omega) (HAT.out _ (by (repeat (first | (with_reducible exact HW3.out) | (with_reducible exact HW4.out) | (with_reducible exact Below.refl _ _) | (with_reducible refine bel_put ?_ (by omega) _) | (with_reducible refine Below.alloc ?_ (by first | omega | (simp; omega)) _)))))).mono ?_); rintro e w' ⟨rfl, rfl⟩)
    | (go_at_call 47; (with_reducible refine (HG2.out _ _ _ _ (by omega) (HAT.out _ (by (repeat (first | (with_reducible exact HW3.out) | (with_reducible exact HW4.out) | (with_reducible exact Below.refl _ _) | (with_reducible refine bel_put ?_ (by omega) _) | (with_reducible refine Below.alloc ?_ (by first | omega | (simp; omega)) _)))))).mono ?_); rintro e w' ⟨rfl, rfl⟩)
    | (go_at_call 47; (with_reducible refine (HG3.out _ _ _ _ (by omega) (HAT.out _ (by (repeat (first | (with_reducible exact HW3.out) | (with_reducible exact HW4.out) | (with_reducible exact Below.refl _ _) | (with_reducible refine bel_put ?_ (by omega) _) | (with_reducible refine Below.alloc ?_ (by first | omega | (simp; omega)) _)))))).mono ?_); rintro e w' ⟨rfl, rfl⟩)
    | (go_at_call 50; (with_reducible refine (HB1a.out _ _ _ _ (by omega) (HAT.out _ (by (repeat (first | (with_reducible exact HW3.out) | (with_reducible exact HW4.out) | (with_reducible exact Below.refl _ _) | (with_reducible refine bel_put ?_ (by omega) _) | (with_reducible refine Below.alloc ?_ (by first | omega | (simp; omega)) _)))))).mono ?_); rintro e w' ⟨rfl, rfl⟩)
    | (go_at_call 50; (with_reducible refine (HB4a.out _ _ _ _ (by omega) (HAT.out _ (by (repeat (first | (with_reducible exact HW3.out) | (with_reducible exact HW4.out) | (with_reducible exact Below.refl _ _) | (with_reducible refine bel_put ?_ (by omega) _) | (with_reducible refine Below.alloc ?_ (by first | omega | (simp; omega)) _)))))).mono ?_); rintro e w' ⟨rfl, rfl⟩))
  refine bodyPost_ret (v := headV zP zP zP zP false) ?_ rfl ⟨rfl, ?_⟩
  · simp [results, Try.results21, go_sem, r0, r1, r2, r3, r4, r5, r6, r7, r8, r9, r10, r11, r12, hne, hne2, hlt1]
  · (repeat (first | (with_reducible exact HBW.out) | (with_reducible refine bel_put ?_ (by omega) _) | (with_reducible refine Below.alloc ?_ (by first | omega | (simp; omega)) _)))

set_option maxRecDepth 20000 in
set_option maxHeartbeats 4000000 in
theorem rr_n4_t4 {b off : Nat} (RR : RRow w b off n cap l) (hwf : ∀ j, -2147483648 ≤ l.getD j 0 ∧ l.getD j 0 ≤ 2147483647) (hn : n ≤ 900) (hP : inP dtP l f t = P) (h0 : kindN P 0 = 1) (h1 : kindN P 1 = 3) (h2 : kindN P 2 = 2) {m0 m1 m2 : Nat} (hp2 : P[2]? = some (m0, m1, m2)) (h3 : kindN P 3 = 3) {x4 : Nat} (h4 : kindN P 4 = x4) (hx4 : x4 ≠ 2) {j1 : Nat} (hb1 : blankN P 3 = j1) (hj1 : j1 ≤ 100) (g0 : kindN P (j1) = 5) {x : Nat} (g1 : kindN P (j1 + 1) = x) (gx6 : x ≠ 6) (gx5 : x ≠ 5) :
    Calls Try.prog 21 #[.slice (some ⟨b, off, none⟩) n cap, .int .i64 f, .int .i64 t] w (HeadD w ((zP, zP, zP, zP), false)) := by
  have R : NRow w (some ⟨b, off, none⟩) n cap l := ⟨RR.len, RR.le, RR.max, RR.cells⟩
  have HP := Lib.hid (fun hb => rparts_any (R.below (w' := w.alloc rheadZ) hb) hwf (by omega) f t)
  have HP := Lib.hid (HP.out (one_ok w rheadZ))
  rw [hP] at HP
  obtain ⟨q, hq'⟩ : ∃ q, q = P.length := ⟨_, rfl⟩
  have hq : P.length = q := hq'.symm
  have HQ := Lib.hid hq
  have hqb : q ≤ 1000 := by rw [hq', ← hP]; have := inP_length dtP_facts l f t; rw [R.len] at this; omega
  have HB0 := Lib.hid (HBx.new w [.int .i64 0, .int .i64 0, .int .i64 0, .int .i64 0, .int .i64 0, .int .i64 0, .int .i64 0, .int .i64 0, .int .i64 0, .int .i64 0, .int .i64 0, .int .i64 0, .bool false] 38)
  have HK0 := Lib.hid (show KindAt P q (0) 1 from kindAt hq hqb h0)
  have HK1 := Lib.hid (show KindAt P q (1) 3 from kindAt hq hqb h1)
  have HK2 := Lib.hid (show KindAt P q (2) 2 from kindAt hq hqb h2)
  have HK3 := Lib.hid (show KindAt P q (3) 3 from kindAt hq hqb h3)
  have HK4 := Lib.hid (show KindAt P q (4) (x4 : Nat) from kindAt hq hqb h4)
  have HG0 := Lib.hid (show KindAt P q (j1) 5 from kindAt hq hqb g0)
  have HG1 := Lib.hid (show KindAt P q (j1 + 1) (x : Nat) from kindAt hq hqb g1)
  have HB1a := Lib.hid (blankAt hq hqb (j := 3) (by omega) hb1)
  have e4 : ((x4 : Int) == 2) = false := by simp; omega
  have e4' : ((x4 : Int) != 2) = true := by simp; omega
  have ex6 : ((x : Int) == 6) = false := by simp; omega
  have ex6' : ((x : Int) != 6) = true := by simp; omega
  have ex5 : ((x : Int) == 5) = false := by simp; omega
  have ex5' : ((x : Int) != 5) = true := by simp; omega
  have HPP2 := Lib.hid hp2
  have bq2 : (2 : Int) < (q : Int) := by have := (List.getElem?_eq_some_iff.1 hp2).1; omega
  have tk0 : True := trivial
  clear R RR hwf hP hq hq' h0 h1 h2 h3 h4 g0 g1 hb1 hp2
  go_enter Try.func21, Try.ntmps21
  go_wp2_with (first
    | (go_at_call 14; (with_reducible refine HP.out.mono ?_); rintro e w1 ⟨pv, rfl, hown, hb1⟩; obtain ⟨va, vc, rfl, hvc⟩ := owns_slice hown; have hs1 : w.heap.size + 1 ≤ w1.heap.size := (by have := hb1.size; simp at this; omega); have HAT := Lib.hid (fun (W : World) (hb : Below w1.heap.size w1 W) => (AtCells.of_owns hown).below hb); have HBW := Lib.hid ((one_ok w rheadZ).trans (hb1.mono (by simp))); have HB1 := Lib.hid (HB0.out.kept (Kept.of_below (p := w1.heap.size) hb1) (by omega)); clear hown hb1; rw [HQ.out]; have r0 := HB1.out.c 0 _ rfl; have r1 := HB1.out.c 1 _ rfl; have r2 := HB1.out.c 2 _ rfl; have r3 := HB1.out.c 3 _ rfl; have r4 := HB1.out.c 4 _ rfl; have r5 := HB1.out.c 5 _ rfl; have r6 := HB1.out.c 6 _ rfl; have r7 := HB1.out.c 7 _ rfl; have r8 := HB1.out.c 8 _ rfl; have r9 := HB1.out.c 9 _ rfl; have r10 := HB1.out.c 10 _ rfl; have r11 := HB1.out.c 11 _ rfl; have r12 := HB1.out.c 12 _ rfl; have rz := HB1.out.z; have hlt1 : w.heap.size < w1.heap.size := (by omega); have hne : ¬ w.heap.size = w1.heap.size := (by omega); have hne2 : ¬ w1.heap.size = w.heap.size := (by omega); obtain ⟨pb, po, hpa, hpb, gm0, gm1, gm2⟩ := tcellsA (HAT.out _ (Below.refl _ _)) HPP2.out; subst hpa; (simp only [Nat.reduceMul, Nat.reduceAdd] at gm0 gm1 gm2); have hpb2 : ¬ pb = w1.heap.size := (by omega); have hpb3 : ¬ w1.heap.size = pb := (by omega); have hpb4 : pb < w1.heap.size := (by omega); have HAX := Lib.hid (fun (W : World) (hb : Below w1.heap.size w1 W) => HAT.out W hb); clear HAT; have HAT := HAX; clear HAX)
    | (go_at_call 47; (with_reducible refine (HK0.out _ _ _ _ (by omega) (HAT.out _ (by (repeat (first | (with_reducible exact HW3.out) | (with_reducible exact HW4.out) | (with_reducible exact Below.refl _ _) | (with_reducible refine bel_put ?_ (by omega) _) | (with_reducible refine Below.alloc ?_ (by first | omega | (simp; omega)) _)))))).mono ?_); rintro e w' ⟨rfl, rfl⟩)
    | (go_at_call 47; (with_reducible refine (HK1.out _ _ _ _ (by omega) (HAT.out _ (by (repeat (first | (with_reducible exact HW3.out) | (with_reducible exact HW4.out) | (with_reducible exact Below.refl _ _) | (with_reducible refine bel_put ?_ (by omega) _) | (with_reducible refine Below.alloc ?_ (by first | omega | (simp; omega)) _)))))).mono ?_); rintro e w' ⟨rfl, rfl⟩)
    | (go_at_call 47; (with_reducible refine (HK2.out _ _ _ _ (by omega) (HAT.out _ (by (repeat (first | (with_reducible exact HW3.out) | (with_reducible exact HW4.out) | (with_reducible exact Below.refl _ _) | (with_reducible refine bel_put ?_ (by omega) _) | (with_reducible refine Below.alloc ?_ (by first | omega | (simp; omega)) _)))))).mono ?_); rintro e w' ⟨rfl, rfl⟩)
    | (go_at_call 47; (with_reducible refine (HK3.out _ _ _ _ (by omega) (HAT.out _ (by (repeat (first | (with_reducible exact HW3.out) | (with_reducible exact HW4.out) | (with_reducible exact Below.refl _ _) | (with_reducible refine bel_put ?_ (by omega) _) | (with_reducible refine Below.alloc ?_ (by first | omega | (simp; omega)) _)))))).mono ?_); rintro e w' ⟨rfl, rfl⟩)
    | (go_at_call 47; (with_reducible refine (HK4.out _ _ _ _ (by omega) (HAT.out _ (by (repeat (first | (with_reducible exact HW3.out) | (with_reducible exact HW4.out) | (with_reducible exact Below.refl _ _) | (with_reducible refine bel_put ?_ (by omega) _) | (with_reducible refine Below.alloc ?_ (by first | omega | (simp; omega)) _)))))).mono ?_); rintro e w' ⟨rfl, rfl⟩)
    | (go_at_call 47; (with_reducible refine (HG0.out _ _ _ _ (by omega) (HAT.out _ (by (repeat (first | (with_reducible exact HW3.out) | (with_reducible exact HW4.out) | (with_reducible exact Below.refl _ _) | (with_reducible refine bel_put ?_ (by omega) _) | (with_reducible refine Below.alloc ?_ (by first | omega | (simp; omega)) _)))))).mono ?_); rintro e w' ⟨rfl, rfl⟩)
    | (go_at_call 47; (with_reducible refine (HG1.out _ _ _ _ (by omega) (HAT.out _ (by (repeat (first | (with_reducible exact HW3.out) | (with_reducible exact HW4.out) | (with_reducible exact Below.refl _ _) | (with_reducible refine bel_put ?_ (by omega) _) | (with_reducible refine Below.alloc ?_ (by first | omega | (simp; omega)) _)))))).mono ?_); rintro e w' ⟨rfl, rfl⟩)
    | (go_at_call 50; (with_reducible refine (HB1a.out _ _ _ _ (by omega) (HAT.out _ (by (repeat (first | (with_reducible exact HW3.out) | (with_reducible exact HW4.out) | (with_reducible exact Below.refl _ _) | (with_reducible refine bel_put ?_ (by omega) _) | (with_reducible refine Below.alloc ?_ (by first | omega | (simp; omega)) _)))))).mono ?_); rintro e w' ⟨rfl, rfl⟩))
  refine bodyPost_ret (v := headV zP zP zP zP false) ?_ rfl ⟨rfl, ?_⟩
  · simp [results, Try.results21, go_sem, r0, r1, r2, r3, r4, r5, r6, r7, r8, r9, r10, r11, r12, hne, hne2, hlt1]
  · (repeat (first | (with_reducible exact HBW.out) | (with_reducible refine bel_put ?_ (by omega) _) | (with_reducible refine Below.alloc ?_ (by first | omega | (simp; omega)) _)))

set_option maxRecDepth 20000 in
set_option maxHeartbeats 4000000 in
theorem rr_n4_t5 {b off : Nat} (RR : RRow w b off n cap l) (hwf : ∀ j, -2147483648 ≤ l.getD j 0 ∧ l.getD j 0 ≤ 2147483647) (hn : n ≤ 900) (hP : inP dtP l f t = P) (h0 : kindN P 0 = 1) (h1 : kindN P 1 = 3) (h2 : kindN P 2 = 2) {m0 m1 m2 : Nat} (hp2 : P[2]? = some (m0, m1, m2)) (h3 : kindN P 3 = 3) {x4 : Nat} (h4 : kindN P 4 = x4) (hx4 : x4 ≠ 2) {j1 : Nat} (hb1 : blankN P 3 = j1) (hj1 : j1 ≤ 100) {j4 : Nat} (hb4 : blankN P (j1 + 2) = j4) (hj4 : j4 ≤ 200) (g0 : kindN P (j1) = 5) (g1 : kindN P (j1 + 1) = 5) (g2 : kindN P (j4) = 7) (hL7 : j4 + 1 = P.length) :
    Calls Try.prog 21 #[.slice (some ⟨b, off, none⟩) n cap, .int .i64 f, .int .i64 t] w (HeadD w (((m0, m1, m2), zP, zP, zP), true)) := by
  have R : NRow w (some ⟨b, off, none⟩) n cap l := ⟨RR.len, RR.le, RR.max, RR.cells⟩
  have HP := Lib.hid (fun hb => rparts_any (R.below (w' := w.alloc rheadZ) hb) hwf (by omega) f t)
  have HP := Lib.hid (HP.out (one_ok w rheadZ))
  rw [hP] at HP
  obtain ⟨q, hq'⟩ : ∃ q, q = P.length := ⟨_, rfl⟩
  have hq : P.length = q := hq'.symm
  have HQ := Lib.hid hq
  have hqb : q ≤ 1000 := by rw [hq', ← hP]; have := inP_length dtP_facts l f t; rw [R.len] at this; omega
  have HB0 := Lib.hid (HBx.new w [.int .i64 0, .int .i64 0, .int .i64 0, .int .i64 0, .int .i64 0, .int .i64 0, .int .i64 0, .int .i64 0, .int .i64 0, .int .i64 0, .int .i64 0, .int .i64 0, .bool false] 38)
  have HK0 := Lib.hid (show KindAt P q (0) 1 from kindAt hq hqb h0)
  have HK1 := Lib.hid (show KindAt P q (1) 3 from kindAt hq hqb h1)
  have HK2 := Lib.hid (show KindAt P q (2) 2 from kindAt hq hqb h2)
  have HK3 := Lib.hid (show KindAt P q (3) 3 from kindAt hq hqb h3)
  have HK4 := Lib.hid (show KindAt P q (4) (x4 : Nat) from kindAt hq hqb h4)
  have HG0 := Lib.hid (show KindAt P q (j1) 5 from kindAt hq hqb g0)
  have HG1 := Lib.hid (show KindAt P q (j1 + 1) 5 from kindAt hq hqb g1)
  have HG2 := Lib.hid (show KindAt P q (j4) 7 from kindAt hq hqb g2)
  have HB1a := Lib.hid (blankAt hq hqb (j := 3) (by omega) hb1)
  have HB4a := Lib.hid (blankAt hq hqb (j := j1 + 2) (by omega) hb4)
  have hz7 : (j4 : Int) + 1 = q := by omega
  have hz8 : ((j4 : Int) + 1 != (q : Int)) = false := by simp; omega
  have e4 : ((x4 : Int) == 2) = false := by simp; omega
  have e4' : ((x4 : Int) != 2) = true := by simp; omega
  have HPP2 := Lib.hid hp2
  have bq2 : (2 : Int) < (q : Int) := by have := (List.getElem?_eq_some_iff.1 hp2).1; omega
  have tk0 : True := trivial
  clear R RR hwf hP hq hq' h0 h1 h2 h3 h4 g0 g1 g2 hb1 hb4 hL7 hp2
  go_enter Try.func21, Try.ntmps21
  go_wp2_with (first
    | (go_at_call 14; (with_reducible refine HP.out.mono ?_); rintro e w1 ⟨pv, rfl, hown, hb1⟩; obtain ⟨va, vc, rfl, hvc⟩ := owns_slice hown; have hs1 : w.heap.size + 1 ≤ w1.heap.size := (by have := hb1.size; simp at this; omega); have HAT := Lib.hid (fun (W : World) (hb : Below w1.heap.size w1 W) => (AtCells.of_owns hown).below hb); have HBW := Lib.hid ((one_ok w rheadZ).trans (hb1.mono (by simp))); have HB1 := Lib.hid (HB0.out.kept (Kept.of_below (p := w1.heap.size) hb1) (by omega)); clear hown hb1; rw [HQ.out]; have r0 := HB1.out.c 0 _ rfl; have r1 := HB1.out.c 1 _ rfl; have r2 := HB1.out.c 2 _ rfl; have r3 := HB1.out.c 3 _ rfl; have r4 := HB1.out.c 4 _ rfl; have r5 := HB1.out.c 5 _ rfl; have r6 := HB1.out.c 6 _ rfl; have r7 := HB1.out.c 7 _ rfl; have r8 := HB1.out.c 8 _ rfl; have r9 := HB1.out.c 9 _ rfl; have r10 := HB1.out.c 10 _ rfl; have r11 := HB1.out.c 11 _ rfl; have r12 := HB1.out.c 12 _ rfl; have rz := HB1.out.z; have hlt1 : w.heap.size < w1.heap.size := (by omega); have hne : ¬ w.heap.size = w1.heap.size := (by omega); have hne2 : ¬ w1.heap.size = w.heap.size := (by omega); obtain ⟨pb, po, hpa, hpb, gm0, gm1, gm2⟩ := tcellsA (HAT.out _ (Below.refl _ _)) HPP2.out; subst hpa; (simp only [Nat.reduceMul, Nat.reduceAdd] at gm0 gm1 gm2); have hpb2 : ¬ pb = w1.heap.size := (by omega); have hpb3 : ¬ w1.heap.size = pb := (by omega); have hpb4 : pb < w1.heap.size := (by omega); have HAX := Lib.hid (fun (W : World) (hb : Below w1.heap.size w1 W) => HAT.out W hb); clear HAT; have HAT := HAX; clear HAX)
    | (go_at_call 47; (with_reducible refine (HK0.out _ _ _ _ (by omega) (HAT.out _ (by (repeat (first | (with_reducible exact HW3.out) | (with_reducible exact HW4.out) | (with_reducible exact Below.refl _ _) | (with_reducible refine bel_put ?_ (by omega) _) | (with_reducible refine Below.alloc ?_ (by first | omega | (simp; omega)) _)))))).mono ?_); rintro e w' ⟨rfl, rfl⟩)
    | (go_at_call 47; (with_reducible refine (HK1.out _ _ _ _ (by omega) (HAT.out _ (by (repeat (first | (with_reducible exact HW3.out) | (with_reducible exact HW4.out) | (with_reducible exact Below.refl _ _) | (with_reducible refine bel_put ?_ (by omega) _) | (with_reducible refine Below.alloc ?_ (by first | omega | (simp; omega)) _)))))).mono ?_); rintro e w' ⟨rfl, rfl⟩)
    | (go_at_call 47; (with_reducible refine (HK2.out _ _ _ _ (by omega) (HAT.out _ (by (repeat (first | (with_reducible exact HW3.out) | (with_reducible exact HW4.out) | (with_reducible exact Below.refl _ _) | (with_reducible refine bel_put ?_ (by omega) _) | (with_reducible refine Below.alloc ?_ (by first | omega | (simp; omega)) _)))))).mono ?_); rintro e w' ⟨rfl, rfl⟩)
    | (go_at_call 47; (with_reducible refine (HK3.out _ _ _ _ (by omega) (HAT.out _ (by (repeat (first | (with_reducible exact HW3.out) | (with_reducible exact HW4.out) | (with_reducible exact Below.refl _ _) | (with_reducible refine bel_put ?_ (by omega) _) | (with_reducible refine Below.alloc ?_ (by first | omega | (simp; omega)) _)))))).mono ?_); rintro e w' ⟨rfl, rfl⟩)
    | (go_at_call 47; (with_reducible refine (HK4.out _ _ _ _ (by omega) (HAT.out _ (by (repeat (first | (with_reducible exact HW3.out) | (with_reducible exact HW4.out) | (with_reducible exact Below.refl _ _) | (with_reducible refine bel_put ?_ (by omega) _) | (with_reducible refine Below.alloc ?_ (by first | omega | (simp; omega)) _)))))).mono ?_); rintro e w' ⟨rfl, rfl⟩)
    | (go_at_call 47; (with_reducible refine (HG0.out _ _ _ _ (by omega) (HAT.out _ (by (repeat (first | (with_reducible exact HW3.out) | (with_reducible exact HW4.out) | (with_reducible exact Below.refl _ _) | (with_reducible refine bel_put ?_ (by omega) _) | (with_reducible refine Below.alloc ?_ (by first | omega | (simp; omega)) _)))))).mono ?_); rintro e w' ⟨rfl, rfl⟩)
    | (go_at_call 47; (with_reducible refine (HG1.out _ _ _ _ (by omega) (HAT.out _ (by (repeat (first | (with_reducible exact HW3.out) | (with_reducible exact HW4.out) | (with_reducible exact Below.refl _ _) | (with_reducible refine bel_put ?_ (by omega) _) | (with_reducible refine Below.alloc ?_ (by first | omega | (simp; omega)) _)))))).mono ?_); rintro e w' ⟨rfl, rfl⟩)
    | (go_at_call 47; (with_reducible refine (HG2.out _ _ _ _ (by omega) (HAT.out _ (by (repeat (first | (with_reducible exact HW3.out) | (with_reducible exact HW4.out) | (with_reducible exact Below.refl _ _) | (with_reducible refine bel_put ?_ (by omega) _) | (with_reducible refine Below.alloc ?_ (by first | omega | (simp; omega)) _)))))).mono ?_); rintro e w' ⟨rfl, rfl⟩)
    | (go_at_call 50; (with_reducible refine (HB1a.out _ _ _ _ (by omega) (HAT.out _ (by (repeat (first | (with_reducible exact HW3.out) | (with_reducible exact HW4.out) | (with_reducible exact Below.refl _ _) | (with_reducible refine bel_put ?_ (by omega) _) | (with_reducible refine Below.alloc ?_ (by first | omega | (simp; omega)) _)))))).mono ?_); rintro e w' ⟨rfl, rfl⟩)
    | (go_at_call 50; (with_reducible refine (HB4a.out _ _ _ _ (by omega) (HAT.out _ (by (repeat (first | (with_reducible exact HW3.out) | (with_reducible exact HW4.out) | (with_reducible exact Below.refl _ _) | (with_reducible refine bel_put ?_ (by omega) _) | (with_reducible refine Below.alloc ?_ (by first | omega | (simp; omega)) _)))))).mono ?_); rintro e w' ⟨rfl, rfl⟩))
  refine bodyPost_ret (v := headV (m0, m1, m2) zP zP zP true) ?_ rfl ⟨rfl, ?_⟩
  · simp [results, Try.results21, go_sem, r0, r1, r2, r3, r4, r5, r6, r7, r8, r9, r10, r11, r12, hne, hne2, hlt1]
  · (repeat (first | (with_reducible exact HBW.out) | (with_reducible refine bel_put ?_ (by omega) _) | (with_reducible refine Below.alloc ?_ (by first | omega | (simp; omega)) _)))

set_option maxRecDepth 20000 in
set_option maxHeartbeats 4000000 in
theorem rr_n4_t6 {b off : Nat} (RR : RRow w b off n cap l) (hwf : ∀ j, -2147483648 ≤ l.getD j 0 ∧ l.getD j 0 ≤ 2147483647) (hn : n ≤ 900) (hP : inP dtP l f t = P) (h0 : kindN P 0 = 1) (h1 : kindN P 1 = 3) (h2 : kindN P 2 = 2) {m0 m1 m2 : Nat} (hp2 : P[2]? = some (m0, m1, m2)) (h3 : kindN P 3 = 3) {x4 : Nat} (h4 : kindN P 4 = x4) (hx4 : x4 ≠ 2) {j1 : Nat} (hb1 : blankN P 3 = j1) (hj1 : j1 ≤ 100) {j4 : Nat} (hb4 : blankN P (j1 + 2) = j4) (hj4 : j4 ≤ 200) (g0 : kindN P (j1) = 5) (g1 : kindN P (j1 + 1) = 5) {x : Nat} (g2 : kindN P (j4) = x) (gx7 : x ≠ 7) :
    Calls Try.prog 21 #[.slice (some ⟨b, off, none⟩) n cap, .int .i64 f, .int .i64 t] w (HeadD w ((zP, zP, zP, zP), false)) := by
  have R : NRow w (some ⟨b, off, none⟩) n cap l := ⟨RR.len, RR.le, RR.max, RR.cells⟩
  have HP := Lib.hid (fun hb => rparts_any (R.below (w' := w.alloc rheadZ) hb) hwf (by omega) f t)
  have HP := Lib.hid (HP.out (one_ok w rheadZ))
  rw [hP] at HP
  obtain ⟨q, hq'⟩ : ∃ q, q = P.length := ⟨_, rfl⟩
  have hq : P.length = q := hq'.symm
  have HQ := Lib.hid hq
  have hqb : q ≤ 1000 := by rw [hq', ← hP]; have := inP_length dtP_facts l f t; rw [R.len] at this; omega
  have HB0 := Lib.hid (HBx.new w [.int .i64 0, .int .i64 0, .int .i64 0, .int .i64 0, .int .i64 0, .int .i64 0, .int .i64 0, .int .i64 0, .int .i64 0, .int .i64 0, .int .i64 0, .int .i64 0, .bool false] 38)
  have HK0 := Lib.hid (show KindAt P q (0) 1 from kindAt hq hqb h0)
  have HK1 := Lib.hid (show KindAt P q (1) 3 from kindAt hq hqb h1)
  have HK2 := Lib.hid (show KindAt P q (2) 2 from kindAt hq hqb h2)
  have HK3 := Lib.hid (show KindAt P q (3) 3 from kindAt hq hqb h3)
  have HK4 := Lib.hid (show KindAt P q (4) (x4 : Nat) from kindAt hq hqb h4)
  have HG0 := Lib.hid (show KindAt P q (j1) 5 from kindAt hq hqb g0)
  have HG1 := Lib.hid (show KindAt P q (j1 + 1) 5 from kindAt hq hqb g1)
  have HG2 := Lib.hid (show KindAt P q (j4) (x : Nat) from kindAt hq hqb g2)
  have HB1a := Lib.hid (blankAt hq hqb (j := 3) (by omega) hb1)
  have HB4a := Lib.hid (blankAt hq hqb (j := j1 + 2) (by omega) hb4)
  have e4 : ((x4 : Int) == 2) = false := by simp; omega
  have e4' : ((x4 : Int) != 2) = true := by simp; omega
  have ex7 : ((x : Int) == 7) = false := by simp; omega
  have ex7' : ((x : Int) != 7) = true := by simp; omega
  have HPP2 := Lib.hid hp2
  have bq2 : (2 : Int) < (q : Int) := by have := (List.getElem?_eq_some_iff.1 hp2).1; omega
  have tk0 : True := trivial
  clear R RR hwf hP hq hq' h0 h1 h2 h3 h4 g0 g1 g2 hb1 hb4 hp2
  go_enter Try.func21, Try.ntmps21
  go_wp2_with (first
    | (go_at_call 14; (with_reducible refine HP.out.mono ?_); rintro e w1 ⟨pv, rfl, hown, hb1⟩; obtain ⟨va, vc, rfl, hvc⟩ := owns_slice hown; have hs1 : w.heap.size + 1 ≤ w1.heap.size := (by have := hb1.size; simp at this; omega); have HAT := Lib.hid (fun (W : World) (hb : Below w1.heap.size w1 W) => (AtCells.of_owns hown).below hb); have HBW := Lib.hid ((one_ok w rheadZ).trans (hb1.mono (by simp))); have HB1 := Lib.hid (HB0.out.kept (Kept.of_below (p := w1.heap.size) hb1) (by omega)); clear hown hb1; rw [HQ.out]; have r0 := HB1.out.c 0 _ rfl; have r1 := HB1.out.c 1 _ rfl; have r2 := HB1.out.c 2 _ rfl; have r3 := HB1.out.c 3 _ rfl; have r4 := HB1.out.c 4 _ rfl; have r5 := HB1.out.c 5 _ rfl; have r6 := HB1.out.c 6 _ rfl; have r7 := HB1.out.c 7 _ rfl; have r8 := HB1.out.c 8 _ rfl; have r9 := HB1.out.c 9 _ rfl; have r10 := HB1.out.c 10 _ rfl; have r11 := HB1.out.c 11 _ rfl; have r12 := HB1.out.c 12 _ rfl; have rz := HB1.out.z; have hlt1 : w.heap.size < w1.heap.size := (by omega); have hne : ¬ w.heap.size = w1.heap.size := (by omega); have hne2 : ¬ w1.heap.size = w.heap.size := (by omega); obtain ⟨pb, po, hpa, hpb, gm0, gm1, gm2⟩ := tcellsA (HAT.out _ (Below.refl _ _)) HPP2.out; subst hpa; (simp only [Nat.reduceMul, Nat.reduceAdd] at gm0 gm1 gm2); have hpb2 : ¬ pb = w1.heap.size := (by omega); have hpb3 : ¬ w1.heap.size = pb := (by omega); have hpb4 : pb < w1.heap.size := (by omega); have HAX := Lib.hid (fun (W : World) (hb : Below w1.heap.size w1 W) => HAT.out W hb); clear HAT; have HAT := HAX; clear HAX)
    | (go_at_call 47; (with_reducible refine (HK0.out _ _ _ _ (by omega) (HAT.out _ (by (repeat (first | (with_reducible exact HW3.out) | (with_reducible exact HW4.out) | (with_reducible exact Below.refl _ _) | (with_reducible refine bel_put ?_ (by omega) _) | (with_reducible refine Below.alloc ?_ (by first | omega | (simp; omega)) _)))))).mono ?_); rintro e w' ⟨rfl, rfl⟩)
    | (go_at_call 47; (with_reducible refine (HK1.out _ _ _ _ (by omega) (HAT.out _ (by (repeat (first | (with_reducible exact HW3.out) | (with_reducible exact HW4.out) | (with_reducible exact Below.refl _ _) | (with_reducible refine bel_put ?_ (by omega) _) | (with_reducible refine Below.alloc ?_ (by first | omega | (simp; omega)) _)))))).mono ?_); rintro e w' ⟨rfl, rfl⟩)
    | (go_at_call 47; (with_reducible refine (HK2.out _ _ _ _ (by omega) (HAT.out _ (by (repeat (first | (with_reducible exact HW3.out) | (with_reducible exact HW4.out) | (with_reducible exact Below.refl _ _) | (with_reducible refine bel_put ?_ (by omega) _) | (with_reducible refine Below.alloc ?_ (by first | omega | (simp; omega)) _)))))).mono ?_); rintro e w' ⟨rfl, rfl⟩)
    | (go_at_call 47; (with_reducible refine (HK3.out _ _ _ _ (by omega) (HAT.out _ (by (repeat (first | (with_reducible exact HW3.out) | (with_reducible exact HW4.out) | (with_reducible exact Below.refl _ _) | (with_reducible refine bel_put ?_ (by omega) _) | (with_reducible refine Below.alloc ?_ (by first | omega | (simp; omega)) _)))))).mono ?_); rintro e w' ⟨rfl, rfl⟩)
    | (go_at_call 47; (with_reducible refine (HK4.out _ _ _ _ (by omega) (HAT.out _ (by (repeat (first | (with_reducible exact HW3.out) | (with_reducible exact HW4.out) | (with_reducible exact Below.refl _ _) | (with_reducible refine bel_put ?_ (by omega) _) | (with_reducible refine Below.alloc ?_ (by first | omega | (simp; omega)) _)))))).mono ?_); rintro e w' ⟨rfl, rfl⟩)
    | (go_at_call 47; (with_reducible refine (HG0.out _ _ _ _ (by omega) (HAT.out _ (by (repeat (first | (with_reducible exact HW3.out) | (with_reducible exact HW4.out) | (with_reducible exact Below.refl _ _) | (with_reducible refine bel_put ?_ (by omega) _) | (with_reducible refine Below.alloc ?_ (by first | omega | (simp; omega)) _)))))).mono ?_); rintro e w' ⟨rfl, rfl⟩)
    | (go_at_call 47; (with_reducible refine (HG1.out _ _ _ _ (by omega) (HAT.out _ (by (repeat (first | (with_reducible exact HW3.out) | (with_reducible exact HW4.out) | (with_reducible exact Below.refl _ _) | (with_reducible refine bel_put ?_ (by omega) _) | (with_reducible refine Below.alloc ?_ (by first | omega | (simp; omega)) _)))))).mono ?_); rintro e w' ⟨rfl, rfl⟩)
    | (go_at_call 47; (with_reducible refine (HG2.out _ _ _ _ (by omega) (HAT.out _ (by (repeat (first | (with_reducible exact HW3.out) | (with_reducible exact HW4.out) | (with_reducible exact Below.refl _ _) | (with_reducible refine bel_put ?_ (by omega) _) | (with_reducible refine Below.alloc ?_ (by first | omega | (simp; omega)) _)))))).mono ?_); rintro e w' ⟨rfl, rfl⟩)
    | (go_at_call 50; (with_reducible refine (HB1a.out _ _ _ _ (by omega) (HAT.out _ (by (repeat (first | (with_reducible exact HW3.out) | (with_reducible exact HW4.out) | (with_reducible exact Below.refl _ _) | (with_reducible refine bel_put ?_ (by omega) _) | (with_reducible refine Below.alloc ?_ (by first | omega | (simp; omega)) _)))))).mono ?_); rintro e w' ⟨rfl, rfl⟩)
    | (go_at_call 50; (with_reducible refine (HB4a.out _ _ _ _ (by omega) (HAT.out _ (by (repeat (first | (with_reducible exact HW3.out) | (with_reducible exact HW4.out) | (with_reducible exact Below.refl _ _) | (with_reducible refine bel_put ?_ (by omega) _) | (with_reducible refine Below.alloc ?_ (by first | omega | (simp; omega)) _)))))).mono ?_); rintro e w' ⟨rfl, rfl⟩))
  refine bodyPost_ret (v := headV zP zP zP zP false) ?_ rfl ⟨rfl, ?_⟩
  · simp [results, Try.results21, go_sem, r0, r1, r2, r3, r4, r5, r6, r7, r8, r9, r10, r11, r12, hne, hne2, hlt1]
  · (repeat (first | (with_reducible exact HBW.out) | (with_reducible refine bel_put ?_ (by omega) _) | (with_reducible refine Below.alloc ?_ (by first | omega | (simp; omega)) _)))

set_option maxRecDepth 20000 in
set_option maxHeartbeats 4000000 in
theorem rr_n4_t7 {b off : Nat} (RR : RRow w b off n cap l) (hwf : ∀ j, -2147483648 ≤ l.getD j 0 ∧ l.getD j 0 ≤ 2147483647) (hn : n ≤ 900) (hP : inP dtP l f t = P) (h0 : kindN P 0 = 1) (h1 : kindN P 1 = 3) (h2 : kindN P 2 = 2) {m0 m1 m2 : Nat} (hp2 : P[2]? = some (m0, m1, m2)) (h3 : kindN P 3 = 3) {x4 : Nat} (h4 : kindN P 4 = x4) (hx4 : x4 ≠ 2) {j1 : Nat} (hb1 : blankN P 3 = j1) (hj1 : j1 ≤ 100) (g0 : kindN P (j1) = 7) (hL7 : j1 + 1 = P.length) :
    Calls Try.prog 21 #[.slice (some ⟨b, off, none⟩) n cap, .int .i64 f, .int .i64 t] w (HeadD w (((m0, m1, m2), zP, zP, zP), true)) := by
  have R : NRow w (some ⟨b, off, none⟩) n cap l := ⟨RR.len, RR.le, RR.max, RR.cells⟩
  have HP := Lib.hid (fun hb => rparts_any (R.below (w' := w.alloc rheadZ) hb) hwf (by omega) f t)
  have HP := Lib.hid (HP.out (one_ok w rheadZ))
  rw [hP] at HP
  obtain ⟨q, hq'⟩ : ∃ q, q = P.length := ⟨_, rfl⟩
  have hq : P.length = q := hq'.symm
  have HQ := Lib.hid hq
  have hqb : q ≤ 1000 := by rw [hq', ← hP]; have := inP_length dtP_facts l f t; rw [R.len] at this; omega
  have HB0 := Lib.hid (HBx.new w [.int .i64 0, .int .i64 0, .int .i64 0, .int .i64 0, .int .i64 0, .int .i64 0, .int .i64 0, .int .i64 0, .int .i64 0, .int .i64 0, .int .i64 0, .int .i64 0, .bool false] 38)
  have HK0 := Lib.hid (show KindAt P q (0) 1 from kindAt hq hqb h0)
  have HK1 := Lib.hid (show KindAt P q (1) 3 from kindAt hq hqb h1)
  have HK2 := Lib.hid (show KindAt P q (2) 2 from kindAt hq hqb h2)
  have HK3 := Lib.hid (show KindAt P q (3) 3 from kindAt hq hqb h3)
  have HK4 := Lib.hid (show KindAt P q (4) (x4 : Nat) from kindAt hq hqb h4)
  have HG0 := Lib.hid (show KindAt P q (j1) 7 from kindAt hq hqb g0)
  have HB1a := Lib.hid (blankAt hq hqb (j := 3) (by omega) hb1)
  have hz7 : (j1 : Int) + 1 = q := by omega
  have hz8 : ((j1 : Int) + 1 != (q : Int)) = false := by simp; omega
  have e4 : ((x4 : Int) == 2) = false := by simp; omega
  have e4' : ((x4 : Int) != 2) = true := by simp; omega
  have HPP2 := Lib.hid hp2
  have bq2 : (2 : Int) < (q : Int) := by have := (List.getElem?_eq_some_iff.1 hp2).1; omega
  have tk0 : True := trivial
  clear R RR hwf hP hq hq' h0 h1 h2 h3 h4 g0 hb1 hL7 hp2
  go_enter Try.func21, Try.ntmps21
  go_wp2_with (first
    | (go_at_call 14; (with_reducible refine HP.out.mono ?_); rintro e w1 ⟨pv, rfl, hown, hb1⟩; obtain ⟨va, vc, rfl, hvc⟩ := owns_slice hown; have hs1 : w.heap.size + 1 ≤ w1.heap.size := (by have := hb1.size; simp at this; omega); have HAT := Lib.hid (fun (W : World) (hb : Below w1.heap.size w1 W) => (AtCells.of_owns hown).below hb); have HBW := Lib.hid ((one_ok w rheadZ).trans (hb1.mono (by simp))); have HB1 := Lib.hid (HB0.out.kept (Kept.of_below (p := w1.heap.size) hb1) (by omega)); clear hown hb1; rw [HQ.out]; have r0 := HB1.out.c 0 _ rfl; have r1 := HB1.out.c 1 _ rfl; have r2 := HB1.out.c 2 _ rfl; have r3 := HB1.out.c 3 _ rfl; have r4 := HB1.out.c 4 _ rfl; have r5 := HB1.out.c 5 _ rfl; have r6 := HB1.out.c 6 _ rfl; have r7 := HB1.out.c 7 _ rfl; have r8 := HB1.out.c 8 _ rfl; have r9 := HB1.out.c 9 _ rfl; have r10 := HB1.out.c 10 _ rfl; have r11 := HB1.out.c 11 _ rfl; have r12 := HB1.out.c 12 _ rfl; have rz := HB1.out.z; have hlt1 : w.heap.size < w1.heap.size := (by omega); have hne : ¬ w.heap.size = w1.heap.size := (by omega); have hne2 : ¬ w1.heap.size = w.heap.size := (by omega); obtain ⟨pb, po, hpa, hpb, gm0, gm1, gm2⟩ := tcellsA (HAT.out _ (Below.refl _ _)) HPP2.out; subst hpa; (simp only [Nat.reduceMul, Nat.reduceAdd] at gm0 gm1 gm2); have hpb2 : ¬ pb = w1.heap.size := (by omega); have hpb3 : ¬ w1.heap.size = pb := (by omega); have hpb4 : pb < w1.heap.size := (by omega); have HAX := Lib.hid (fun (W : World) (hb : Below w1.heap.size w1 W) => HAT.out W hb); clear HAT; have HAT := HAX; clear HAX)
    | (go_at_call 47; (with_reducible refine (HK0.out _ _ _ _ (by omega) (HAT.out _ (by (repeat (first | (with_reducible exact HW3.out) | (with_reducible exact HW4.out) | (with_reducible exact Below.refl _ _) | (with_reducible refine bel_put ?_ (by omega) _) | (with_reducible refine Below.alloc ?_ (by first | omega | (simp; omega)) _)))))).mono ?_); rintro e w' ⟨rfl, rfl⟩)
    | (go_at_call 47; (with_reducible refine (HK1.out _ _ _ _ (by omega) (HAT.out _ (by (repeat (first | (with_reducible exact HW3.out) | (with_reducible exact HW4.out) | (with_reducible exact Below.refl _ _) | (with_reducible refine bel_put ?_ (by omega) _) | (with_reducible refine Below.alloc ?_ (by first | omega | (simp; omega)) _)))))).mono ?_); rintro e w' ⟨rfl, rfl⟩)
    | (go_at_call 47; (with_reducible refine (HK2.out _ _ _ _ (by omega) (HAT.out _ (by (repeat (first | (with_reducible exact HW3.out) | (with_reducible exact HW4.out) | (with_reducible exact Below.refl _ _) | (with_reducible refine bel_put ?_ (by omega) _) | (with_reducible refine Below.alloc ?_ (by first | omega | (simp; omega)) _)))))).mono ?_); rintro e w' ⟨rfl, rfl⟩)
    | (go_at_call 47; (with_reducible refine (HK3.out _ _ _ _ (by omega) (HAT.out _ (by (repeat (first | (with_reducible exact HW3.out) | (with_reducible exact HW4.out) | (with_reducible exact Below.refl _ _) | (with_reducible refine bel_put ?_ (by omega) _) | (with_reducible refine Below.alloc ?_ (by first | omega | (simp; omega)) _)))))).mono ?_); rintro e w' ⟨rfl, rfl⟩)
    | (go_at_call 47; (with_reducible refine (HK4.out _ _ _ _ (by omega) (HAT.out _ (by (repeat (first | (with_reducible exact HW3.out) | (with_reducible exact HW4.out) | (with_reducible exact Below.refl _ _) | (with_reducible refine bel_put ?_ (by omega) _) | (with_reducible refine Below.alloc ?_ (by first | omega | (simp; omega)) _)))))).mono ?_); rintro e w' ⟨rfl, rfl⟩)
    | (go_at_call 47; (with_reducible refine (HG0.out _ _ _ _ (by omega) (HAT.out _ (by (repeat (first | (with_reducible exact HW3.out) | (with_reducible exact HW4.out) | (with_reducible exact Below.refl _ _) | (with_reducible refine bel_put ?_ (by omega) _) | (with_reducible refine Below.alloc ?_ (by first | omega | (simp; omega)) _)))))).mono ?_); rintro e w' ⟨rfl, rfl⟩)
    | (go_at_call 50; (with_reducible refine (HB1a.out _ _ _ _ (by omega) (HAT.out _ (by (repeat (first | (with_reducible exact HW3.out) | (with_reducible exact HW4.out) | (with_reducible exact Below.refl _ _) | (with_reducible refine bel_put ?_ (by omega) _) | (with_reducible refine Below.alloc ?_ (by first | omega | (simp; omega)) _)))))).mono ?_); rintro e w' ⟨rfl, rfl⟩))
  refine bodyPost_ret (v := headV (m0, m1, m2) zP zP zP true) ?_ rfl ⟨rfl, ?_⟩
  · simp [results, Try.results21, go_sem, r0, r1, r2, r3, r4, r5, r6, r7, r8, r9, r10, r11, r12, hne, hne2, hlt1]
  · (repeat (first | (with_reducible exact HBW.out) | (with_reducible refine bel_put ?_ (by omega) _) | (with_reducible refine Below.alloc ?_ (by first | omega | (simp; omega)) _)))

set_option maxRecDepth 20000 in
set_option maxHeartbeats 4000000 in
theorem rr_n4_t8 {b off : Nat} (RR : RRow w b off n cap l) (hwf : ∀ j, -2147483648 ≤ l.getD j 0 ∧ l.getD j 0 ≤ 2147483647) (hn : n ≤ 900) (hP : inP dtP l f t = P) (h0 : kindN P 0 = 1) (h1 : kindN P 1 = 3) (h2 : kindN P 2 = 2) {m0 m1 m2 : Nat} (hp2 : P[2]? = some (m0, m1, m2)) (h3 : kindN P 3 = 3) {x4 : Nat} (h4 : kindN P 4 = x4) (hx4 : x4 ≠ 2) {j1 : Nat} (hb1 : blankN P 3 = j1) (hj1 : j1 ≤ 100) {x : Nat} (g0 : kindN P (j1) = x) (gx5 : x ≠ 5) (gx7 : x ≠ 7) :
    Calls Try.prog 21 #[.slice (some ⟨b, off, none⟩) n cap, .int .i64 f, .int .i64 t] w (HeadD w ((zP, zP, zP, zP), false)) := by
  have R : NRow w (some ⟨b, off, none⟩) n cap l := ⟨RR.len, RR.le, RR.max, RR.cells⟩
  have HP := Lib.hid (fun hb => rparts_any (R.below (w' := w.alloc rheadZ) hb) hwf (by omega) f t)
  have HP := Lib.hid (HP.out (one_ok w rheadZ))
  rw [hP] at HP
  obtain ⟨q, hq'⟩ : ∃ q, q = P.length := ⟨_, rfl⟩
  have hq : P.length = q := hq'.symm
  have HQ := Lib.hid hq
  have hqb : q ≤ 1000 := by rw [hq', ← hP]; have := inP_length dtP_facts l f t; rw [R.len] at this; omega
  have HB0 := Lib.hid (HBx.new w [.int .i64 0, .int .i64 0, .int .i64 0, .int .i64 0, .int .i64 0, .int .i64 0, .int .i64 0, .int .i64 0, .int .i64 0, .int .i64 0, .int .i64 0, .int .i64 0, .bool false] 38)
  have HK0 := Lib.hid (show KindAt P q (0) 1 from kindAt hq hqb h0)
  have HK1 := Lib.hid (show KindAt P q (1) 3 from kindAt hq hqb h1)
  have HK2 := Lib.hid (show KindAt P q (2) 2 from kindAt hq hqb h2)
  have HK3 := Lib.hid (show KindAt P q (3) 3 from kindAt hq hqb h3)
  have HK4 := Lib.hid (show KindAt P q (4) (x4 : Nat) from kindAt hq hqb h4)
  have HG0 := Lib.hid (show KindAt P q (j1) (x : Nat) from kindAt hq hqb g0)
  have HB1a := Lib.hid (blankAt hq hqb (j := 3) (by omega) hb1)
  have e4 : ((x4 : Int) == 2) = false := by simp; omega
  have e4' : ((x4 : Int) != 2) = true := by simp; omega
  have ex5 : ((x : Int) == 5) = false := by simp; omega
  have ex5' : ((x : Int) != 5) = true := by simp; omega
  have ex7 : ((x : Int) == 7) = false := by simp; omega
  have ex7' : ((x : Int) != 7) = true := by simp; omega
  have HPP2 := Lib.hid hp2
  have bq2 : (2 : Int) < (q : Int) := by have := (List.getElem?_eq_some_iff.1 hp2).1; omega
  have tk0 : True := trivial
  clear R RR hwf hP hq hq' h0 h1 h2 h3 h4 g0 hb1 hp2
  go_enter Try.func21, Try.ntmps21
  go_wp2_with (first
    | (go_at_call 14; (with_reducible refine HP.out.mono ?_); rintro e w1 ⟨pv, rfl, hown, hb1⟩; obtain ⟨va, vc, rfl, hvc⟩ := owns_slice hown; have hs1 : w.heap.size + 1 ≤ w1.heap.size := (by have := hb1.size; simp at this; omega); have HAT := Lib.hid (fun (W : World) (hb : Below w1.heap.size w1 W) => (AtCells.of_owns hown).below hb); have HBW := Lib.hid ((one_ok w rheadZ).trans (hb1.mono (by simp))); have HB1 := Lib.hid (HB0.out.kept (Kept.of_below (p := w1.heap.size) hb1) (by omega)); clear hown hb1; rw [HQ.out]; have r0 := HB1.out.c 0 _ rfl; have r1 := HB1.out.c 1 _ rfl; have r2 := HB1.out.c 2 _ rfl; have r3 := HB1.out.c 3 _ rfl; have r4 := HB1.out.c 4 _ rfl; have r5 := HB1.out.c 5 _ rfl; have r6 := HB1.out.c 6 _ rfl; have r7 := HB1.out.c 7 _ rfl; have r8 := HB1.out.c 8 _ rfl; have r9 := HB1.out.c 9 _ rfl; have r10 := HB1.out.c 10 _ rfl; have r11 := HB1.out.c 11 _ rfl; have r12 := HB1.out.c 12 _ rfl; have rz := HB1.out.z; have hlt1 : w.heap.size < w1.heap.size := (by omega); have hne : ¬ w.heap.size = w1.heap.size := (by omega); have hne2 : ¬ w1.heap.size = w.heap.size := (by omega); obtain ⟨pb, po, hpa, hpb, gm0, gm1, gm2⟩ := tcellsA (HAT.out _ (Below.refl _ _)) HPP2.out; subst hpa; (simp only [Nat.reduceMul, Nat.reduceAdd] at gm0 gm1 gm2); have hpb2 : ¬ pb = w1.heap.size := (by omega); have hpb3 : ¬ w1.heap.size = pb := (by omega); have hpb4 : pb < w1.heap.size := (by omega); have HAX := Lib.hid (fun (W : World) (hb : Below w1.heap.size w1 W) => HAT.out W hb); clear HAT; have HAT := HAX; clear HAX)
    | (go_at_call 47; (with_reducible refine (HK0.out _ _ _ _ (by omega) (HAT.out _ (by (repeat (first | (with_reducible exact HW3.out) | (with_reducible exact HW4.out) | (with_reducible exact Below.refl _ _) | (with_reducible refine bel_put ?_ (by omega) _) | (with_reducible refine Below.alloc ?_ (by first | omega | (simp; omega)) _)))))).mono ?_); rintro e w' ⟨rfl, rfl⟩)
    | (go_at_call 47; (with_reducible refine (HK1.out _ _ _ _ (by omega) (HAT.out _ (by (repeat (first | (with_reducible exact HW3.out) | (with_reducible exact HW4.out) | (with_reducible exact Below.refl _ _) | (with_reducible refine bel_put ?_ (by omega) _) | (with_reducible refine Below.alloc ?_ (by first | omega | (simp; omega)) _)))))).mono ?_); rintro e w' ⟨rfl, rfl⟩)
    | (go_at_call 47; (with_reducible refine (HK2.out _ _ _ _ (by omega) (HAT.out _ (by (repeat (first | (with_reducible exact HW3.out) | (with_reducible exact HW4.out) | (with_reducible exact Below.refl _ _) | (with_reducible refine bel_put ?_ (by omega) _) | (with_reducible refine Below.alloc ?_ (by first | omega | (simp; omega)) _)))))).mono ?_); rintro e w' ⟨rfl, rfl⟩)
    | (go_at_call 47; (with_reducible refine (HK3.out _ _ _ _ (by omega) (HAT.out _ (by (repeat (first | (with_reducible exact HW3.out) | (with_reducible exact HW4.out) | (with_reducible exact Below.refl _ _) | (with_reducible refine bel_put ?_ (by omega) _) | (with_reducible refine Below.alloc ?_ (by first | omega | (simp; omega)) _)))))).mono ?_); rintro e w' ⟨rfl, rfl⟩)
    | (go_at_call 47; (with_reducible refine (HK4.out _ _ _ _ (by omega) (HAT.out _ (by (repeat (first | (with_reducible exact HW3.out) | (with_reducible exact HW4.out) | (with_reducible exact Below.refl _ _) | (with_reducible refine bel_put ?_ (by omega) _) | (with_reducible refine Below.alloc ?_ (by first | omega | (simp; omega)) _)))))).mono ?_); rintro e w' ⟨rfl, rfl⟩)
    | (go_at_call 47; (with_reducible refine (HG0.out _ _ _ _ (by omega) (HAT.out _ (by (repeat (first | (with_reducible exact HW3.out) | (with_reducible exact HW4.out) | (with_reducible exact Below.refl _ _) | (with_reducible refine bel_put ?_ (by omega) _) | (with_reducible refine Below.alloc ?_ (by first | omega | (simp; omega)) _)))))).mono ?_); rintro e w' ⟨rfl, rfl⟩)
    | (go_at_call 50; (with_reducible refine (HB1a.out _ _ _ _ (by omega) (HAT.out _ (by (repeat (first | (with_reducible exact HW3.out) | (with_reducible exact HW4.out) | (with_reducible exact Below.refl _ _) | (with_reducible refine bel_put ?_ (by omega) _) | (with_reducible refine Below.alloc ?_ (by first | omega | (simp; omega)) _)))))).mono ?_); rintro e w' ⟨rfl, rfl⟩))
  refine bodyPost_ret (v := headV zP zP zP zP false) ?_ rfl ⟨rfl, ?_⟩
  · simp [results, Try.results21, go_sem, r0, r1, r2, r3, r4, r5, r6, r7, r8, r9, r10, r11, r12, hne, hne2, hlt1]
  · (repeat (first | (with_reducible exact HBW.out) | (with_reducible refine bel_put ?_ (by omega) _) | (with_reducible refine Below.alloc ?_ (by first | omega | (simp; omega)) _)))

end
end Go.Proofs.Ytpjcheelafegbaa
