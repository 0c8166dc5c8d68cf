/-
  Contract of the reference's layer 9: Read.
-/
import Derived.Test.YtpjcheelafegbaaRdG
import Derived.Test.YtpjcheelafegbaaDtB
import Derived.Deep.DeepCutAuto
namespace Go.Proofs.Ytpjcheelafegbaa
open Go.RowKit
set_option linter.unusedVariables false

abbrev rheadZ : Obj := .cells #[.int .i64 0, .int .i64 0, .int .i64 0, .int .i64 0, .int .i64 0, .int .i64 0, .int .i64 0, .int .i64 0, .int .i64 0, .int .i64 0, .int .i64 0, .int .i64 0, .bool false] 38
theorem bel_put {B g j : Nat} {a W : World} (h : Below B a W) (hg : B ≤ g) (v : Value) : Below B a (W.setCell ⟨g, j, none⟩ v) := h.setCell (p := ⟨g, j, none⟩) hg v
theorem tcellsA {w : World} {A : Option Addr} {n : List PartA} {k a b c : Nat} (h : AtCells w A (parsCells n)) (hx : n[k]? = some (a, b, c)) : ∃ pb po, A = some ⟨pb, po, none⟩ ∧ pb < w.heap.size ∧ w.cell? ⟨pb, po + k * 3, none⟩ = some (.int .i64 a) ∧ w.cell? ⟨pb, po + (k * 3 + 1), none⟩ = some (.int .i64 b) ∧ w.cell? ⟨pb, po + (k * 3 + 2), none⟩ = some (.int .i64 c) := by
  obtain ⟨b1, o1, e1, c1⟩ := h (k * 3 + 0) (.int .i64 a) (by rw [parsCells_at n k _ 0 hx (by omega)]; rfl)
  obtain ⟨b2, o2, e2, c2⟩ := h (k * 3 + 1) (.int .i64 b) (by rw [parsCells_at n k _ 1 hx (by omega)]; rfl)
  obtain ⟨b3, o3, e3, c3⟩ := h (k * 3 + 2) (.int .i64 c) (by rw [parsCells_at n k _ 2 hx (by omega)]; rfl)
  subst e1
  simp only [Option.some.injEq, Addr.mk.injEq] at e2 e3
  obtain ⟨rfl, rfl, _⟩ := e2
  obtain ⟨rfl, rfl, _⟩ := e3
  exact ⟨b1, o1, rfl, cell_lt c1, c1, c2, c3⟩
theorem HBx.below {W W' : World} {g : Nat} {cs : List Value} (h : HBx W g cs) (hb : Below W.heap.size W W') : HBx W' g cs := h.kept (Kept.of_below (p := W.heap.size) hb) (by have := h.lt; omega)
/-- What kind answers at a number. -/
abbrev KindAt (P : List PartA) (q : Nat) (j : Nat) (v : Int) : Prop := ∀ (va : Option Addr) (vc : Nat) (W : World) (i : Int), i = (j : Int) → AtCells W va (parsCells P) → Calls Try.prog 47 #[.slice va q vc, .int .i64 i] W fun e w' => e = .returned (.int .i64 v) ∧ W = w'
theorem kindAt {P : List PartA} {q : Nat} (hq : P.length = q) (hqb : q ≤ 1000) {j x : Nat} (h : kindN P j = x) : KindAt P q j x := fun va vc W i hi hat => by
  subst hi
  have := rkind_any P q hq va vc j W hqb hat
  rwa [h] at this
abbrev BlankAt (P : List PartA) (q : Nat) (j : Nat) (x : Nat) : Prop := ∀ (va : Option Addr) (vc : Nat) (W : World) (i : Int), i = (j : Int) → AtCells W va (parsCells P) → Calls Try.prog 50 #[.slice va q vc, .int .i64 i] W fun e w' => e = .returned (.int .i64 x) ∧ W = w'
theorem blankAt {P : List PartA} {q : Nat} (hq : P.length = q) (hqb : q ≤ 1000) {j x : Nat} (hj : j ≤ 2000) (h : blankN P j = x) : BlankAt P q j x := fun va vc W i hi hat => by
  subst hi
  have := rblank_any P q hq va vc j hj W hqb hat
  rwa [h] at this
/-- What names something outside, told by numbers of parts: the two, and the number of the part behind; none: it is wrong. -/
def firstR (l : List Int) (P : List PartA) : Option ((PartA × PartA) × Nat) :=
  if kindN P 3 = 3 ∧ kindN P 4 = 2 then
    if kindN P 5 ≠ 3 ∨ kindN P 6 ≠ 4 then none
    else if strOfNums (txt ((l.take (P.getD 4 zP).2.2).drop (P.getD 4 zP).2.1)) = kSYS then some ((zP, P.getD 6 zP), 7)
    else if strOfNums (txt ((l.take (P.getD 4 zP).2.2).drop (P.getD 4 zP).2.1)) = kPUB then
      if kindN P 7 ≠ 3 ∨ kindN P 8 ≠ 4 ∨ pubP l (P.getD 6 zP) = false then none else some ((P.getD 6 zP, P.getD 8 zP), 9)
    else none
  else some ((zP, zP), 3)
/-- The subset, if all that is left is right. -/
def tailR (P : List PartA) (k : Nat) : Option PartA :=
  if kindN P (blankN P k) = 5 then
    if kindN P (blankN P k + 1) = 6 then
      if kindN P (blankN P k + 2) = 5 ∧ kindN P (blankN P (blankN P k + 3)) = 7 then some (P.getD (blankN P k + 1) zP) else none
    else if kindN P (blankN P k + 1) = 5 ∧ kindN P (blankN P (blankN P k + 2)) = 7 then some zP else none
  else if kindN P (blankN P k) = 7 then some zP else none
def readR (l : List Int) (P : List PartA) : (PartA × PartA × PartA × PartA) × Bool :=
  if kindN P 0 = 1 ∧ kindN P 1 = 3 ∧ kindN P 2 = 2 then
    match firstR l P with
    | none => ((zP, zP, zP, zP), false)
    | some (uv, k) => match tailR P k with
      | none => ((zP, zP, zP, zP), false)
      | some y => ((P.getD 2 zP, uv.1, uv.2, y), true)
  else ((zP, zP, zP, zP), false)
/-- A Close is the last part. -/
def Last7 (P : List PartA) : Prop := ∀ k, kindN P k = 7 → k + 1 = P.length
theorem kindN_lt {P : List PartA} {k v : Nat} (h : kindN P k = v) (hv : v ≠ 0) : k < P.length := by
  by_cases hk : k < P.length
  · exact hk
  · rw [kindN_none (by omega)] at h; omega
theorem getD_some {P : List PartA} {k : Nat} (h : k < P.length) : P[k]? = some (P.getD k zP) := by
  rw [List.getD_eq_getElem?_getD, List.getElem?_eq_getElem h]; rfl

section
variable {w : World} {a : Option Addr} {n cap : Nat} {l : List Int} {P : List PartA} {f t : Int}

set_option maxRecDepth 20000 in
set_option maxHeartbeats 4000000 in
theorem rr_s0 (R : NRow w a n cap l) (hwf : ∀ j, -2147483648 ≤ l.getD j 0 ∧ l.getD j 0 ≤ 2147483647) (hn : n ≤ 900) (hP : inP dtP l f t = P) {x : Nat} (h0 : kindN P 0 = x) (hx : x ≠ 1) :
    Calls Try.prog 21 #[.slice a n cap, .int .i64 f, .int .i64 t] w (HeadD w ((zP, zP, zP, zP), false)) := by
  have HP := Lib.hid (fun hb => rparts_any (R.below (w' := w.alloc rheadZ) hb) hwf (by omega) f t)
  have HP := Lib.hid (HP.out (one_ok w rheadZ))
  rw [hP] at HP
  obtain ⟨q, hq'⟩ : ∃ q, q = P.length := ⟨_, rfl⟩
  have hq : P.length = q := hq'.symm
  have HQ := Lib.hid hq
  have hqb : q ≤ 1000 := by rw [hq', ← hP]; have := inP_length dtP_facts l f t; rw [R.len] at this; omega
  have HB0 := Lib.hid (HBx.new w [.int .i64 0, .int .i64 0, .int .i64 0, .int .i64 0, .int .i64 0, .int .i64 0, .int .i64 0, .int .i64 0, .int .i64 0, .int .i64 0, .int .i64 0, .int .i64 0, .bool false] 38)
  have HK0 := Lib.hid (fun (va : Option Addr) (vc : Nat) (W : World) (h : AtCells W va (parsCells P)) => show Calls Try.prog 47 #[.slice va q vc, .int .i64 0] W fun e w' => e = .returned (.int .i64 (x : Nat)) ∧ W = w' from by have := rkind_any P q hq va vc 0 W hqb h; rw [h0] at this; exact this)
  have tk0 : True := trivial
  have e0 : ((x : Int) != 1) = true := by simp; omega
  clear R hwf hP hq hq' h0
  go_enter Try.func21, Try.ntmps21
  go_wp2_with (first
    | (go_at_call 14; (with_reducible refine HP.out.mono ?_); rintro e w1 ⟨pv, rfl, hown, hb1⟩; obtain ⟨va, vc, rfl, hvc⟩ := owns_slice hown; have hs1 : w.heap.size + 1 ≤ w1.heap.size := (by have := hb1.size; simp at this; omega); have HAT := Lib.hid (fun (W : World) (hb : Below w1.heap.size w1 W) => (AtCells.of_owns hown).below hb); have HBW := Lib.hid ((one_ok w rheadZ).trans (hb1.mono (by simp))); have HB1 := Lib.hid (HB0.out.kept (Kept.of_below (p := w1.heap.size) hb1) (by omega)); clear hown hb1; rw [HQ.out]; have r0 := HB1.out.c 0 _ rfl; have r1 := HB1.out.c 1 _ rfl; have r2 := HB1.out.c 2 _ rfl; have r3 := HB1.out.c 3 _ rfl; have r4 := HB1.out.c 4 _ rfl; have r5 := HB1.out.c 5 _ rfl; have r6 := HB1.out.c 6 _ rfl; have r7 := HB1.out.c 7 _ rfl; have r8 := HB1.out.c 8 _ rfl; have r9 := HB1.out.c 9 _ rfl; have r10 := HB1.out.c 10 _ rfl; have r11 := HB1.out.c 11 _ rfl; have r12 := HB1.out.c 12 _ rfl; have rz := HB1.out.z; have hlt1 : w.heap.size < w1.heap.size := (by omega); have hne : ¬ w.heap.size = w1.heap.size := (by omega); have hne2 : ¬ w1.heap.size = w.heap.size := (by omega))
    | (go_at_call 47; (with_reducible refine (HK0.out _ _ _ (HAT.out _ (one_ok _ _))).mono ?_); rintro e w' ⟨rfl, rfl⟩))
  refine bodyPost_ret (v := headV zP zP zP zP false) ?_ rfl ⟨rfl, ?_⟩
  · simp [results, Try.results21, go_sem, r0, r1, r2, r3, r4, r5, r6, r7, r8, r9, r10, r11, r12, hne, hlt1]
  · (repeat (first | (with_reducible exact HBW.out) | (with_reducible refine bel_put ?_ (Nat.le_refl _) _) | (with_reducible refine Below.alloc ?_ (by simp; omega) _)))

set_option maxRecDepth 20000 in
set_option maxHeartbeats 4000000 in
theorem rr_s1 (R : NRow w a n cap l) (hwf : ∀ j, -2147483648 ≤ l.getD j 0 ∧ l.getD j 0 ≤ 2147483647) (hn : n ≤ 900) (hP : inP dtP l f t = P) (h0 : kindN P 0 = 1) {x : Nat} (h1 : kindN P 1 = x) (hx : x ≠ 3) :
    Calls Try.prog 21 #[.slice a n cap, .int .i64 f, .int .i64 t] w (HeadD w ((zP, zP, zP, zP), false)) := by
  have HP := Lib.hid (fun hb => rparts_any (R.below (w' := w.alloc rheadZ) hb) hwf (by omega) f t)
  have HP := Lib.hid (HP.out (one_ok w rheadZ))
  rw [hP] at HP
  obtain ⟨q, hq'⟩ : ∃ q, q = P.length := ⟨_, rfl⟩
  have hq : P.length = q := hq'.symm
  have HQ := Lib.hid hq
  have hqb : q ≤ 1000 := by rw [hq', ← hP]; have := inP_length dtP_facts l f t; rw [R.len] at this; omega
  have HB0 := Lib.hid (HBx.new w [.int .i64 0, .int .i64 0, .int .i64 0, .int .i64 0, .int .i64 0, .int .i64 0, .int .i64 0, .int .i64 0, .int .i64 0, .int .i64 0, .int .i64 0, .int .i64 0, .bool false] 38)
  have HK0 := Lib.hid (fun (va : Option Addr) (vc : Nat) (W : World) (h : AtCells W va (parsCells P)) => show Calls Try.prog 47 #[.slice va q vc, .int .i64 0] W fun e w' => e = .returned (.int .i64 1) ∧ W = w' from by have := rkind_any P q hq va vc 0 W hqb h; rw [h0] at this; exact this)
  have HK1 := Lib.hid (fun (va : Option Addr) (vc : Nat) (W : World) (h : AtCells W va (parsCells P)) => show Calls Try.prog 47 #[.slice va q vc, .int .i64 1] W fun e w' => e = .returned (.int .i64 (x : Nat)) ∧ W = w' from by have := rkind_any P q hq va vc 1 W hqb h; rw [h1] at this; exact this)
  have tk0 : True := trivial
  have e1 : ((x : Int) != 3) = true := by simp; omega
  clear R hwf hP hq hq' h0 h1
  go_enter Try.func21, Try.ntmps21
  go_wp2_with (first
    | (go_at_call 14; (with_reducible refine HP.out.mono ?_); rintro e w1 ⟨pv, rfl, hown, hb1⟩; obtain ⟨va, vc, rfl, hvc⟩ := owns_slice hown; have hs1 : w.heap.size + 1 ≤ w1.heap.size := (by have := hb1.size; simp at this; omega); have HAT := Lib.hid (fun (W : World) (hb : Below w1.heap.size w1 W) => (AtCells.of_owns hown).below hb); have HBW := Lib.hid ((one_ok w rheadZ).trans (hb1.mono (by simp))); have HB1 := Lib.hid (HB0.out.kept (Kept.of_below (p := w1.heap.size) hb1) (by omega)); clear hown hb1; rw [HQ.out]; have r0 := HB1.out.c 0 _ rfl; have r1 := HB1.out.c 1 _ rfl; have r2 := HB1.out.c 2 _ rfl; have r3 := HB1.out.c 3 _ rfl; have r4 := HB1.out.c 4 _ rfl; have r5 := HB1.out.c 5 _ rfl; have r6 := HB1.out.c 6 _ rfl; have r7 := HB1.out.c 7 _ rfl; have r8 := HB1.out.c 8 _ rfl; have r9 := HB1.out.c 9 _ rfl; have r10 := HB1.out.c 10 _ rfl; have r11 := HB1.out.c 11 _ rfl; have r12 := HB1.out.c 12 _ rfl; have rz := HB1.out.z; have hlt1 : w.heap.size < w1.heap.size := (by omega); have hne : ¬ w.heap.size = w1.heap.size := (by omega); have hne2 : ¬ w1.heap.size = w.heap.size := (by omega))
    | (go_at_call 47; (with_reducible refine (HK0.out _ _ _ (HAT.out _ (one_ok _ _))).mono ?_); rintro e w' ⟨rfl, rfl⟩)
    | (go_at_call 47; (with_reducible refine (HK1.out _ _ _ (HAT.out _ (one_ok _ _))).mono ?_); rintro e w' ⟨rfl, rfl⟩))
  refine bodyPost_ret (v := headV zP zP zP zP false) ?_ rfl ⟨rfl, ?_⟩
  · simp [results, Try.results21, go_sem, r0, r1, r2, r3, r4, r5, r6, r7, r8, r9, r10, r11, r12, hne, hlt1]
  · (repeat (first | (with_reducible exact HBW.out) | (with_reducible refine bel_put ?_ (Nat.le_refl _) _) | (with_reducible refine Below.alloc ?_ (by simp; omega) _)))

set_option maxRecDepth 20000 in
set_option maxHeartbeats 4000000 in
theorem rr_s2 (R : NRow w a n cap l) (hwf : ∀ j, -2147483648 ≤ l.getD j 0 ∧ l.getD j 0 ≤ 2147483647) (hn : n ≤ 900) (hP : inP dtP l f t = P) (h0 : kindN P 0 = 1) (h1 : kindN P 1 = 3) {x : Nat} (h2 : kindN P 2 = x) (hx : x ≠ 2) :
    Calls Try.prog 21 #[.slice a n cap, .int .i64 f, .int .i64 t] w (HeadD w ((zP, zP, zP, zP), false)) := by
  have HP := Lib.hid (fun hb => rparts_any (R.below (w' := w.alloc rheadZ) hb) hwf (by omega) f t)
  have HP := Lib.hid (HP.out (one_ok w rheadZ))
  rw [hP] at HP
  obtain ⟨q, hq'⟩ : ∃ q, q = P.length := ⟨_, rfl⟩
  have hq : P.length = q := hq'.symm
  have HQ := Lib.hid hq
  have hqb : q ≤ 1000 := by rw [hq', ← hP]; have := inP_length dtP_facts l f t; rw [R.len] at this; omega
  have HB0 := Lib.hid (HBx.new w [.int .i64 0, .int .i64 0, .int .i64 0, .int .i64 0, .int .i64 0, .int .i64 0, .int .i64 0, .int .i64 0, .int .i64 0, .int .i64 0, .int .i64 0, .int .i64 0, .bool false] 38)
  have HK0 := Lib.hid (fun (va : Option Addr) (vc : Nat) (W : World) (h : AtCells W va (parsCells P)) => show Calls Try.prog 47 #[.slice va q vc, .int .i64 0] W fun e w' => e = .returned (.int .i64 1) ∧ W = w' from by have := rkind_any P q hq va vc 0 W hqb h; rw [h0] at this; exact this)
  have HK1 := Lib.hid (fun (va : Option Addr) (vc : Nat) (W : World) (h : AtCells W va (parsCells P)) => show Calls Try.prog 47 #[.slice va q vc, .int .i64 1] W fun e w' => e = .returned (.int .i64 3) ∧ W = w' from by have := rkind_any P q hq va vc 1 W hqb h; rw [h1] at this; exact this)
  have HK2 := Lib.hid (fun (va : Option Addr) (vc : Nat) (W : World) (h : AtCells W va (parsCells P)) => show Calls Try.prog 47 #[.slice va q vc, .int .i64 2] W fun e w' => e = .returned (.int .i64 (x : Nat)) ∧ W = w' from by have := rkind_any P q hq va vc 2 W hqb h; rw [h2] at this; exact this)
  have tk0 : True := trivial
  have e2 : ((x : Int) != 2) = true := by simp; omega
  clear R hwf hP hq hq' h0 h1 h2
  go_enter Try.func21, Try.ntmps21
  go_wp2_with (first
    | (go_at_call 14; (with_reducible refine HP.out.mono ?_); rintro e w1 ⟨pv, rfl, hown, hb1⟩; obtain ⟨va, vc, rfl, hvc⟩ := owns_slice hown; have hs1 : w.heap.size + 1 ≤ w1.heap.size := (by have := hb1.size; simp at this; omega); have HAT := Lib.hid (fun (W : World) (hb : Below w1.heap.size w1 W) => (AtCells.of_owns hown).below hb); have HBW := Lib.hid ((one_ok w rheadZ).trans (hb1.mono (by simp))); have HB1 := Lib.hid (HB0.out.kept (Kept.of_below (p := w1.heap.size) hb1) (by omega)); clear hown hb1; rw [HQ.out]; have r0 := HB1.out.c 0 _ rfl; have r1 := HB1.out.c 1 _ rfl; have r2 := HB1.out.c 2 _ rfl; have r3 := HB1.out.c 3 _ rfl; have r4 := HB1.out.c 4 _ rfl; have r5 := HB1.out.c 5 _ rfl; have r6 := HB1.out.c 6 _ rfl; have r7 := HB1.out.c 7 _ rfl; have r8 := HB1.out.c 8 _ rfl; have r9 := HB1.out.c 9 _ rfl; have r10 := HB1.out.c 10 _ rfl; have r11 := HB1.out.c 11 _ rfl; have r12 := HB1.out.c 12 _ rfl; have rz := HB1.out.z; have hlt1 : w.heap.size < w1.heap.size := (by omega); have hne : ¬ w.heap.size = w1.heap.size := (by omega); have hne2 : ¬ w1.heap.size = w.heap.size := (by omega))
    | (go_at_call 47; (with_reducible refine (HK0.out _ _ _ (HAT.out _ (one_ok _ _))).mono ?_); rintro e w' ⟨rfl, rfl⟩)
    | (go_at_call 47; (with_reducible refine (HK1.out _ _ _ (HAT.out _ (one_ok _ _))).mono ?_); rintro e w' ⟨rfl, rfl⟩)
    | (go_at_call 47; (with_reducible refine (HK2.out _ _ _ (HAT.out _ (one_ok _ _))).mono ?_); rintro e w' ⟨rfl, rfl⟩))
  refine bodyPost_ret (v := headV zP zP zP zP false) ?_ rfl ⟨rfl, ?_⟩
  · simp [results, Try.results21, go_sem, r0, r1, r2, r3, r4, r5, r6, r7, r8, r9, r10, r11, r12, hne, hlt1]
  · (repeat (first | (with_reducible exact HBW.out) | (with_reducible refine bel_put ?_ (Nat.le_refl _) _) | (with_reducible refine Below.alloc ?_ (by simp; omega) _)))

end
end Go.Proofs.Ytpjcheelafegbaa
