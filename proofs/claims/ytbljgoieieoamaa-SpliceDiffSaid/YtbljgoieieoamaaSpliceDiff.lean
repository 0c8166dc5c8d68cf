/-
  SpliceDiff: for every two rows of bytes it returns true.
-/
import Derived.Test.YtbljgoieieoamaaSqU
namespace Go.Proofs.Ytbljgoieieoamaa
open Go.Shelf Go.RowKit Go.Lib Go.Sort
set_option linter.unusedVariables false

theorem row80 {w : World} {a : Option Addr} {len cap : Nat} {zs : List Int} (w0 : Arg .u8 w a len cap zs) : RowB w a (min len 80) cap (zs.take 80) :=
  ⟨w0.nil, by rw [List.length_take, w0.length]; omega, by omega, by have := w0.le; omega, w0.max, by rw [List.map_take]; exact w0.cells.take 80⟩

theorem kp_drewN {W : World} {a : Addr} {v : Value} (n : Nat) (h : W.cell? a = some v) : (W.drewN n).cell? a = some v := h

set_option maxRecDepth 20000 in
set_option maxHeartbeats 4000000 in
theorem spliceDiff_any (a : Option Addr) (len cap : Nat) (zs : List Int) (a' : Option Addr) (len' cap' : Nat) (zs' : List Int) (w : World) (w0 : Arg .u8 w a len cap zs) (w1 : Arg .u8 w a' len' cap' zs') :
    Calls Try.prog 4 #[.slice a len cap, .slice a' len' cap'] w fun e w' => e = .returned (.bool true) ∧ Below w.heap.size w w' := by
  have RA := row80 w0
  have RB := row80 w1
  obtain ⟨A, hA⟩ : ∃ A, A = zs.take 80 := ⟨_, rfl⟩
  obtain ⟨B, hB⟩ : ∃ B, B = zs'.take 80 := ⟨_, rfl⟩
  obtain ⟨m, hm⟩ : ∃ m, m = min len 80 := ⟨_, rfl⟩
  obtain ⟨m', hm'⟩ : ∃ m', m' = min len' 80 := ⟨_, rfl⟩
  have HS := Lib.hid (fun (W : World) => hm ▸ short_any a len cap W w0.le w0.max)
  have HS' := Lib.hid (fun (W : World) => hm' ▸ short_any a' len' cap' W w1.le w1.max)
  rw [← hA, ← hm] at RA
  rw [← hB, ← hm'] at RB
  have hm80 : m ≤ 80 := by omega
  have hm80' : m' ≤ 80 := by omega
  have HA := Lib.hid RA
  have HB := Lib.hid RB
  obtain ⟨SA, hSA⟩ : ∃ S, S = strOfNums A := ⟨_, rfl⟩
  obtain ⟨SB, hSB⟩ : ∃ S, S = strOfNums B := ⟨_, rfl⟩
  have HST := Lib.hid (fun (W : World) (hb : Below w.heap.size w W) => show Sem.run Try.prog (convert 22 9 (.slice a m cap)) W = .ok (.string SA) W ∧ Sem.run Try.prog (convert 22 9 (.slice a' m' cap')) W = .ok (.string SB) W from by
    rw [hSA, hSB]
    exact ⟨run_strB W 22 5 9 Try.underlying22 Try.underlying5 Try.underlying9 a m cap A RA.length (RA.at_.below hb), run_strB W 22 5 9 Try.underlying22 Try.underlying5 Try.underlying9 a' m' cap' B RB.length (RB.at_.below hb)⟩)
  cases hv : ((strOfNums A).toList == (strOfNums B).toList) with
  | true =>
    have HD := Lib.hid (difC_no RA RB hv)
    rw [← hSA, ← hSB] at hv
    clear hA hB hm hm' w0 w1 RA RB hSA hSB
    go_enter Try.func4, Try.ntmps4
    go_wp2_with (first
      | (go_at_call 12; (with_reducible refine (HS.out _).mono ?_); rintro e w' ⟨rfl, rfl⟩)
      | (go_at_call 12; (with_reducible refine (HS'.out _).mono ?_); rintro e w' ⟨rfl, rfl⟩)
      | (go_at_call 19; (with_reducible refine HD.out.mono ?_); rintro e w3 ⟨rfl, hb3⟩; have hb4 := hb3.trans (one_ok w3 (.cells #[.int .i64 0, .int .i64 0, .slice none 0 0] 39) |>.mono hb3.size); obtain ⟨r1, r2⟩ := HST.out _ hb4; have HB4 := Lib.hid hb4; clear hb3 hb4)
      | (go_at_call 18; (with_reducible refine (awake12_any _).mono ?_); rintro e w5 ⟨rfl, hb5⟩; have HB5 := Lib.hid (Below.more HB4.out hb5); clear hb5))
    go_ret
    exact ⟨rfl, HB5.out⟩
  | false =>
    have HD := Lib.hid (difC_two RA RB hv)
    have HSO := Lib.hid (fun f t k (h : DifR A B f t (f + k)) => dif_some h hv)
    have hbl : B.length ≤ 1000 := by rw [RB.length]; omega
    have HBL := Lib.hid (And.intro hbl (And.intro RA.length RB.length))
    rw [← hSA, ← hSB] at hv
    have HSB := Lib.hid hSB
    clear hA hB hm hm' w0 w1 RA RB hSA hSB hbl
    go_enter Try.func4, Try.ntmps4
    go_wp2_with (first
      | (go_at_call 12; (with_reducible refine (HS.out _).mono ?_); rintro e w' ⟨rfl, rfl⟩)
      | (go_at_call 12; (with_reducible refine (HS'.out _).mono ?_); rintro e w' ⟨rfl, rfl⟩)
      | (go_at_call 19; (with_reducible refine HD.out.mono ?_); rintro e w3 ⟨f, k, t, a6, c6, hD, rfl, hk6, own6, hb3⟩; have h1 := hD.ft; have h2 := hD.tA; have h3 := hD.eB; (rw [HBL.out.2.1] at h2); (rw [HBL.out.2.2] at h3); have hsub : IntKind.i64.wrap ((t : Int) - (f : Int)) = (t : Int) - (f : Int) := (by rw [IntKind.wrap_i64]; omega); have HAP := Lib.hid (apply_lit ((HA.out.below hb3).below (one_ok w3 (.cells #[.int .i64 f, .int .i64 t, .slice a6 k c6] 39))) hD HBL.out.1 hk6 (owns_below own6 (one_ok w3 _))); have HDD := Lib.hid (And.intro hD (And.intro own6 hb3)); clear hD own6 hb3)
      | (go_at_call 14; (with_reducible refine (HAP.out _ (by simp)).mono ?_); rintro e w5 ⟨v9, v10, rfl, o9, hb5⟩; obtain ⟨e9, f9, rfl, hf9⟩ := owns_slice o9; have HB5 := Lib.hid (HDD.out.2.2.trans (((two_ok w3 _ _).trans (hb5.mono (by simp; omega))).mono HDD.out.2.2.size)); obtain ⟨r1, r2⟩ := HST.out _ HB5.out; have r3 := run_strB (P := Try.prog) w5 22 5 9 Try.underlying22 Try.underlying5 Try.underlying9 e9 B.length f9 B rfl (AtCells.of_owns o9); (rw [← HSB.out] at r3); have y0 : w5.cell? ⟨w3.heap.size, 0, none⟩ = some (.int .i64 f) := ((hb5.cell (p := ⟨w3.heap.size, 0, none⟩) (by simp; omega)).trans (kp_alloc _ (box3 w3 (.int .i64 f) (.int .i64 t) (.slice a6 k c6) 39).1)); have y1 : w5.cell? ⟨w3.heap.size, 1, none⟩ = some (.int .i64 t) := ((hb5.cell (p := ⟨w3.heap.size, 1, none⟩) (by simp; omega)).trans (kp_alloc _ (box3 w3 (.int .i64 f) (.int .i64 t) (.slice a6 k c6) 39).2.1)); have y2 : w5.cell? ⟨w3.heap.size, 2, none⟩ = some (.slice a6 k c6) := ((hb5.cell (p := ⟨w3.heap.size, 2, none⟩) (by simp; omega)).trans (kp_alloc _ (box3 w3 (.int .i64 f) (.int .i64 t) (.slice a6 k c6) 39).2.2)); have HB35 := Lib.hid ((two_ok w3 _ _).trans (hb5.mono (by simp; omega))); clear o9 hb5 hf9))
    have hso := HSO.out _ _ _ HDD.out.1
    by_cases hfk : f < t ∧ 0 < k
    · obtain ⟨tp, rfl⟩ : ∃ n, t = n + 1 := ⟨t - 1, by omega⟩
      obtain ⟨kp, rfl⟩ : ∃ n, k = n + 1 := ⟨k - 1, by omega⟩
      obtain ⟨b1, o1, rfl, c1⟩ := (HA.out.at_.below HB5.out).int (k := f) (by rw [HBL.out.2.1]; omega)
      obtain ⟨_, _, hq1, c2⟩ := (HA.out.at_.below HB5.out).int (k := tp) (by rw [HBL.out.2.1]; omega)
      cases hq1
      have hDl : ((B.take (f + (kp + 1))).drop f).length = kp + 1 := by rw [List.length_drop, List.length_take, HBL.out.2.2]; omega
      have hat := (AtCells.of_owns HDD.out.2.1).below HB35.out
      obtain ⟨b2, o2, rfl, c3⟩ := hat.int (k := 0) (by rw [hDl]; omega)
      obtain ⟨_, _, hq1, c4⟩ := hat.int (k := kp) (by rw [hDl]; omega)
      cases hq1
      have g1 : ((B.take (f + (kp + 1))).drop f).getD 0 0 = B.getD f 0 := by
        rw [List.getD_eq_getElem?_getD, List.getD_eq_getElem?_getD, List.getElem?_drop, List.getElem?_take_of_lt (by omega), Nat.add_zero]
      have g2 : ((B.take (f + (kp + 1))).drop f).getD kp 0 = B.getD (f + kp) 0 := by
        rw [List.getD_eq_getElem?_getD, List.getD_eq_getElem?_getD, List.getElem?_drop, List.getElem?_take_of_lt (by omega)]
      have n1 := HDD.out.1.first (by omega) (by omega)
      have n2 := HDD.out.1.last (by omega) (by omega)
      have la : ∀ j, j < m → A[j]? = some (A.getD j 0) := fun j hj => by rw [List.getD_eq_getElem?_getD, List.getElem?_eq_getElem (by rw [HBL.out.2.1]; exact hj)]; rfl
      have lb : ∀ j, j < m' → B[j]? = some (B.getD j 0) := fun j hj => by rw [List.getD_eq_getElem?_getD, List.getElem?_eq_getElem (by rw [HBL.out.2.2]; exact hj)]; rfl
      rw [la _ (by omega), lb _ (by omega)] at n1
      rw [show tp + 1 - 1 = tp by omega, show f + (kp + 1) - 1 = f + kp by omega, la _ (by omega), lb _ (by omega)] at n2
      rw [g1] at c3
      rw [g2] at c4
      obtain ⟨x1, hx1⟩ : ∃ x, x = A.getD f 0 := ⟨_, rfl⟩
      obtain ⟨x2, hx2⟩ : ∃ x, x = A.getD tp 0 := ⟨_, rfl⟩
      obtain ⟨x3, hx3⟩ : ∃ x, x = B.getD f 0 := ⟨_, rfl⟩
      obtain ⟨x4, hx4⟩ : ∃ x, x = B.getD (f + kp) 0 := ⟨_, rfl⟩
      rw [← hx1] at c1 n1
      rw [← hx2] at c2 n2
      rw [← hx3] at c3 n1
      rw [← hx4] at c4 n2
      have e1 : (x1 == x3) = false := by simp at n1 ⊢; exact n1
      have e2 : (x2 == x4) = false := by simp at n2 ⊢; exact n2
      have i1 : (f : Int) < (m : Int) := by omega
      have i2 : (tp : Int) < (m : Int) := by omega
      have i3 : (0 : Int) < (tp : Int) + 1 - (f : Int) := by omega
      have i4 : (0 : Int) < (kp : Int) + 1 := by omega
      have j1 : (f : Int) < (tp : Int) + 1 := by omega
      have j2 : (f : Int) ≤ (tp : Int) := by omega
      have j3 : f ≤ tp := by omega
      have j4 : f < tp + 1 := by omega
      have i5 : f < m := by omega
      have i6 : tp < m := by omega
      have i7 : IntKind.i64.wrap (tp : Int) = (tp : Int) := by rw [IntKind.wrap_i64]; omega
      have i8 : IntKind.i64.wrap (kp : Int) = (kp : Int) := by rw [IntKind.wrap_i64]; omega
      rw [Nat.add_zero] at c3
      have y1' : w5.cell? ⟨w3.heap.size, 1, none⟩ = some (.int .i64 ((tp : Int) + 1)) := y1
      clear y1
      go_wp2
      clear hso hfk hat hDl g1 g2 n1 n2 la lb hx1 hx2 hx3 hx4 r1 r2 r3
      go_region_held_law (fun W => W.cell? ⟨w3.heap.size, 0, none⟩ = some (.int .i64 f) ∧ W.cell? ⟨w3.heap.size, 1, none⟩ = some (.int .i64 ((tp : Int) + 1)) ∧ W.cell? ⟨w3.heap.size, 2, none⟩ = some (.slice (some ⟨b2, o2, none⟩) (kp + 1) c6) ∧ W.cell? ⟨b1, o1 + f, none⟩ = some (.int .u8 x1) ∧ W.cell? ⟨b1, o1 + tp, none⟩ = some (.int .u8 x2) ∧ W.cell? ⟨b2, o2, none⟩ = some (.int .u8 x3) ∧ W.cell? ⟨b2, o2 + kp, none⟩ = some (.int .u8 x4))
        ((refine ⟨?_, ?_, ?_, ?_, ?_, ?_, ?_⟩ <;> (repeat (first | (with_reducible assumption) | (with_reducible refine kp_drew ?_)))))
        (fail)
      have z0 := kp_drew y0
      have z1 := kp_drew y1'
      have z2 := kp_drew y2
      clear y0 y1' y2 c1 c2 c3 c4 e1 e2
      go_wp2_with (go_at_call 18; (with_reducible refine (awake12_any _).mono ?_); rintro e w6 ⟨rfl, hb6⟩; have HB6 := Lib.hid (Below.more HB5.out.drew hb6); clear hb6)
      go_ret
      exact ⟨rfl, HB6.out⟩
    · have hcs : (f < t ∧ k = 0) ∨ (t = f ∧ 0 < k) := by omega
      rcases hcs with ⟨h5, rfl⟩ | ⟨rfl, h5⟩
      · have i3 : (f : Int) < (t : Int) := by omega
        have i4 : (0 : Int) < (t : Int) - (f : Int) := by omega
        clear hfk hso r1 r2 r3
        go_quiet (fail)
        have z0 := kp_drewN nq y0
        have z1 := kp_drewN nq y1
        have z2 := kp_drewN nq y2
        clear y0 y1 y2
        go_wp2_with (go_at_call 18; (with_reducible refine (awake12_any _).mono ?_); rintro e w6 ⟨rfl, hb6⟩; have HB6 := Lib.hid (Below.more (below_drewN HB5.out nq) hb6); clear hb6)
        go_ret
        exact ⟨rfl, HB6.out⟩
      · have i3 : ¬ (t : Int) < (t : Int) := by omega
        have i4 : (0 : Int) < (k : Int) := by omega
        clear hfk hso r1 r2 r3 hsub
        go_wp2
        go_quiet (fail)
        have z0 := kp_drewN nq y0
        have z1 := kp_drewN nq y1
        have z2 := kp_drewN nq y2
        clear y0 y1 y2
        go_wp2_with (go_at_call 18; (with_reducible refine (awake12_any _).mono ?_); rintro e w6 ⟨rfl, hb6⟩; have HB6 := Lib.hid (Below.more (below_drewN HB5.out nq) hb6); clear hb6)
        go_ret
        exact ⟨rfl, HB6.out⟩

end Go.Proofs.Ytbljgoieieoamaa
