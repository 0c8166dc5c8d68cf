/-
  Contract of the reference's layer 8: which attribute begins with a part, by its number.
-/
import Derived.Test.YtblebkpnjeghoaaRefG
import Derived.Test.YtblebkpnjeghoaaTagF
import Derived.Test.YtblebkpnjeghoaaTagG
namespace Go.Proofs.Ytblebkpnjeghoaa
open Go.RowKit
set_option linter.unusedVariables false

theorem Try.infoRAttr : (Try.prog.info? 87).map (fun i => (i.zero, i.size, i.bytes)) = some (some (attI 0 0 0 0 0 0 0 0 0), 9, 72) := by kernel_rfl

abbrev rattB : Obj := .cells #[.int .i64 0, .int .i64 0, .int .i64 0, .int .i64 0, .int .i64 0, .int .i64 0, .int .i64 0, .int .i64 0, .int .i64 0] 87

set_option maxRecDepth 20000 in
set_option maxHeartbeats 2000000 in
theorem rattr_no {w : World} {A : Option Addr} {q c : Nat} {P : List PartA} (R : PRow w A q c P) (k : Nat) (hk : k ≤ 900) (h : attrR P k = none) :
    Calls Try.prog 81 #[.slice A q c, .int .i64 k] w fun e w' => e = .returned (.tuple #[attI 0 0 0 0 0 0 0 0 0, .int .i64 (-1)]) ∧ Below w.heap.size w w' := by
  obtain ⟨k0, hk0⟩ : ∃ x, kindP P k = x := ⟨_, rfl⟩
  obtain ⟨k1, hk1⟩ : ∃ x, kindP P (k + 1) = x := ⟨_, rfl⟩
  obtain ⟨eq, heq⟩ : ∃ x, blankP P (k + 2) = x := ⟨_, rfl⟩
  obtain ⟨k2, hk2⟩ : ∃ x, kindP P eq = x := ⟨_, rfl⟩
  obtain ⟨v, hv⟩ : ∃ x, blankP P (eq + 1) = x := ⟨_, rfl⟩
  obtain ⟨k3, hk3⟩ : ∃ x, kindP P v = x := ⟨_, rfl⟩
  have heb : eq ≤ k + 3 := by rw [← heq, blankP]; split <;> omega
  have hvb : v ≤ eq + 2 := by rw [← hv, blankP]; split <;> omega
  have hcs : k0 ≠ 3 ∨ (k0 = 3 ∧ k1 ≠ 2) ∨ (k0 = 3 ∧ k1 = 2 ∧ k2 ≠ 4) ∨ (k0 = 3 ∧ k1 = 2 ∧ k2 = 4 ∧ k3 ≠ 5) := by
    unfold attrR at h
    rw [hk0, hk1, heq, hk2, hv, hk3] at h
    by_cases a0 : k0 = 3
    · by_cases a1 : k1 = 2
      · rw [if_pos ⟨a0, a1⟩] at h
        by_cases a2 : k2 = 4
        · rw [if_pos a2] at h
          by_cases a3 : k3 = 5
          · rw [if_pos a3] at h; cases h
          · exact Or.inr (Or.inr (Or.inr ⟨a0, a1, a2, a3⟩))
        · exact Or.inr (Or.inr (Or.inl ⟨a0, a1, a2⟩))
      · exact Or.inr (Or.inl ⟨a0, a1⟩)
    · exact Or.inl a0
  have H0 := Lib.hid (fun (w' : World) (R' : PRow w' A q c P) => kind_any R' k (by omega) hk0)
  have H1 := Lib.hid (fun (w' : World) (R' : PRow w' A q c P) => kind_any R' (k + 1) (by omega) hk1)
  have H2 := Lib.hid (fun (w' : World) (R' : PRow w' A q c P) => blank_any R' (k + 2) (by omega) heq)
  have H3 := Lib.hid (fun (w' : World) (R' : PRow w' A q c P) => kind_any R' eq (by omega) hk2)
  have H4 := Lib.hid (fun (w' : World) (R' : PRow w' A q c P) => blank_any R' (eq + 1) (by omega) hv)
  have H5 := Lib.hid (fun (w' : World) (R' : PRow w' A q c P) => kind_any R' v (by omega) hk3)
  have HR := Lib.hid R
  clear R h hk0 hk1 heq hk2 hv hk3
  have R0 : PRow (w.alloc rattB) A q c P := HR.out.below (one_ok w rattB)
  have tok1 : True := trivial
  clear HR
  rcases hcs with a | ⟨rfl, a⟩ | ⟨rfl, rfl, a⟩ | ⟨rfl, rfl, rfl, a⟩
  all_goals
   go_enter Try.func81, Try.ntmps81
   go_wp2_with (first
    | (go_at_call 80; (have _t := tok1); (refine (H0.out _ R0).mono ?_); rintro e w1 ⟨rfl, rfl⟩; clear tok1 _t; have tok2 : True := trivial)
    | (go_at_call 80; (have _t := tok2); (refine (H1.out _ R0).mono ?_); rintro e w1 ⟨rfl, rfl⟩; clear tok2 _t; have tok3 : True := trivial)
    | (go_at_call 82; (have _t := tok3); (refine (H2.out _ R0).mono ?_); rintro e w1 ⟨rfl, rfl⟩; clear tok3 _t; have tok4 : True := trivial)
    | (go_at_call 80; (have _t := tok4); (refine (H3.out _ R0).mono ?_); rintro e w1 ⟨rfl, rfl⟩; clear tok4 _t; have tok5 : True := trivial)
    | (go_at_call 82; (have _t := tok5); (refine (H4.out _ R0).mono ?_); rintro e w1 ⟨rfl, rfl⟩; clear tok5 _t; have tok6 : True := trivial)
    | (go_at_call 80; (have _t := tok6); (refine (H5.out _ R0).mono ?_); rintro e w1 ⟨rfl, rfl⟩; clear tok6 _t; have tok7 : True := trivial))
   refine bodyPost_ret (v := .tuple #[attI 0 0 0 0 0 0 0 0 0, .int .i64 (-1)]) ?_ rfl ⟨rfl, one_ok w rattB⟩
   simp [results, Try.results81, go_sem]

set_option maxRecDepth 20000 in
set_option maxHeartbeats 4000000 in
theorem rattr_yes {w : World} {A : Option Addr} {q c : Nat} {P : List PartA} (R : PRow w A q c P) (k : Nat) (hk : k ≤ 900) {eq v : Nat}
    (hk0 : kindP P k = 3) (hk1 : kindP P (k + 1) = 2) (heq : blankP P (k + 2) = eq) (hk2 : kindP P eq = 4) (hv : blankP P (eq + 1) = v) (hk3 : kindP P v = 5)
    {x y z : PartA} (hx : P[k]? = some x) (hy : P[k + 1]? = some y) (hz : P[v]? = some z) :
    Calls Try.prog 81 #[.slice A q c, .int .i64 k] w fun e w' => e = .returned (.tuple #[attV (y, z, (7, x.2.1, z.2.2)), .int .i64 (v + 1 : Nat)]) ∧ Below w.heap.size w w' := by
  have heb : eq ≤ k + 3 := by rw [← heq, blankP]; split <;> omega
  have hvb : v ≤ eq + 2 := by rw [← hv, blankP]; split <;> omega
  have H0 := Lib.hid (fun (w' : World) (R' : PRow w' A q c P) => kind_any R' k (by omega) hk0)
  have H1 := Lib.hid (fun (w' : World) (R' : PRow w' A q c P) => kind_any R' (k + 1) (by omega) hk1)
  have H2 := Lib.hid (fun (w' : World) (R' : PRow w' A q c P) => blank_any R' (k + 2) (by omega) heq)
  have H3 := Lib.hid (fun (w' : World) (R' : PRow w' A q c P) => kind_any R' eq (by omega) hk2)
  have H4 := Lib.hid (fun (w' : World) (R' : PRow w' A q c P) => blank_any R' (eq + 1) (by omega) hv)
  have H5 := Lib.hid (fun (w' : World) (R' : PRow w' A q c P) => kind_any R' v (by omega) hk3)
  have hm := R.max
  have hc := R.le
  have hkq : v < q ∧ k + 1 < q := by
    have h1 := (List.getElem?_eq_some_iff.mp hz).1
    have h2 := (List.getElem?_eq_some_iff.mp hy).1
    have := R.len
    omega
  unfold maxLen at hm
  have R0 : PRow (w.alloc rattB) A q c P := R.below (one_ok w rattB)
  obtain ⟨b, off, rfl, x0, x1, x2⟩ := par_cells R.cells hx
  obtain ⟨b', off', he, y0, y1, y2⟩ := par_cells R.cells hy
  simp only [Option.some.injEq, Addr.mk.injEq] at he
  obtain ⟨rfl, rfl, _⟩ := he
  obtain ⟨b', off', he, z0, z1, z2⟩ := par_cells R.cells hz
  simp only [Option.some.injEq, Addr.mk.injEq] at he
  obtain ⟨rfl, rfl, _⟩ := he
  have hbw : b < w.heap.size := cell_lt x0
  have i1 : (k : Int) + 1 < q := by omega
  have i2 : (v : Int) < q := by omega
  have i3 : (k : Int) < q := by omega
  have i4 : ((k : Int) + 1).toNat = k + 1 := by omega
  have ek : IntKind.i64.wrap ((k : Int) + 1) = (k : Int) + 1 := IntWalk.i64_in _ (by omega)
  have ev : IntKind.i64.wrap ((v : Int) + 1) = (v : Int) + 1 := IntWalk.i64_in _ (by omega)
  have i5 : 0 ≤ (k : Int) + 1 := by omega
  have hkq1 := hkq.1
  have hkq2 := hkq.2
  have tok1 : True := trivial
  clear R hk0 hk1 heq hk2 hv hk3 hx hy hz
  go_enter Try.func81, Try.ntmps81
  go_wp2_with (first
    | (go_at_call 80; (have _t := tok1); (refine (H0.out _ R0).mono ?_); rintro e w1 ⟨rfl, rfl⟩; clear tok1 _t; have tok2 : True := trivial)
    | (go_at_call 80; (have _t := tok2); (refine (H1.out _ R0).mono ?_); rintro e w1 ⟨rfl, rfl⟩; clear tok2 _t; have tok3 : True := trivial)
    | (go_at_call 82; (have _t := tok3); (refine (H2.out _ R0).mono ?_); rintro e w1 ⟨rfl, rfl⟩; clear tok3 _t; have tok4 : True := trivial)
    | (go_at_call 80; (have _t := tok4); (refine (H3.out _ R0).mono ?_); rintro e w1 ⟨rfl, rfl⟩; clear tok4 _t; have tok5 : True := trivial)
    | (go_at_call 82; (have _t := tok5); (refine (H4.out _ R0).mono ?_); rintro e w1 ⟨rfl, rfl⟩; clear tok5 _t; have tok6 : True := trivial)
    | (go_at_call 80; (have _t := tok6); (refine (H5.out _ R0).mono ?_); rintro e w1 ⟨rfl, rfl⟩; clear tok6 _t; have tok7 : True := trivial))
  go_region_held_law (fun W => W.cell? ⟨b, off + (k + 1) * 3, none⟩ = some (.int .i64 (y.1 : Nat)) ∧ W.cell? ⟨b, off + (k + 1) * 3 + 1, none⟩ = some (.int .i64 (y.2.1 : Nat)) ∧ W.cell? ⟨b, off + (k + 1) * 3 + 2, none⟩ = some (.int .i64 (y.2.2 : Nat)) ∧ W.cell? ⟨b, off + v * 3, none⟩ = some (.int .i64 (z.1 : Nat)) ∧ W.cell? ⟨b, off + v * 3 + 1, none⟩ = some (.int .i64 (z.2.1 : Nat)) ∧ W.cell? ⟨b, off + v * 3 + 2, none⟩ = some (.int .i64 (z.2.2 : Nat)) ∧ W.cell? ⟨b, off + k * 3 + 1, none⟩ = some (.int .i64 (x.2.1 : Nat)))
    ((refine ⟨?_, ?_, ?_, ?_, ?_, ?_, ?_⟩ <;> (repeat (first | (with_reducible assumption) | (with_reducible refine kp_alloc _ ?_) | (with_reducible refine kp_drew ?_) | (with_reducible refine kp_set _ (ne_blk (by omega)) ?_)))))
    (fail)
  go_wp2
  refine bodyPost_ret (v := .tuple #[attV (y, z, (7, x.2.1, z.2.2)), .int .i64 ((v : Int) + 1)]) ?_ rfl ⟨?_, (one_ok w _).drew⟩
  · simp [results, Try.results81, go_sem, attV, attCells, parCells]
  · rw [show ((v + 1 : Nat) : Int) = (v : Int) + 1 by omega]

end Go.Proofs.Ytblebkpnjeghoaa
