/-
  Layer 14's law: the chapter's example.
-/
import Derived.Test.YtbljgoieieoamaaRfG
namespace Go.Proofs.Ytbljgoieieoamaa
open Go.RowKit
set_option linter.unusedVariables false

theorem ex_cells {w2 : World} {base : Nat} {a2 : Option Addr} {c2 : Nat} (own2 : w2.ownsRow base 51 5 (.slice a2 5 c2) 5 (pcsCells [(1, 0, 1, 0, []), (3, 1, 5, 0, [108, 116]), (2, 5, 10, 65, []), (4, 10, 11, 0, []), (1, 11, 12, 0, [])])) : ∃ b2 o2, a2 = some ⟨b2, o2, none⟩ ∧ w2.cell? ⟨b2, o2 + 5 + 4, none⟩ = some (.string ⟨#[108, 116]⟩) ∧ w2.cell? ⟨b2, o2 + 10 + 3, none⟩ = some (.int .i32 65) ∧ w2.cell? ⟨b2, o2 + 15, none⟩ = some (.int .i64 4) := by
  have hat := AtCells.of_owns own2
  obtain ⟨b2, o2, rfl, _, _, _, _, d1⟩ := pc_cells hat (k := 1) (x := (3, 1, 5, 0, [108, 116])) rfl
  obtain ⟨_, _, he, _, _, _, d2, _⟩ := pc_cells hat (k := 2) (x := (2, 5, 10, 65, [])) rfl
  cases he
  obtain ⟨_, _, he, d3, _, _, _, _⟩ := pc_cells hat (k := 3) (x := (4, 10, 11, 0, [])) rfl
  cases he
  refine ⟨b2, o2, rfl, ?_, d2, d3⟩
  have h := d1
  simp only [aw_lt] at h
  exact h

theorem ex_pieces {w : World} {a : Option Addr} {c : Nat} (R : NRw w a 12 c aw1L) : Calls Try.prog 21 #[.slice a 12 c] w fun e w' => ∃ b2 o2 c2, e = .returned (.slice (some ⟨b2, o2, none⟩) 5 c2) ∧ w'.cell? ⟨b2, o2 + 5 + 4, none⟩ = some (.string ⟨#[108, 116]⟩) ∧ w'.cell? ⟨b2, o2 + 10 + 3, none⟩ = some (.int .i32 65) ∧ w'.cell? ⟨b2, o2 + 15, none⟩ = some (.int .i64 4) ∧ Below w.heap.size w w' := by
  have h := pieces_any R (by omega)
  rw [aw1_pcs] at h
  refine h.mono ?_
  rintro e w2 ⟨v2, rfl, own2, hb2⟩
  obtain ⟨a2, c2, rfl, hc2⟩ := owns_slice own2
  obtain ⟨b2, o2, rfl, h1, h2, h3⟩ := ex_cells own2
  exact ⟨b2, o2, c2, rfl, h1, h2, h3, hb2⟩

set_option maxRecDepth 20000 in
set_option maxHeartbeats 400000 in
theorem awake14_any (w : World) : Says 23 #[] (.bool true) w w := by
  have HU1 := Lib.hid (fun w => runes14_any aw1 12 aw1L rfl (by omega) rfl (by decide +kernel) aw1_dec w)
  have HU2 := Lib.hid (fun w => runes14_any aw2 3 aw2L rfl (by omega) rfl (by decide +kernel) aw2_dec w)
  have tok1 : True := trivial
  go_enter Try.func23, Try.ntmps23
  go_wp2_with (first
    | (go_at_call 42; (have _t := tok1); (with_reducible refine (HU1.out _).mono ?_); clear tok1 _t; rintro e w1 ⟨v1, rfl, own1, hb1⟩; obtain ⟨a1, c1, rfl, R1⟩ := nrw_own own1 aw1_wf; have HP1 := Lib.hid (ex_pieces R1); have HB1 := Lib.hid hb1; clear own1 hb1)
    | (go_at_call 21; (with_reducible refine HP1.out.mono ?_); rintro e w2 ⟨b2, o2, c2, rfl, d1, d2, d3, hb2⟩; have HB2 := Lib.hid (Below.more HB1.out hb2); clear hb2)
    | (go_at_call 42; (with_reducible refine (HU2.out _).mono ?_); rintro e w3 ⟨v3, rfl, own3, hb3⟩; obtain ⟨a3, c3, rfl, R3⟩ := nrw_own own3 aw2_wf; have hp3 := put_any R3 (by omega) 0; (rw [aw2_put] at hp3); have HP3 := Lib.hid hp3; clear hp3; have HB3 := Lib.hid (Below.more HB2.out hb3); clear own3 hb3)
    | (go_at_call 28; (with_reducible refine HP3.out.mono ?_); rintro e w4 ⟨v4, rfl, own4, hb4⟩; obtain ⟨a4, c4, rfl, hc4⟩ := owns_slice own4; have r4 := run_runes (P := Try.prog) w4 43 21 9 Try.underlying43 Try.underlying21 Try.underlying9 a4 6 c4 [97, 38, 108, 116, 59, 98] rfl (AtCells.of_owns own4) (by omega); (rw [aw2_str] at r4); have HB4 := Lib.hid (Below.more HB3.out hb4); clear own4 hb4))
  go_ret
  exact ⟨by first | rfl | simp, HB4.out⟩

end Go.Proofs.Ytbljgoieieoamaa
