/-
  TagParts: for every row of runes and any two places it returns true.
-/
import Derived.Test.YtohiokmkecdgfaaRefF
namespace Go.Proofs.Ytohiokmkecdgfaa
open Go.RowKit
set_option linter.unusedVariables false

set_option maxHeartbeats 1000000 in
theorem like_any (x0 x1 x2 : Nat) (w : World) :
    Calls Try.prog 14 #[parI x0 x1 x2, parI x0 x1 x2] w fun e w' => e = .returned (.bool true) ∧ Below w.heap.size w w' := by
  go_enter Try.func14, Try.ntmps14
  go_wp2
  go_ret
  exact ⟨rfl, two_ok _ _ _⟩

theorem wf_bounds {zs : List Int} (h : ∀ z ∈ zs, (Lit.int .i32 z).wf = true) (m : Nat) (j : Nat) : -2147483648 ≤ (zs.take m).getD j 0 ∧ (zs.take m).getD j 0 ≤ 2147483647 := by
  by_cases hj : j < (zs.take m).length
  · rw [List.getD_eq_getElem?_getD, List.getElem?_eq_getElem hj]
    have := h _ (List.mem_of_mem_take (List.getElem_mem hj))
    simp [Lit.wf, IntKind.min, IntKind.max, IntKind.signed, IntKind.bits] at this ⊢
    omega
  · rw [List.getD_eq_getElem?_getD, List.getElem?_eq_none (by omega)]
    decide

set_option maxRecDepth 20000 in
set_option maxHeartbeats 4000000 in
theorem tagParts_any (a : Option Addr) (len cap : Nat) (zs : List Int) (f t : Int) (w : World) (hlen : zs.length = len) (hc : len ≤ cap) (hm : cap ≤ maxLen) (hat : AtCells w a (zs.map (.int .i32))) (hwf : ∀ z ∈ zs, (Lit.int .i32 z).wf = true) :
    Calls Try.prog 4 #[.slice a len cap, .int .i64 f, .int .i64 t] w fun e w' => e = .returned (.bool true) ∧ Below w.heap.size w w' := by
  have HF := Lib.hid (fewT_any a len cap w hc hm)
  obtain ⟨n, hn⟩ : ∃ n, n = min len 120 := ⟨_, rfl⟩
  obtain ⟨l, hl⟩ : ∃ l, l = zs.take 120 := ⟨_, rfl⟩
  have hln : l.length = n := by rw [hl, hn, List.length_take, hlen]; omega
  have hnc : n ≤ cap := by omega
  have hn120 : n ≤ 120 := by omega
  have hatl : AtCells w a (l.map (.int .i32)) := by rw [hl, List.map_take]; exact hat.take 120
  rw [← hn] at HF
  have hwl : ∀ j, -2147483648 ≤ l.getD j 0 ∧ l.getD j 0 ≤ 2147483647 := fun j => by rw [hl]; exact wf_bounds hwf 120 j
  obtain ⟨P, hP⟩ : ∃ P, parts l f t = P := ⟨_, rfl⟩
  have HP := Lib.hid (fun (w' : World) (hb : Below w.heap.size w w') => hP ▸ parts_row a n cap l w' hln hnc hm (by omega) (hatl.below hb) f t)
  have HR := Lib.hid (fun (w' : World) (hb : Below w.heap.size w w') => hP ▸ refParts_row a n cap l w' hln hnc hm (by omega) (hatl.below hb) hwl f t)
  have hq : P.length ≤ 121 := by have := parts_len l f t; rw [hP, hln] at this; omega
  unfold maxLen at hm
  clear hat hlen hc hn hl hatl hln hP hwl hwf
  obtain ⟨q, hqe⟩ : ∃ q, q = P.length := ⟨_, rfl⟩
  have HQ := Lib.hid hqe
  rw [← hqe] at hq
  clear hqe
  go_enter Try.func4, Try.ntmps4
  go_wp2_with (first
    | (go_at_call 11; (with_reducible refine HF.out.mono ?_); rintro e w' ⟨rfl, rfl⟩)
    | (go_at_call 12; (with_reducible refine (HP.out _ (Below.refl _ _)).mono ?_); rintro e w1 ⟨v, rfl, hown, hb1⟩; obtain ⟨va, vc, rfl, hvc⟩ := owns_slice hown; rw [← HQ.out] at hown hvc ⊢)
    | (go_at_call 13; (with_reducible refine (HR.out _ hb1).mono ?_); rintro e w2 ⟨v2, rfl, hown2, hb2⟩; obtain ⟨va2, vc2, rfl, hvc2⟩ := owns_slice hown2; rw [← HQ.out] at hown2 hvc2 ⊢))
  have HA1 := Lib.hid ((AtCells.of_owns hown).below hb2)
  have HA2 := Lib.hid (AtCells.of_owns hown2)
  have hbw := Below.more hb1 hb2
  clear hown hown2 hb2
  go_loopw [9, 27] (fun _j i wr => ∃ k : Nat, i = .int .i64 k ∧ k ≤ q ∧ Below w2.heap.size w2 wr) (fun _ i _ => q - (intOf i).toNat)
  case atStart => exact ⟨0, rfl, Nat.zero_le _, Below.refl _ _⟩
  case round =>
    obtain ⟨k, rfl, hkq, hbl⟩ := hrel
    by_cases hlt : k < q
    · obtain ⟨x, hx⟩ : ∃ x, P[k]? = some x := ⟨_, List.getElem?_eq_getElem (by rw [← HQ.out]; exact hlt)⟩
      obtain ⟨vb, vo, rfl, c0, c1, c2⟩ := par_cells (HA1.out.below hbl) hx
      obtain ⟨rb, ro, rfl, d0, d1, d2⟩ := par_cells (HA2.out.below hbl) hx
      obtain ⟨x0, x1, x2⟩ := x
      simp only at c0 c1 c2 d0 d1 d2
      have l1 := cell_lt c0
      have l2 := cell_lt d0
      clear hx
      go_wp2
      go_region_held_law (fun W => W.cell? ⟨vb, vo + k * 3, none⟩ = some (.int .i64 x0) ∧ W.cell? ⟨vb, vo + k * 3 + 1, none⟩ = some (.int .i64 x1) ∧ W.cell? ⟨vb, vo + k * 3 + 2, none⟩ = some (.int .i64 x2) ∧ W.cell? ⟨rb, ro + k * 3, none⟩ = some (.int .i64 x0) ∧ W.cell? ⟨rb, ro + k * 3 + 1, none⟩ = some (.int .i64 x1) ∧ W.cell? ⟨rb, ro + k * 3 + 2, none⟩ = some (.int .i64 x2))
        ((refine ⟨?_, ?_, ?_, ?_, ?_, ?_⟩ <;> (repeat (first | (with_reducible assumption) | (with_reducible refine kp_drew ?_)))))
        (first
          | (go_at_call 14; (refine (like_any x0 x1 x2 _).mono ?_); rintro e w3 ⟨rfl, hb3⟩; obtain ⟨kc, _⟩ := bcell hb3; have E0 := (kc vb _ l1).trans c0; have E1 := (kc vb _ l1).trans c1; have E2 := (kc vb _ l1).trans c2; have E3 := (kc rb _ l2).trans d0; have E4 := (kc rb _ l2).trans d1; have E5 := (kc rb _ l2).trans d2; have HB3 := Lib.hid (hbl.trans ((((Below.refl wr.heap.size wr).drew).trans hb3).mono hbl.size)); clear hb3 kc))
      go_wp2
      go_roundw
      case rel => exact ⟨k + 1, by go_num, by omega, HB3.out⟩
      case measure => simp [intOf]; omega
    · obtain rfl : q = k := by omega
      clear hlt
      go_wp2_with (go_at_call 15; (with_reducible refine (awakeT_any _).mono ?_); rintro e w4 ⟨rfl, hb4⟩)
      go_ret
      exact ⟨rfl, Below.more (Below.more hbw hbl) hb4⟩

end Go.Proofs.Ytohiokmkecdgfaa
