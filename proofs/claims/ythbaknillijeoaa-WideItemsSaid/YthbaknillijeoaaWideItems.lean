/-
  WideItems: for every list of bytes, in either order, it returns true.
-/
import Derived.Test.YthbaknillijeoaaWideC
import Derived.Test.YthbaknillijeoaaWideD
import Derived.Deep.QuietTactic
import Derived.BigQuiet
namespace Go.Proofs.Ythbaknillijeoaa
open Go.RowKit

set_option maxHeartbeats 4000000 in
theorem wideItems_walk (big : Bool) (a : Option Addr) (n cap : Nat) (zs : List Int) (w : World) (hn : zs.length = n) (hc : n ≤ cap) (hm : cap ≤ maxLen) (hat : AtCells w a (zs.map (.int .u8))) (hby : U16.Byte zs) :
    Calls Try.prog 5 #[.slice a n cap, .bool big] w fun e w' => e = .returned (.bool true) ∧ Below w.heap.size w w' := by
  obtain ⟨m, hmm⟩ : ∃ m, m = min n 200 := ⟨_, rfl⟩
  have hm200 : m ≤ 200 := by omega
  have hat' := hat.take m
  rw [← List.map_take] at hat'
  have hn' : (zs.take m).length = m := by simp; omega
  have hby' := hby.take m
  have hmc : m ≤ cap := by omega
  generalize zs.take m = ys at hat' hn' hby'
  have HF := Lib.hid (wshort_any a n cap w hc hm)
  rw [← hmm] at HF
  have hll := U16.items_length ys big m
  have hsp := witems_spec ys big m
  have H1 := Lib.hid (witems_any big a m cap ys w hn' hmc (by omega) hat' hby')
  have H2 := Lib.hid (show ∀ wx, Below w.heap.size w wx → Calls Try.prog 19 #[.slice a m cap, .bool big] wx (OwnRefItems wx (U16.items ys big m)) from fun wx hx => wrefItems_any big a m cap ys wx hn' hmc (by omega) (hat'.below hx) hby')
  generalize U16.items ys big m = L at hll hsp H1 H2
  have HS := Lib.hid hsp
  obtain ⟨q, hq⟩ : ∃ q, q = L.length := ⟨_, rfl⟩
  have HQ := Lib.hid hq
  rw [← hq] at hll
  clear hat' hn' hby' hat hn hmm hm hc hsp hq hby
  go_enter Try.func5, Try.ntmps5
  go_wp2_with (first
    | (go_at_call 17; refine HF.out.mono ?_; rintro e w' ⟨rfl, rfl⟩)
    | (go_at_call 18; refine H1.out.mono ?_; rintro e w1 ⟨v, rfl, hown, hb1⟩; rw [← HQ.out] at hown; obtain ⟨ai, ci, rfl, hci⟩ := owns_slice hown; have HOWN := Lib.hid hown; clear hown hci)
    | (go_at_call 19; refine (H2.out _ hb1).mono ?_; rintro e w2 ⟨v2, rfl, hown2, hb2⟩; rw [← HQ.out] at hown2; obtain ⟨aj, cj, rfl, hcj⟩ := owns_slice hown2; have HOWN2 := Lib.hid hown2; clear hown2 hcj))
  have HA := Lib.hid ((AtCells.of_owns HOWN.out).below hb2)
  have HA2 := Lib.hid (AtCells.of_owns HOWN2.out)
  have HB12 := Lib.hid (hb1.trans (hb2.mono hb1.size))
  go_loopw [7, 25] (fun s i wr => ∃ k : Nat, k ≤ q ∧ i = .int .i64 k ∧ s = .int .i64 (atOff L m k) ∧ Below w2.heap.size w2 wr) (fun _ i _ => q - (intOf i).toNat)
  case atStart => exact ⟨0, Nat.zero_le _, rfl, by rw [HS.out.1], Below.refl _ _⟩
  case round =>
    obtain ⟨k, hk, rfl, rfl, hbl⟩ := hrel
    by_cases hlt : k < q
    · obtain ⟨x, hx⟩ : ∃ x, L[k]? = some x := ⟨_, List.getElem?_eq_getElem (by rw [← HQ.out]; exact hlt)⟩
      obtain ⟨b, off, rfl, c0, c1, c2⟩ := item_cells (HA.out.below hbl) hx
      obtain ⟨b', off', rfl, d0, d1, d2⟩ := item_cells (HA2.out.below hbl) hx
      obtain ⟨g, e0, e1⟩ := HS.out.2 k x hx
      obtain ⟨r, o, nn⟩ := x
      obtain ⟨g1, g2, g3⟩ := g
      have HE := Lib.hid (And.intro e0 e1)
      simp only at c0 c1 c2 d0 d1 d2 HE g1 g2 g3
      clear e0 e1 hx
      rw [HE.out.1]
      have hsz1 := hbl.size
      have HB2 := Lib.hid (hbl.alloc hsz1 (.cells #[.int .i32 r, .int .i64 o, .int .i64 nn] 39))
      have hki : (k : Int) < (q : Int) := by omega
      have hlb : b < wr.heap.size := cell_lt c0
      have hlb' : b' < wr.heap.size := cell_lt d0
      go_wp2_with fail
      go_quiet (fail)
      go_wp2
      go_roundw
      case rel => exact ⟨k + 1, by omega, by go_num, by rw [HE.out.2], below_drewN HB2.out _⟩
      case measure => simp [intOf]; omega
    · obtain rfl : k = q := by omega
      have HT := Lib.hid (show atOff L m k = m by rw [HQ.out]; exact atOff_end L m)
      rw [HT.out]
      clear hk hlt
      go_wp2_with (go_at_call 20; refine (wawake_any _).mono ?_; rintro e w3 ⟨rfl, hb3⟩)
      go_ret
      exact ⟨rfl, (HB12.out.trans (hbl.mono HB12.out.size)).trans (hb3.mono (Nat.le_trans HB12.out.size hbl.size))⟩

end Go.Proofs.Ythbaknillijeoaa
