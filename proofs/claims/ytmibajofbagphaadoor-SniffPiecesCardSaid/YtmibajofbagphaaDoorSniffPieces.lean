/-
  SniffPieces: for every kind and all bytes it returns true.
-/
import Derived.Test.YtmibajofbagphaaDoorSnE
import Derived.Test.YtmibajofbagphaaDoorCut3
import Derived.Deep.QuietTactic
import Derived.BigQuiet
namespace Go.Proofs.YtmibajofbagphaaDoor
open Go.RowKit

set_option maxRecDepth 100000 in
set_option maxHeartbeats 4000000 in
theorem sniffPieces_walk (kd : Int) (a : Option Addr) (n cap : Nat) (zs : List Int) (w : World) (hs : Signs w) (hn : zs.length = n) (hc : n ≤ cap) (hm : cap ≤ maxLen) (hb : Bys zs) (hat : AtCells w a (zs.map (.int .u8))) :
    Calls Tryd.prog 9 #[.int .i64 kd, .slice a n cap] w fun e w' => e = .returned (.bool true) ∧ Below w.heap.size w w' := by
  obtain ⟨m, hmm⟩ : ∃ m, m = min n 200 := ⟨_, rfl⟩
  have hm200 : m ≤ 200 := by omega
  have hat' := hat.take m
  rw [← List.map_take] at hat'
  have hn' : (zs.take m).length = m := by simp; omega
  have hb' := hb.take m
  have hmc : m ≤ cap := by omega
  generalize zs.take m = ys at hat' hn' hb'
  have HF := Lib.hid (short_any a n cap w hc hm)
  rw [← hmm] at HF
  have H1 := Lib.hid (pieces_any kd a m cap ys w hn' hmc (by omega) hb' hat')
  have HAW := Lib.hid (fun W (hW : Below w.heap.size w W) => sawake_at hs hW)
  by_cases hk : kd = 0 ∨ kd = 1 ∨ kd = 2
  · have H2 := Lib.hid (show ∀ wx, Below w.heap.size w wx → Calls Tryd.prog 28 #[.slice a m cap, .int .i64 kd] wx (OwnRefItems wx (piecesOf kd ys)) from fun wx hx => refPiecesOf_eq hk ys ▸ ref3Items_any kd a m cap ys wx hn' hmc hm (by omega) hb' (hat'.below hx))
    have hll := (pieces_spec hk ys).1
    rw [hn'] at hll
    generalize piecesOf kd ys = L at hll H1 H2
    obtain ⟨q, hq⟩ : ∃ q, q = L.length := ⟨_, rfl⟩
    have HQ := Lib.hid hq
    rw [← hq] at hll
    have hk0 : 0 ≤ kd := by omega
    have hk2 : kd ≤ 2 := by omega
    clear hat' hn' hb' hat hn hmm hm hc hq hb hs hk
    go_enter Tryd.func9, Tryd.ntmps9
    go_wp2_with (first
      | (go_at_call 11; refine HF.out.mono ?_; rintro e w' ⟨rfl, rfl⟩)
      | (go_at_call 27; refine H1.out.mono ?_; rintro e w1 ⟨v, rfl, hown, hb1⟩; rw [← HQ.out] at hown; obtain ⟨ai, ci, rfl, hci⟩ := owns_slice hown; have HOWN := Lib.hid hown; clear hown hci)
      | (go_at_call 28; refine (H2.out _ hb1).mono ?_; rintro e w2 ⟨v2, rfl, hown2, hb2⟩; rw [← HQ.out] at hown2; obtain ⟨aj, cj, rfl, hcj⟩ := owns_slice hown2; have HOWN2 := Lib.hid hown2; clear hown2 hcj))
    have HA := Lib.hid ((AtCells.of_owns HOWN.out).below hb2)
    have HA2 := Lib.hid (AtCells.of_owns HOWN2.out)
    have HB12 := Lib.hid (hb1.trans (hb2.mono hb1.size))
    clear hb1 hb2 HOWN HOWN2
    go_loopw [36] (fun i wr => ∃ k : Nat, k ≤ q ∧ i = .int .i64 k ∧ Below w2.heap.size w2 wr) (fun i _ => q - (intOf i).toNat)
    case atStart => exact ⟨0, Nat.zero_le _, rfl, Below.refl _ _⟩
    case round =>
      obtain ⟨k, hk, rfl, hbl⟩ := hrel
      by_cases hlt : k < q
      · obtain ⟨x, hx⟩ : ∃ x, L[k]? = some x := ⟨_, List.getElem?_eq_getElem (by rw [← HQ.out]; exact hlt)⟩
        obtain ⟨b', off', rfl, d0, d1, d2⟩ := item_cells (HA2.out.below hbl) hx
        obtain ⟨b, off, rfl, c0, c1, c2⟩ := item_cells (HA.out.below hbl) hx
        obtain ⟨r, o, nn⟩ := x
        simp only at c0 c1 c2 d0 d1 d2
        clear hx
        have hsz1 := hbl.size
        have HB2 := Lib.hid (hbl.alloc hsz1 (.cells #[.int .i32 r, .int .i64 o, .int .i64 nn] 51))
        have hki : (k : Int) < (q : Int) := by omega
        have hlb : b < wr.heap.size := cell_lt c0
        have hlb' : b' < wr.heap.size := cell_lt d0
        go_wp2_with fail
        go_quiet (fail)
        go_wp2
        go_roundw
        case rel => exact ⟨k + 1, by omega, by go_num, bdr HB2.out _⟩
        case measure => simp [intOf]; omega
      · have HBW := Lib.hid (HB12.out.trans (hbl.mono HB12.out.size))
        have hge : q ≤ k := by omega
        clear hlt
        go_wp2_with (go_at_call 15; refine (HAW.out _ HBW.out).mono ?_; rintro e w3 ⟨rfl, hb3⟩)
        go_ret
        exact ⟨rfl, HBW.out.trans (hb3.mono HBW.out.size)⟩
  · have he : piecesOf kd ys = [] := by unfold piecesOf; rw [if_neg (by omega), if_neg (by omega), if_neg (by omega)]
    rw [he] at H1
    have hk' : kd < 0 ∨ 2 < kd := by omega
    clear hat' hn' hb' hat hn hmm hm hc hb hs hk he
    rcases hk' with hk | hk
    all_goals
      go_enter Tryd.func9, Tryd.ntmps9
      go_wp2_with (first
        | (go_at_call 11; refine HF.out.mono ?_; rintro e w' ⟨rfl, rfl⟩)
        | (go_at_call 27; refine H1.out.mono ?_; rintro e w1 ⟨v, rfl, hown, hb1⟩; obtain ⟨ai, ci, rfl, hci⟩ := owns_slice hown; clear hown hci)
        | (go_at_call 15; refine (HAW.out _ hb1).mono ?_; rintro e w3 ⟨rfl, hb3⟩))
      go_ret
      exact ⟨rfl, hb1.trans (hb3.mono hb1.size)⟩

end Go.Proofs.YtmibajofbagphaaDoor
