/-
  SniffOffsets: for every kind and all runes it returns true.
-/
import Derived.Test.YtmibajofbagphaaDoorSnF
import Derived.Test.YtmibajofbagphaaDoorCut3
namespace Go.Proofs.YtmibajofbagphaaDoor
open Go.RowKit

set_option maxRecDepth 100000 in
set_option maxHeartbeats 4000000 in
theorem sniffOffsets_walk (kd : Int) (a : Option Addr) (n cap : Nat) (zs : List Int) (w : World) (hs : Signs w) (hn : zs.length = n) (hc : n ≤ cap) (hm : cap ≤ maxLen) (hat : AtCells w a (zs.map (.int .i32))) :
    Calls Tryd.prog 10 #[.int .i64 kd, .slice a n cap] w fun e w' => e = .returned (.bool true) ∧ Below w.heap.size w w' := by
  obtain ⟨m, hmm⟩ : ∃ m, m = min n 60 := ⟨_, rfl⟩
  have hm60 : m ≤ 60 := by omega
  have hmc : m ≤ cap := by omega
  have hat' := hat.take m
  rw [← List.map_take] at hat'
  have hn' : (zs.take m).length = m := by simp; omega
  generalize zs.take m = ys at hat' hn'
  have HF := Lib.hid (few_any a n cap w hc hm)
  rw [← hmm] at HF
  have HO := Lib.hid (offsets_any kd a m cap ys w hn' (by omega) hat')
  have HR := Lib.hid (show ∀ k, k ≤ m → ∀ wx, Below w.heap.size w wx → Calls Tryd.prog 18 #[.int .i64 kd, .slice a k cap] wx fun e w' => (∃ a2 c2, e = .returned (.slice a2 (encsOf kd (ys.take k)).length c2)) ∧ Below wx.heap.size wx w' from fun k hk wx hx => by
    have hatk := (hat'.below hx).take k
    rw [← List.map_take] at hatk
    refine (refEncode_any kd a k cap (ys.take k) wx (by rw [List.length_take]; omega) (by omega) hatk).mono ?_
    rintro e w' ⟨v, rfl, hown, hb⟩
    obtain ⟨a2, c2, rfl, _⟩ := owns_slice hown
    exact ⟨⟨a2, c2, rfl⟩, hb⟩)
  have HAW := Lib.hid (fun W (hW : Below w.heap.size w W) => sawake_at hs hW)
  have hAL := allOffs_length kd ys
  have hAT : ∀ k, k < m + 1 → (allOffs kd ys).getD k 0 = (((encsOf kd (ys.take k)).length : Nat) : Int) := fun k hk => allOffs_at kd ys k (by omega)
  rw [hn'] at hAL
  have HAL := Lib.hid hAL
  have HALT := Lib.hid hAT
  unfold maxLen at hm
  clear hat' hn' hat hn hmm hc hs hAL hAT
  go_enter Tryd.func10, Tryd.ntmps10
  go_wp2_with fail
  refine HF.out.mono ?_
  rintro e w' ⟨rfl, rfl⟩
  go_wp2_with fail
  refine HO.out.mono ?_
  rintro e w1 ⟨v, rfl, hown, hb1⟩
  rw [HAL.out] at hown
  obtain ⟨ao, co, rfl, _⟩ := owns_slice hown
  have HA := Lib.hid (AtCells.of_owns hown)
  have HB1 := Lib.hid hb1
  clear hown hb1
  go_wp2_with fail
  go_loopw [20] (fun i wr => ∃ k : Nat, k ≤ m + 1 ∧ i = .int .i64 k ∧ Below w1.heap.size w1 wr) (fun i _ => m + 1 - (intOf i).toNat)
  case atStart => exact ⟨0, Nat.zero_le _, rfl, Below.refl _ _⟩
  case round =>
    obtain ⟨k, hk, rfl, hbl⟩ := hrel
    have HBL := Lib.hid hbl
    have HBW := Lib.hid (HB1.out.trans (hbl.mono HB1.out.size))
    by_cases hlt : k < m + 1
    · obtain ⟨b, off, rfl, c⟩ := (HA.out.below hbl).int (k := k) (by rw [HAL.out]; exact hlt)
      rw [HALT.out k hlt] at c
      have HC := Lib.hid (HR.out k (by omega))
      have hbd : Below w.heap.size w wr.drew := HBW.out.drew
      have hlb := cell_lt c
      obtain ⟨L, hL⟩ : ∃ L, L = (encsOf kd (ys.take k)).length := ⟨_, rfl⟩
      rw [← hL] at c HC
      have hki : (k : Int) < (m : Int) + 1 := by omega
      have hkc : (k : Int) ≤ (cap : Int) := by omega
      have hkc' : k ≤ cap := by omega
      have HB1' := Lib.hid (show ∀ w2, Below wr.drew.heap.size wr.drew w2 → w2.cell? ⟨b, off + k, none⟩ = some (.int .i64 (L : Int)) ∧ Below w1.heap.size w1 w2 from fun w2 h2 => ⟨(h2.cell (p := ⟨b, off + k, none⟩) hlb).trans c, HBL.out.drew.trans (h2.mono HBL.out.size)⟩)
      clear hL hbl
      go_wp2_with fail
      go_region_with (go_at_call 18; refine (HC.out _ hbd).mono ?_; rintro e w2 ⟨⟨a2, c2, rfl⟩, hb2⟩; obtain ⟨c', hbl'⟩ := HB1'.out w2 hb2; have HX := Lib.hid hbl'; clear hb2 hbl')
      all_goals
        go_wp2
        go_roundw
        case rel => exact ⟨k + 1, by omega, by go_num, HX.out⟩
        case measure => simp [intOf]; omega
    · have hge : m + 1 ≤ k := by omega
      clear hlt hbl
      go_wp2_with (go_at_call 15; refine (HAW.out _ HBW.out).mono ?_; rintro e w3 ⟨rfl, hb3⟩)
      go_ret
      exact ⟨rfl, HBW.out.trans (hb3.mono HBW.out.size)⟩

end Go.Proofs.YtmibajofbagphaaDoor
