/-
  WideBytes: for every list of runes, in either order, it returns true.
-/
import Derived.Test.YthbaknillijeoaaWideF
import Derived.Test.YthbaknillijeoaaWideD
import Derived.Deep.RegionWith
import Derived.BigQuiet
namespace Go.Proofs.Ythbaknillijeoaa
open Go.RowKit

set_option maxHeartbeats 2000000 in
theorem wideBytes_walk (big : Bool) (a : Option Addr) (n cap : Nat) (zs : List Int) (w : World) (hn : zs.length = n) (hc : n ≤ cap) (hm : cap ≤ maxLen) (hat : AtCells w a (zs.map (.int .i32))) :
    Calls Try.prog 6 #[.slice a n cap, .bool big] w fun e w' => e = .returned (.bool true) ∧ Below w.heap.size w w' := by
  obtain ⟨m, hmm⟩ : ∃ m, m = min n 60 := ⟨_, rfl⟩
  have hm60 : m ≤ 60 := by omega
  have hmc : m ≤ cap := by omega
  have hat' := hat.take m
  rw [← List.map_take] at hat'
  have hn' : (zs.take m).length = m := by simp; omega
  generalize zs.take m = ys at hat' hn'
  have HY := Lib.hid (And.intro hat' hn')
  have HF := Lib.hid (wfew_any a n cap w hc hm)
  rw [← hmm] at HF
  have HB1 := Lib.hid (show ∀ wx, Below w.heap.size w wx → Calls Try.prog 24 #[.bool big, .slice a m cap] wx (OwnBytes wx (U16.encs big ys)) from fun wx hx => wbytes_any big a m cap ys wx hn' (by omega) (hat'.below hx))
  have HB2 := Lib.hid (show ∀ wx, Below w.heap.size w wx → Calls Try.prog 25 #[.slice a m cap, .bool big] wx (OwnBytes wx (U16.encs big ys)) from fun wx hx => wrefBytes_any big a m cap ys wx hn' (by omega) (hat'.below hx))
  clear hat' hn' hat hn hmm hm hc
  obtain ⟨S, hS⟩ : ∃ S, S = strOfNums (U16.encs big ys) := ⟨_, rfl⟩
  have HCV := Lib.hid (show ∀ (wx : World) (B : Nat) (v : Value), wx.ownsRow B 5 1 v (U16.encs big ys).length ((U16.encs big ys).map (Value.int .u8)) → Sem.run Try.prog (convert 25 9 v) wx = .ok (.string S) wx from fun wx B v hx => by
    obtain ⟨a2, c2, rfl, _⟩ := owns_slice hx
    rw [hS]; exact run_str wx _ _ _ Try.underlying25 Try.underlying5 Try.underlying9 a2 _ c2 _ rfl (AtCells.of_owns hx))
  clear hS
  go_enter Try.func6, Try.ntmps6
  go_wp2_with (go_at_call 21; refine HF.out.mono ?_; rintro e w' ⟨rfl, rfl⟩)
  go_loop [11] (fun i => ∃ k : Nat, k ≤ m ∧ i = .int .i64 k) (fun i => m - (intOf i).toNat)
  case atStart => exact ⟨0, Nat.zero_le _, rfl⟩
  case round =>
    obtain ⟨k, hk, rfl⟩ := hrel
    by_cases hlt : k < m
    · obtain ⟨b, off, rfl, hcell⟩ := HY.out.1.int (k := k) (by rw [HY.out.2]; exact hlt)
      obtain ⟨z, hz⟩ : ∃ z, z = ys.getD k 0 := ⟨_, rfl⟩
      rw [← hz] at hcell
      clear hz
      go_wp2_with (first
        | (go_at_call 22; refine (wwidth_any _ _).mono ?_; rintro e w' ⟨rfl, rfl⟩)
        | (go_at_call 23; refine (wrefWidth_any _ _).mono ?_; rintro e w' ⟨rfl, rfl⟩))
      go_round
      case rel => exact ⟨k + 1, by omega, by go_num⟩
      case measure => simp [intOf]; omega
    · obtain rfl : k = m := by omega
      clear hk hlt
      have hd : Below w.heap.size w w.drew := (Below.refl _ _).drew
      go_wp2_with fail
      go_region_with (first
        | (go_at_call 24; refine (HB1.out _ (by assumption)).mono ?_; rintro e w2 ⟨v1, rfl, hown1, hb1⟩; have hbb1 : Below w.heap.size w w2 := Below.trans (by assumption) (hb1.mono (Below.size (by assumption))); have hcv1 : ∀ wx, Below w2.heap.size w2 wx → Sem.run Try.prog (convert 25 9 v1) wx = .ok (.string S) wx := fun wx hx => HCV.out _ _ _ (owns_below hown1 hx); have hr1 := Below.refl w2.heap.size w2; clear hown1 hb1)
        | (go_at_call 25; refine (HB2.out _ (by assumption)).mono ?_; rintro e w3 ⟨v2, rfl, hown2, hb2⟩; have hcv2 := HCV.out _ _ _ hown2; clear hown2)
        | (go_at_call 20; refine (wawake_any _).mono ?_; rintro e w4 ⟨rfl, hb4⟩))
      all_goals
        go_wp2
        go_ret
        exact ⟨rfl, (hbb1.trans (hb2.mono hbb1.size)).trans (hb4.mono (Nat.le_trans hbb1.size hb2.size))⟩

end Go.Proofs.Ythbaknillijeoaa
