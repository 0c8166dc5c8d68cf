/-
  ScanBytes: for every list of runes it returns true: Width and Bytes are the reference's, and the example of the chapter holds. No conditions.
-/
import Derived.Test.YthbaknillijeoaaScanC
import Derived.Deep.RegionHeld3
import Derived.Deep.RegionWith
import Derived.BigQuiet
namespace Go.Proofs.Ythbaknillijeoaa
open Go.RowKit

theorem widths_step (l : List Int) (k : Nat) (h : k < l.length) : U8.widths (l.take (k + 1)) = U8.widths (l.take k) + U8.width (l.getD k 0) := by
  rw [U8.take_succ l k h, U8.widths_snoc]

set_option maxHeartbeats 1000000 in
theorem scanBytes_walk (a : Option Addr) (n cap : Nat) (zs : List Int) (w : World) (hn : zs.length = n) (hc : n ≤ cap) (hm : cap ≤ maxLen) (hat : AtCells w a (zs.map (.int .i32))) (hz : Runes zs) :
    Calls Try.prog 3 #[.slice a n cap] w fun e w' => e = .returned (.bool true) ∧ Below w.heap.size w w' := by
  obtain ⟨m, hmm⟩ : ∃ m, m = min n 60 := ⟨_, rfl⟩
  have hm60 : m ≤ 60 := by omega
  have hmc : m ≤ cap := by omega
  have hat' := hat.take m
  rw [← List.map_take] at hat'
  have hz' : Runes (zs.take m) := fun z h => hz z (List.mem_of_mem_take h)
  have hn' : (zs.take m).length = m := by simp; omega
  generalize zs.take m = ys at hat' hz' hn'
  have HY := Lib.hid (And.intro hat' (And.intro hz' hn'))
  have HF := Lib.hid (few_any a n cap w hc hm)
  rw [← hmm] at HF
  clear hat' hz' hn' hat hz hn hmm hm hc
  go_enter Try.func3, Try.ntmps3
  go_wp2_with (go_at_call 9; refine HF.out.mono ?_; rintro e w' ⟨rfl, rfl⟩)
  go_loop [3, 11] (fun s i => ∃ k : Nat, k ≤ m ∧ i = .int .i64 k ∧ s = .int .i64 (U8.widths (ys.take k))) (fun _ i => m - (intOf i).toNat)
  case atStart => exact ⟨0, Nat.zero_le _, rfl, rfl⟩
  case round =>
    obtain ⟨k, hk, rfl, rfl⟩ := hrel
    by_cases hlt : k < m
    · obtain ⟨b, off, rfl, hcell⟩ := HY.out.1.int (k := k) (by rw [HY.out.2.2]; exact hlt)
      have hst := widths_step ys k (by rw [HY.out.2.2]; exact hlt)
      have hwb := U8.widths_bd (ys.take k)
      have hwl : (ys.take k).length ≤ 60 := by simp; omega
      obtain ⟨z, hz⟩ : ∃ z, z = ys.getD k 0 := ⟨_, rfl⟩
      rw [← hz] at hcell hst
      have hzb := U8.width_bd z
      have HST := Lib.hid hst
      have hb0 : 0 ≤ U8.widths (ys.take k) := hwb.1
      have hb1 : U8.widths (ys.take k) ≤ 240 := by omega
      obtain ⟨hzb0, hzb1⟩ := hzb
      clear hz hst hwb hwl
      go_wp2_with (first
        | (go_at_call 10; refine (width_any _ _).mono ?_; rintro e w' ⟨rfl, rfl⟩)
        | (go_at_call 11; refine (refWidth_any _ _).mono ?_; rintro e w' ⟨rfl, rfl⟩))
      go_round
      case rel => exact ⟨k + 1, by omega, by go_num, by rw [HST.out]⟩
      case measure => simp [intOf]; omega
    · obtain rfl : k = m := by omega
      have HT := Lib.hid (show ys.take k = ys from List.take_of_length_le (by have := HY.out.2.2; omega))
      rw [HT.out]
      clear hk hlt
      go_wp2_with (go_at_call 12; refine (bytes_any a k cap ys w HY.out.2.2 (by omega) HY.out.1 HY.out.2.1).mono ?_; rintro e w1 ⟨v, rfl, hown, hb1⟩)
      obtain ⟨ab, cb, rfl, hcb⟩ := owns_slice hown
      have hA1 := AtCells.of_owns hown
      have hlb := U8.encs_length_le ys
      have hwd := U8.widths_eq ys
      have hnb : (((U8.encs ys).length : Int) == U8.widths ys) = true := by rw [hwd]; simp
      obtain ⟨nb, hnbe⟩ : ∃ nb, nb = (U8.encs ys).length := ⟨_, rfl⟩
      rw [← hnbe] at hnb hown ⊢
      obtain ⟨S, hS⟩ : ∃ S, S = strOfNums (U8.encs ys) := ⟨_, rfl⟩
      have hcv : ∀ wx, Below w1.heap.size w1 wx → Sem.run Try.prog (convert 25 9 (.slice ab nb cb)) wx = .ok (.string S) wx := fun wx hx => by
        rw [hS]; exact run_str wx _ _ _ Try.underlying25 Try.underlying5 Try.underlying9 ab nb cb _ hnbe.symm (hA1.below hx)
      have hcv2 : ∀ (wx : World) (B : Nat) (v2 : Value), wx.ownsRow B 5 1 v2 (U8.encs ys).length ((U8.encs ys).map (Value.int .u8)) → Sem.run Try.prog (convert 25 9 v2) wx = .ok (.string S) wx := fun wx B v2 hx => by
        obtain ⟨a2, c2, rfl, _⟩ := owns_slice hx
        rw [hS]; exact run_str wx _ _ _ Try.underlying25 Try.underlying5 Try.underlying9 a2 _ c2 _ rfl (AtCells.of_owns hx)
      have HCV2 := Lib.hid hcv2
      clear hcv2
      have hrefl := Below.refl w1.heap.size w1
      have hrefld : Below w1.heap.size w1 w1.drew := hrefl.drew
      have HR := Lib.hid (And.intro hnbe (And.intro hown (And.intro hlb hwd)))
      have HB := Lib.hid hb1
      have HRB := Lib.hid (show ∀ wx, Below w1.heap.size w1 wx → Calls Try.prog 13 #[.slice a k cap] wx (OwnBytes wx (U8.encs ys)) from fun wx hx => refBytes_any a k cap ys wx HY.out.2.2 (by omega) ((HY.out.1.below hb1).below hx))
      clear hnbe hown hlb hwd hA1 hcb hb1 hS
      go_region_with (first
        | (go_at_call 13; refine (HRB.out _ (by assumption)).mono ?_; rintro e w2 ⟨v2, rfl, hown2, hb2⟩; have hcv3 := HCV2.out _ _ _ hown2; have hb4 : Below w1.heap.size w1 w2 := Below.trans hrefld hb2; clear hown2)
        | (go_at_call 14; refine (awake_any _).mono ?_; rintro e w3 ⟨rfl, hb3⟩))
      all_goals
        go_wp2
        go_ret
        exact ⟨rfl, (HB.out.trans (hb4.mono HB.out.size)).trans (hb3.mono (Nat.le_trans HB.out.size hb4.size))⟩

end Go.Proofs.Ythbaknillijeoaa
