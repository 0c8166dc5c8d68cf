/-
  Contract: the reference's Bytes of layer 2.
-/
import Derived.Test.YtmibajofbagphaaDoorWideE
namespace Go.Proofs.YtmibajofbagphaaDoor
open Go.RowKit

set_option maxHeartbeats 400000 in
theorem refUnit_any (u : Int) (big : Bool) (w : World) (h0 : 0 ≤ u) (h1 : u ≤ 65535) :
    Calls Tryd.prog 52 #[.int .i64 u, .bool big] w fun e w' => e = .returned (.slice (some ⟨w.heap.size, 0, none⟩) 2 2) ∧ w.alloc (.cells (putCells big u).toArray 5) = w' := by
  cases big
  · go_enter Tryd.func52, Tryd.ntmps52
    go_wp2
    go_ret
    exact ⟨rfl, congrArg (fun c => w.alloc (.cells c 5)) (by rw [putCells_false, show u / 256 % 256 = u / 256 by omega])⟩
  · go_enter Tryd.func52, Tryd.ntmps52
    go_wp2
    go_ret
    exact ⟨rfl, congrArg (fun c => w.alloc (.cells c 5)) (by rw [putCells_true, show u / 256 % 256 = u / 256 by omega])⟩

theorem putCells_length (big : Bool) (u : Int) : (putCells big u).length = 2 := by cases big <;> rfl
theorem putCells_one (big : Bool) (u : Int) : ∀ x ∈ putCells big u, x.oneCell' = true := ints_oneCell _ _

set_option maxHeartbeats 4000000 in
theorem wrefBytes_any (big : Bool) (a : Option Addr) (n cap : Nat) (zs : List Int) (w : World) (hn : zs.length = n) (hbig : n ≤ 1099511627776) (hat : AtCells w a (zs.map (.int .i32))) :
    Calls Tryd.prog 33 #[.slice a n cap, .bool big] w (OwnBytes w (U16.encs big zs)) := by
  obtain ⟨i0, hi, hz0, hz1, hz2⟩ := info_parts Tryd.infoU8
  have HN := Lib.hid hn
  have HAT := Lib.hid hat
  have HI := Lib.hid (And.intro hi (And.intro hz0 (And.intro hz1 hz2)))
  clear hn hat hi hz0 hz1 hz2
  go_enter Tryd.func33, Tryd.ntmps33
  go_wp2
  go_loopw [5, 11] (fun v i wr => ∃ k : Nat, k ≤ n ∧ i = .int .i64 k ∧ wr.ownsRow w.heap.size 5 1 v (U16.encs big (zs.take k)).length ((U16.encs big (zs.take k)).map (Value.int .u8)) ∧ Below w.heap.size w wr)
    (fun _ i _ => n - (intOf i).toNat)
  case atStart => exact ⟨0, Nat.zero_le _, rfl, World.ownsRow_nil _ _ _ _, Below.refl _ _⟩
  case round =>
    obtain ⟨k, hk, rfl, hown, hbl⟩ := hrel
    by_cases hlt : k < n
    · obtain ⟨b, off, rfl, hc⟩ := (HAT.out.below hbl).int (k := k) (by rw [HN.out]; exact hlt)
      obtain ⟨z, hz⟩ : ∃ z, z = zs.getD k 0 := ⟨_, rfl⟩
      rw [← hz] at hc
      have HZZ := Lib.hid hz
      have HTS := Lib.hid (U8.take_succ zs k (by rw [HN.out]; exact hlt))
      have hsz := hbl.size
      have hln : (U16.encs big (zs.take k)).length + 6 ≤ 140737488355328 := by
        have h1 := U16.encs_length_le big (zs.take k); have h2 := HN.out; simp only [List.length_take] at h1; omega
      have HL1 := Lib.hid (show (U16.encs big (zs.take k)).length + 2 ≤ maxLen by unfold maxLen; omega)
      have HL2 := Lib.hid (show ((U16.encs big (zs.take k)).length + 2) * 1 ≤ 140737488355328 by omega)
      have HL3 := Lib.hid (show (U16.encs big (zs.take k)).length + 2 + 2 ≤ maxLen by unfold maxLen; omega)
      have HL4 := Lib.hid (show ((U16.encs big (zs.take k)).length + 2 + 2) * 1 ≤ 140737488355328 by omega)
      have HOWN := Lib.hid hown
      have HBL := Lib.hid hbl
      have HSA := Lib.hid (show ∀ o, w.heap.size ≤ (wr.alloc o).heap.size from fun o => by simp; omega)
      clear hz hln hown hbl
      rcases U16.width_cases z with hw | hw | hw
      · have e1 : (U16.width z == 2) = false := by rw [hw]; rfl
        have e2 : (U16.width z == 4) = false := by rw [hw]; rfl
        have HW := Lib.hid hw
        clear hw
        go_wp2_with (go_at_call 51; refine (wrefWidth_any _ _).mono ?_; rintro e w' ⟨rfl, rfl⟩)
        go_roundw
        case rel => exact ⟨k + 1, by omega, by go_num, wstep0 HW.out HZZ.out HTS.out HOWN.out, HBL.out⟩
        case measure => simp [intOf]; omega
      · have e1 : (U16.width z == 2) = true := by rw [hw]; rfl
        obtain ⟨hz0, hz1⟩ := wrange2 hw
        have HW := Lib.hid hw
        clear hw
        go_wp2_with (first
          | (go_at_call 51; refine (wrefWidth_any _ _).mono ?_; rintro e w' ⟨rfl, rfl⟩)
          | (go_at_call 52; refine (refUnit_any _ _ _ hz0 hz1).mono ?_; rintro e w' ⟨rfl, rfl⟩)
          | (at_builtin; refine wpList_append_own _ rfl _ _ 22 rfl w.heap.size 5 i0 (.int .u8 0) 1 1 Tryd.underlying22 HI.out.1 HI.out.2.1 HI.out.2.2.1 HI.out.2.2.2 rfl (by decide) _ _ _ rfl (HOWN.out.alloc _) _ _ _ (putCells big z) rfl (putCells_length _ _) (new_cells _ _ _) (putCells_one _ _) HL1.out HL2.out (HSA.out _) ?_; intro v' w2 hown' hg' _))
        have HST := Lib.hid (wstep1 HW.out HZZ.out HTS.out hown' HOWN.out hg' HBL.out hsz)
        clear hown' hg'
        go_roundw
        case rel => exact ⟨k + 1, by omega, by go_num, HST.out.1, HST.out.2⟩
        case measure => simp [intOf]; omega
      · have e1 : (U16.width z == 2) = false := by rw [hw]; rfl
        have e2 : (U16.width z == 4) = true := by rw [hw]; rfl
        obtain ⟨hz0, hz1⟩ := wrange4 hw
        have HW := Lib.hid hw
        clear hw
        have tok : True := trivial
        go_wp2_with (first
          | (go_at_call 51; refine (wrefWidth_any _ _).mono ?_; rintro e w' ⟨rfl, rfl⟩)
          | (go_at_call 52; refine (refUnit_any _ _ _ (by omega) (by omega)).mono ?_; rintro e w' ⟨rfl, rfl⟩)
          | (at_builtin; have _t := tok; refine wpList_append_own _ rfl _ _ 22 rfl w.heap.size 5 i0 (.int .u8 0) 1 1 Tryd.underlying22 HI.out.1 HI.out.2.1 HI.out.2.2.1 HI.out.2.2.2 rfl (by decide) _ _ _ rfl (HOWN.out.alloc _) _ _ _ (putCells big (55296 + (z - 65536) / 1024)) rfl (putCells_length _ _) (new_cells _ _ _) (putCells_one _ _) HL1.out HL2.out (HSA.out _) ?_; intro v1 w2 hown1' hg1' _; have HO1 := Lib.hid hown1'; have HG1 := Lib.hid hg1'; have hsz2 : w.heap.size ≤ w2.heap.size := (below_grown_alloc HBL.out hsz hg1' (fun g hg => (HOWN.out.lt g hg).1)).size; have HSA2 := Lib.hid (show ∀ o, w.heap.size ≤ (w2.alloc o).heap.size from fun o => by simp; omega); clear hown1' hg1' tok _t)
          | (at_builtin; refine wpList_append_own _ rfl _ _ 22 rfl w.heap.size 5 i0 (.int .u8 0) 1 1 Tryd.underlying22 HI.out.1 HI.out.2.1 HI.out.2.2.1 HI.out.2.2.2 rfl (by decide) _ _ _ rfl (HO1.out.alloc _) _ _ _ (putCells big (56320 + (z - 65536) % 1024)) rfl (putCells_length _ _) (new_cells _ _ _) (putCells_one _ _) HL3.out HL4.out (HSA2.out _) ?_; intro v2 w3 hown2' hg2' _))
        have HST := Lib.hid (wstep2 HW.out HZZ.out HTS.out hown2' HO1.out HOWN.out HG1.out hg2' HBL.out hsz)
        clear hown2' hg2'
        go_roundw
        case rel => exact ⟨k + 1, by omega, by go_num, HST.out.1, HST.out.2⟩
        case measure => simp [intOf]; omega
    · obtain rfl : k = n := by omega
      have HT := Lib.hid (show zs.take k = zs from List.take_of_length_le (by have := HN.out; omega))
      clear hk hlt
      go_wp2
      go_ret
      rw [HT.out] at hown
      exact ⟨_, rfl, hown, hbl⟩

end Go.Proofs.YtmibajofbagphaaDoor
