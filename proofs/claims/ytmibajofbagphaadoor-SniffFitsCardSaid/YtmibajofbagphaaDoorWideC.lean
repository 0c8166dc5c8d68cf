/-
  Contract: the reference's Items of layer 2.
-/
import Derived.Test.YtmibajofbagphaaDoorWideB
import Derived.Test.YtmibajofbagphaaDoorRows1
import Derived.Test.YtmibajofbagphaaDoorRefI
import Derived.Deep.RegionWith
namespace Go.Proofs.YtmibajofbagphaaDoor
open Go.RowKit

/-- A number was answered; nothing is written. -/
def NumIs (w : World) (u : Int) (e : Ending) (w' : World) : Prop := e = .returned (.int .i64 u) ∧ Below w.heap.size w w'

set_option maxHeartbeats 1000000 in
theorem unit_any (big : Bool) (b off n cap : Nat) (zs : List Int) (w : World) (h2 : 2 ≤ n) (hbig : n ≤ 1099511627776) (hat : AtCells w (some ⟨b, off, none⟩) (zs.map (.int .u8))) (hn : zs.length = n) (hb : U16.Byte zs) :
    Calls Tryd.prog 62 #[.slice (some ⟨b, off, none⟩) n cap, .bool big] w (NumIs w (U16.unitAt zs big 0)) := by
  obtain ⟨_, _, he, c0⟩ := hat.int (k := 0) (by omega)
  simp only [Option.some.injEq, Addr.mk.injEq] at he
  obtain ⟨rfl, rfl, _⟩ := he
  obtain ⟨_, _, he1, c1⟩ := hat.int (k := 1) (by omega)
  simp only [Option.some.injEq, Addr.mk.injEq] at he1
  obtain ⟨rfl, rfl, _⟩ := he1
  have b0 := hb.at 0
  have b1 := hb.at 1
  obtain ⟨x0, hx0⟩ : ∃ x0, x0 = zs.getD 0 0 := ⟨_, rfl⟩
  obtain ⟨x1, hx1⟩ : ∃ x1, x1 = zs.getD 1 0 := ⟨_, rfl⟩
  rw [← hx0] at c0 b0
  rw [← hx1] at c1 b1
  rw [Nat.add_zero] at c0
  have hun : U16.unitAt zs big 0 = U16.unit big x0 x1 := by rw [U16.unitAt, hx0, hx1]
  rw [hun]
  have n0 : 0 < n := by omega
  have n1 : 1 < n := by omega
  have n2 : (1 : Int) < (n : Int) := by omega
  obtain ⟨b00, b01⟩ := b0
  obtain ⟨b10, b11⟩ := b1
  clear hx0 hx1 hun hn hb hat
  cases big
  · go_enter Tryd.func62, Tryd.ntmps62
    go_wp2
    go_quiet (fail)
    go_wp2
    go_ret
    exact ⟨ret_int rfl, below_drewN (Below.refl _ _) _⟩
  · go_enter Tryd.func62, Tryd.ntmps62
    go_wp2
    go_quiet (fail)
    go_wp2
    go_ret
    exact ⟨ret_int rfl, below_drewN (Below.refl _ _) _⟩

set_option maxHeartbeats 400000 in
theorem is_true (u lo hi : Int) (w : World) (h1 : lo ≤ u) (h2 : u ≤ hi) :
    Calls Tryd.prog 63 #[.int .i64 u, .int .i64 lo, .int .i64 hi] w fun e w' => e = .returned (.bool true) ∧ w = w' := by
  go_enter Tryd.func63, Tryd.ntmps63
  go_wp2
  go_ret
  exact ⟨rfl, rfl⟩

set_option maxHeartbeats 400000 in
theorem is_false (u lo hi : Int) (w : World) (h : u < lo ∨ hi < u) :
    Calls Tryd.prog 63 #[.int .i64 u, .int .i64 lo, .int .i64 hi] w fun e w' => e = .returned (.bool false) ∧ w = w' := by
  by_cases h1 : lo ≤ u
  · have h2 : hi < u := by omega
    have h3 : decide (u ≤ hi) = false := by simp; omega
    clear h
    go_enter Tryd.func63, Tryd.ntmps63
    go_wp2
    go_ret
    exact ⟨rfl, rfl⟩
  · have h2 : u < lo := by omega
    clear h h1
    go_enter Tryd.func63, Tryd.ntmps63
    go_wp2
    go_ret
    exact ⟨rfl, rfl⟩

theorem box_after {w2 W : World} {o : Obj} {row : Option Nat} {p : Addr} {u : Value} (hg : (W.alloc o).grownBy w2 row) (hc : (W.alloc o).cell? p = some u) (hne : some p.block ≠ row) : w2.cell? p = some u := hg.cell hc hne

set_option maxHeartbeats 4000000 in
theorem wrefItems_any (big : Bool) (a : Option Addr) (n cap : Nat) (zs : List Int) (w : World) (hn : zs.length = n) (hc : n ≤ cap) (hbig : n ≤ 1099511627776) (hat : AtCells w a (zs.map (.int .u8))) (hby : U16.Byte zs) :
    Calls Tryd.prog 44 #[.slice a n cap, .bool big] w (OwnRefItems w (U16.items zs big n)) := by
  obtain ⟨i0, hi, hz0, hz1, hz2⟩ := info_parts Tryd.infoRefItem
  have HI := Lib.hid (And.intro hi (And.intro hz0 (And.intro hz1 hz2)))
  have HY := Lib.hid (And.intro hat (And.intro hby hn))
  clear hi hz0 hz1 hz2 hat hby hn
  go_enter Tryd.func44, Tryd.ntmps44
  go_wp2
  go_loopw [5, 6] (fun v o wr => ∃ (pos fuel : Nat) (acc : List (Int × Int × Int)), o = .int .i64 pos ∧ pos ≤ n ∧ wr.ownsRow w.heap.size 51 3 v acc.length (itemsCells acc) ∧ Below w.heap.size w wr ∧ acc ++ U16.itemsFrom zs big n fuel pos = U16.items zs big n ∧ n ≤ pos + fuel ∧ acc.length ≤ pos)
    (fun _ o _ => n - (intOf o).toNat)
  case atStart => exact ⟨0, n, [], rfl, Nat.zero_le _, World.ownsRow_nil _ _ _ _, Below.refl _ _, rfl, by omega, by simp⟩
  case round =>
    obtain ⟨pos, fuel, acc, rfl, hpn, hown, hbl, hacc, hfu, hal⟩ := hrel
    by_cases hp : pos < n
    · obtain ⟨b, off, rfl, _⟩ := HY.out.1.int (k := pos) (by rw [HY.out.2.2]; exact hp)
      have h63 : acc.length + 1 ≤ maxLen := by unfold maxLen; omega
      have h47 : (acc.length + 1) * 24 ≤ 140737488355328 := by omega
      have HM := Lib.hid (And.intro h63 h47)
      have hsz := hbl.size
      have HACC := Lib.hid hacc
      have HOWN := Lib.hid (fun kk => owns_drewN hown kk)
      have HOW := Lib.hid hown
      clear h63 h47 hacc
      by_cases hlast : pos + 1 = n
      · have hp1 : ((pos : Int) + 1 == (n : Int)) = true := by simp; omega
        have HIT := Lib.hid (show U16.itemAt zs big n pos = (-1, (pos : Int), 1) by unfold U16.itemAt U16.piece; rw [if_pos (by omega)])
        have HL := Lib.hid hlast
        clear hlast hown
        go_wp2_with (at_builtin; refine wpList_append_own _ rfl _ _ 48 rfl w.heap.size 51 i0 _ 3 24 Tryd.underlying48 HI.out.1 HI.out.2.1 HI.out.2.2.1 HI.out.2.2.2 rfl (by decide) _ _ _ rfl (HOW.out.alloc _) _ _ _ (itemCells (-1, (pos : Int), 1)) rfl rfl (new_cells _ _ _) (itemCells_one _) HM.out.1 HM.out.2 (Nat.le_trans hsz (by simp)) ?_; intro v' w2 hown' hg' _)
        rw [← HIT.out] at hown'
        have hst := items_step hown' HOW.out hg' hbl (Below.refl _ _)
        clear hg' hown'
        go_ret
        have hacc := HACC.out
        rw [U16.itemsFrom_step zs big n fuel pos hp hfu, U16.itemsFrom_end zs big n _ _ (by have := HIT.out; unfold U16.itemAt at this; simp only [Prod.mk.injEq] at this; have := HL.out; omega)] at hacc
        rw [hacc] at hst
        exact ⟨_, rfl, hst.1, hst.2⟩
      · have hp1 : ((pos : Int) + 1 == (n : Int)) = false := by simp; omega
        have hlt2 : pos + 2 ≤ n := by omega
        have HUN := Lib.hid (show ∀ p, p + 2 ≤ n → ∀ wx, Below w.heap.size w wx → Calls Tryd.prog 62 #[.slice (some ⟨b, off + p, none⟩) 2 (cap - p), .bool big] wx (NumIs wx (U16.unitAt zs big p)) from fun p hp wx hx => by
          have h := unit_any big b (off + p) 2 (cap - p) ((zs.drop p).take 2) wx (by omega) (by omega) (by rw [List.map_take, List.map_drop]; exact ((HY.out.1.below hx).drop p).take 2) (by rw [List.length_take, List.length_drop, HY.out.2.2]; omega) ((HY.out.2.1.drop p).take 2)
          rw [U16.unitAt_cut _ _ _ _ (by omega)] at h
          exact h)
        obtain ⟨hu0, hu1⟩ := U16.unit_bd (big := big) (HY.out.2.1.at pos) (HY.out.2.1.at (pos + 1))
        have hue : U16.unit big (zs.getD pos 0) (zs.getD (pos + 1) 0) = U16.unitAt zs big pos := rfl
        rw [hue] at hu0 hu1
        have HU1 := Lib.hid (HUN.out pos hlt2 wr hbl)
        obtain ⟨u, hu⟩ : ∃ u, u = U16.unitAt zs big pos := ⟨_, rfl⟩
        rw [← hu] at hu0 hu1 HU1
        have HU := Lib.hid hu
        clear hlast hown hue hu
        by_cases hA : u < 55296
        · have HIT := Lib.hid (show U16.itemAt zs big n pos = (u, (pos : Int), 2) by
            unfold U16.itemAt U16.piece; rw [← HU.out, if_neg (by omega), if_pos (by omega)])
          go_wp2_with (first
            | (go_at_call 62; refine HU1.out.mono ?_; rintro e W ⟨rfl, hbW⟩; have HOWW := Lib.hid (owns_below HOW.out hbW); have HBW := Lib.hid (hbl.trans (hbW.mono hsz)); have hszW := HBW.out.size; clear hbW)
            | (go_at_call 63; refine (is_false _ _ _ _ (by omega)).mono ?_; rintro e w' ⟨rfl, rfl⟩)
            | (at_builtin; refine wpList_append_own _ rfl _ _ 48 rfl w.heap.size 51 i0 _ 3 24 Tryd.underlying48 HI.out.1 HI.out.2.1 HI.out.2.2.1 HI.out.2.2.2 rfl (by decide) _ _ _ rfl ((HOWW.out.alloc _).alloc _) _ _ _ (itemCells (u, (pos : Int), 2)) rfl rfl (new_cells_at _ _ _ _ (by simp)) (itemCells_one _) HM.out.1 HM.out.2 (by simp; omega) ?_; intro v' w2 hown' hg' _; have hbx := (box_three hg' HOWW.out).2.2))
          rw [← HIT.out] at hown'
          have HST := Lib.hid (And.intro hown' (below_box HBW.out hszW hg' HOWW.out (Nat.le_refl _)))
          clear hg' hown'
          go_roundw
          case rel =>
            refine ⟨pos + 2, fuel - 1, acc ++ [U16.itemAt zs big n pos], by go_num, by omega, by rw [itemsCells_snoc, List.length_append]; exact HST.out.1, HST.out.2, ?_, by omega, by simp; omega⟩
            have hpc : (U16.piece zs big n pos).2 = 2 := congrArg (fun x => x.2.2) HIT.out
            rw [← HACC.out, U16.itemsFrom_step zs big n fuel pos hp hfu, hpc]
            simp
          case measure => simp [intOf]; omega
        by_cases hB : 57344 ≤ u
        · have HIT := Lib.hid (show U16.itemAt zs big n pos = (u, (pos : Int), 2) by
            unfold U16.itemAt U16.piece; rw [← HU.out, if_neg (by omega), if_pos (by omega)])
          go_wp2_with (first
            | (go_at_call 62; refine HU1.out.mono ?_; rintro e W ⟨rfl, hbW⟩; have HOWW := Lib.hid (owns_below HOW.out hbW); have HBW := Lib.hid (hbl.trans (hbW.mono hsz)); have hszW := HBW.out.size; clear hbW)
            | (go_at_call 63; refine (is_false _ _ _ _ (by omega)).mono ?_; rintro e w' ⟨rfl, rfl⟩)
            | (at_builtin; refine wpList_append_own _ rfl _ _ 48 rfl w.heap.size 51 i0 _ 3 24 Tryd.underlying48 HI.out.1 HI.out.2.1 HI.out.2.2.1 HI.out.2.2.2 rfl (by decide) _ _ _ rfl ((HOWW.out.alloc _).alloc _) _ _ _ (itemCells (u, (pos : Int), 2)) rfl rfl (new_cells_at _ _ _ _ (by simp)) (itemCells_one _) HM.out.1 HM.out.2 (by simp; omega) ?_; intro v' w2 hown' hg' _; have hbx := (box_three hg' HOWW.out).2.2))
          rw [← HIT.out] at hown'
          have HST := Lib.hid (And.intro hown' (below_box HBW.out hszW hg' HOWW.out (Nat.le_refl _)))
          clear hg' hown'
          go_roundw
          case rel =>
            refine ⟨pos + 2, fuel - 1, acc ++ [U16.itemAt zs big n pos], by go_num, by omega, by rw [itemsCells_snoc, List.length_append]; exact HST.out.1, HST.out.2, ?_, by omega, by simp; omega⟩
            have hpc : (U16.piece zs big n pos).2 = 2 := congrArg (fun x => x.2.2) HIT.out
            rw [← HACC.out, U16.itemsFrom_step zs big n fuel pos hp hfu, hpc]
            simp
          case measure => simp [intOf]; omega
        have hA' : 55296 ≤ u := by omega
        have hB' : u ≤ 57343 := by omega
        clear hA hB
        by_cases hC : 56320 ≤ u
        · have HIT := Lib.hid (show U16.itemAt zs big n pos = (-1, (pos : Int), 2) by
            unfold U16.itemAt U16.piece; rw [← HU.out, if_neg (by omega), if_neg (by omega), if_neg (by omega)])
          go_wp2_with (first
            | (go_at_call 62; refine HU1.out.mono ?_; rintro e W ⟨rfl, hbW⟩; clear HU1; have HOWW := Lib.hid (owns_below HOW.out hbW); have HBW := Lib.hid (hbl.trans (hbW.mono hsz)); have hszW := HBW.out.size; clear hbW)
            | (go_at_call 63; refine (is_true _ _ _ _ (by omega) (by omega)).mono ?_; rintro e w' ⟨rfl, rfl⟩)
            | (go_at_call 63; refine (is_false _ _ _ _ (by omega)).mono ?_; rintro e w' ⟨rfl, rfl⟩)
            | (at_builtin; refine wpList_append_own _ rfl _ _ 48 rfl w.heap.size 51 i0 _ 3 24 Tryd.underlying48 HI.out.1 HI.out.2.1 HI.out.2.2.1 HI.out.2.2.2 rfl (by decide) _ _ _ rfl ((HOWW.out.alloc _).alloc _) _ _ _ (itemCells (-1, (pos : Int), 2)) rfl rfl (new_cells_at _ _ _ _ (by simp)) (itemCells_one _) HM.out.1 HM.out.2 (by simp; omega) ?_; intro v' w2 hown' hg' _; have hbx := (box_three hg' HOWW.out).2.2))
          rw [← HIT.out] at hown'
          have HST := Lib.hid (And.intro hown' (below_box HBW.out hszW hg' HOWW.out (Nat.le_refl _)))
          clear hg' hown'
          go_roundw
          case rel =>
            refine ⟨pos + 2, fuel - 1, acc ++ [U16.itemAt zs big n pos], by go_num, by omega, by rw [itemsCells_snoc, List.length_append]; exact HST.out.1, HST.out.2, ?_, by omega, by simp; omega⟩
            have hpc : (U16.piece zs big n pos).2 = 2 := congrArg (fun x => x.2.2) HIT.out
            rw [← HACC.out, U16.itemsFrom_step zs big n fuel pos hp hfu, hpc]
            simp
          case measure => simp [intOf]; omega
        have hC' : u ≤ 56319 := by omega
        clear hC
        by_cases h3 : pos + 3 < n
        · obtain ⟨hv0, hv1⟩ := U16.unit_bd (big := big) (HY.out.2.1.at (pos + 2)) (HY.out.2.1.at (pos + 2 + 1))
          have hve : U16.unit big (zs.getD (pos + 2) 0) (zs.getD (pos + 2 + 1) 0) = U16.unitAt zs big (pos + 2) := rfl
          rw [hve] at hv0 hv1
          have HU2 := Lib.hid (HUN.out (pos + 2) (by omega))
          obtain ⟨v, hv⟩ : ∃ v, v = U16.unitAt zs big (pos + 2) := ⟨_, rfl⟩
          rw [← hv] at hv0 hv1 HU2
          have HV := Lib.hid hv
          clear hve hv
          by_cases hD : 56320 ≤ v ∧ v < 57344
          · obtain ⟨hD1, hD2⟩ := hD
            have HIT := Lib.hid (show U16.itemAt zs big n pos = (65536 + (u - 55296) * 1024 + (v - 56320), (pos : Int), 4) by
              unfold U16.itemAt U16.piece; rw [← HU.out, ← HV.out, if_neg (by omega), if_neg (by omega), if_pos (by omega)])
            have HEQ := Lib.hid (show (65536 + 1024 * (u - 55296) + v - 56320, (pos : Int), (4 : Int)) = U16.itemAt zs big n pos by rw [HIT.out, show 65536 + 1024 * (u - 55296) + v - 56320 = 65536 + (u - 55296) * 1024 + (v - 56320) by omega])
            go_wp2_with (first
              | (go_at_call 62; refine HU1.out.mono ?_; rintro e W ⟨rfl, hbW⟩; clear HU1; have HOWW := Lib.hid (owns_below HOW.out hbW); have HBW := Lib.hid (hbl.trans (hbW.mono hsz)); have hszW := HBW.out.size; have HB1 := Lib.hid (HBW.out.alloc hszW (.cells #[.int .i32 (-1), .int .i64 (pos : Int), .int .i64 2] 51)); clear hbW)
              | (go_at_call 62; refine (HU2.out _ HB1.out).mono ?_; rintro e W2 ⟨rfl, hb2⟩; obtain ⟨c0, c1, c2, f0, f1, f2⟩ := (Box.new W (.int .i32 (-1)) (.int .i64 (pos : Int)) (.int .i64 2) 51).below hb2; have HBX := Lib.hid (Box.mk c0 c1 c2 f0 f1 f2); have HOW2 := Lib.hid (owns_below (HOWW.out.alloc _) hb2); have HBE2 := Lib.hid (HB1.out.trans (hb2.mono (by simp; omega))); have hsz2 := HBE2.out.size; have hszb : W.heap.size < W2.heap.size := HBX.out.lt; clear hb2)
              | (go_at_call 63; refine (is_true _ _ _ _ (by omega) (by omega)).mono ?_; rintro e w' ⟨rfl, rfl⟩)
              | (go_at_call 63; refine (is_false _ _ _ _ (by omega)).mono ?_; rintro e w' ⟨rfl, rfl⟩)
              | (at_builtin; refine wpList_append_own _ rfl _ _ 48 rfl w.heap.size 51 i0 _ 3 24 Tryd.underlying48 HI.out.1 HI.out.2.1 HI.out.2.2.1 HI.out.2.2.2 rfl (by decide) _ _ _ rfl ((setBox_owns (a0 := .int .i32 (65536 + 1024 * (u - 55296) + v - 56320)) (a1 := .int .i64 (pos : Int)) (a2 := .int .i64 4) HOW2.out (owns_not_new HOWW.out)).alloc _) _ _ _ (itemCells (65536 + 1024 * (u - 55296) + v - 56320, (pos : Int), 4)) rfl rfl (new_cells_at _ _ _ _ (by simp)) (itemCells_one _) HM.out.1 HM.out.2 (by simp; omega) ?_; intro v' w2 hown' hg' _; have hbx := ((setBox_box HBX.out (.int .i32 (65536 + 1024 * (u - 55296) + v - 56320)) (.int .i64 (pos : Int)) (.int .i64 4)).grown (setBox_owns HOW2.out (owns_not_new HOWW.out)) (owns_not_new HOWW.out) hg').2.2))
            rw [show (65536 + 1024 * (u - 55296) + v - 56320, (pos : Int), (4 : Int)) = U16.itemAt zs big n pos from HEQ.out] at hown'
            have HST := Lib.hid (And.intro hown' (below_grown_alloc (setBox_below HBE2.out (Nat.le_trans hszW (Nat.le_refl _))) (by rw [setBox_size]; omega) hg' (fun g hg => (HOW2.out.lt g hg).1)))
            clear hg' hown'
            go_roundw
            case rel =>
              refine ⟨pos + 4, fuel - 1, acc ++ [U16.itemAt zs big n pos], by go_num, by omega, by rw [itemsCells_snoc, List.length_append]; exact HST.out.1, HST.out.2, ?_, by omega, by simp; omega⟩
              have hpc : (U16.piece zs big n pos).2 = 4 := congrArg (fun x => x.2.2) HIT.out
              rw [← HACC.out, U16.itemsFrom_step zs big n fuel pos hp hfu, hpc]
              simp
            case measure => simp [intOf]; omega
          · have hD' : v < 56320 ∨ 57344 ≤ v := by omega
            clear hD
            have HIT := Lib.hid (show U16.itemAt zs big n pos = (-1, (pos : Int), 2) by
              unfold U16.itemAt U16.piece; rw [← HU.out, ← HV.out, if_neg (by omega), if_neg (by omega), if_neg (by omega)])
            go_wp2_with (first
              | (go_at_call 62; refine HU1.out.mono ?_; rintro e W ⟨rfl, hbW⟩; clear HU1; have HOWW := Lib.hid (owns_below HOW.out hbW); have HBW := Lib.hid (hbl.trans (hbW.mono hsz)); have hszW := HBW.out.size; have HB1 := Lib.hid (HBW.out.alloc hszW (.cells #[.int .i32 (-1), .int .i64 (pos : Int), .int .i64 2] 51)); clear hbW)
              | (go_at_call 62; refine (HU2.out _ HB1.out).mono ?_; rintro e W2 ⟨rfl, hb2⟩; obtain ⟨c0, c1, c2, f0, f1, f2⟩ := (Box.new W (.int .i32 (-1)) (.int .i64 (pos : Int)) (.int .i64 2) 51).below hb2; have HBX := Lib.hid (Box.mk c0 c1 c2 f0 f1 f2); have HOW2 := Lib.hid (owns_below (HOWW.out.alloc _) hb2); have HBE2 := Lib.hid (HB1.out.trans (hb2.mono (by simp; omega))); have hsz2 := HBE2.out.size; have hszb : W.heap.size < W2.heap.size := HBX.out.lt; clear hb2)
              | (go_at_call 63; refine (is_true _ _ _ _ (by omega) (by omega)).mono ?_; rintro e w' ⟨rfl, rfl⟩)
              | (go_at_call 63; refine (is_false _ _ _ _ (by omega)).mono ?_; rintro e w' ⟨rfl, rfl⟩)
              | (at_builtin; refine wpList_append_own _ rfl _ _ 48 rfl w.heap.size 51 i0 _ 3 24 Tryd.underlying48 HI.out.1 HI.out.2.1 HI.out.2.2.1 HI.out.2.2.2 rfl (by decide) _ _ _ rfl (HOW2.out.alloc _) _ _ _ (itemCells (-1, (pos : Int), 2)) rfl rfl (new_cells_at _ _ _ _ (by simp)) (itemCells_one _) HM.out.1 HM.out.2 (by simp; omega) ?_; intro v' w2 hown' hg' _; have hbx := (HBX.out.grown HOW2.out (owns_not_new HOWW.out) hg').2.2))
            rw [← HIT.out] at hown'
            have HST := Lib.hid (And.intro hown' (below_grown_alloc HBE2.out (by omega) hg' (fun g hg => (HOW2.out.lt g hg).1)))
            clear hg' hown'
            go_roundw
            case rel =>
              refine ⟨pos + 2, fuel - 1, acc ++ [U16.itemAt zs big n pos], by go_num, by omega, by rw [itemsCells_snoc, List.length_append]; exact HST.out.1, HST.out.2, ?_, by omega, by simp; omega⟩
              have hpc : (U16.piece zs big n pos).2 = 2 := congrArg (fun x => x.2.2) HIT.out
              rw [← HACC.out, U16.itemsFrom_step zs big n fuel pos hp hfu, hpc]
              simp
            case measure => simp [intOf]; omega
        · have HIT := Lib.hid (show U16.itemAt zs big n pos = (-1, (pos : Int), 2) by
            unfold U16.itemAt U16.piece; rw [← HU.out, if_neg (by omega), if_neg (by omega), if_neg (by omega)])
          go_wp2_with (first
            | (go_at_call 62; refine HU1.out.mono ?_; rintro e W ⟨rfl, hbW⟩; clear HU1; have HOWW := Lib.hid (owns_below HOW.out hbW); have HBW := Lib.hid (hbl.trans (hbW.mono hsz)); have hszW := HBW.out.size; clear hbW)
            | (go_at_call 63; refine (is_true _ _ _ _ (by omega) (by omega)).mono ?_; rintro e w' ⟨rfl, rfl⟩)
            | (go_at_call 63; refine (is_false _ _ _ _ (by omega)).mono ?_; rintro e w' ⟨rfl, rfl⟩)
            | (at_builtin; refine wpList_append_own _ rfl _ _ 48 rfl w.heap.size 51 i0 _ 3 24 Tryd.underlying48 HI.out.1 HI.out.2.1 HI.out.2.2.1 HI.out.2.2.2 rfl (by decide) _ _ _ rfl ((HOWW.out.alloc _).alloc _) _ _ _ (itemCells (-1, (pos : Int), 2)) rfl rfl (new_cells_at _ _ _ _ (by simp)) (itemCells_one _) HM.out.1 HM.out.2 (by simp; omega) ?_; intro v' w2 hown' hg' _; have hbx := (box_three hg' HOWW.out).2.2))
          rw [← HIT.out] at hown'
          have HST := Lib.hid (And.intro hown' (below_box HBW.out hszW hg' HOWW.out (Nat.le_refl _)))
          clear hg' hown'
          go_roundw
          case rel =>
            refine ⟨pos + 2, fuel - 1, acc ++ [U16.itemAt zs big n pos], by go_num, by omega, by rw [itemsCells_snoc, List.length_append]; exact HST.out.1, HST.out.2, ?_, by omega, by simp; omega⟩
            have hpc : (U16.piece zs big n pos).2 = 2 := congrArg (fun x => x.2.2) HIT.out
            rw [← HACC.out, U16.itemsFrom_step zs big n fuel pos hp hfu, hpc]
            simp
          case measure => simp [intOf]; omega
    · obtain rfl : pos = n := by omega
      have HACC := Lib.hid hacc
      clear hacc hp
      go_wp2
      go_ret
      have hacc := HACC.out
      rw [U16.itemsFrom_end zs big pos fuel pos (by omega), List.append_nil] at hacc
      subst hacc
      exact ⟨_, rfl, hown, hbl⟩

end Go.Proofs.YtmibajofbagphaaDoor
