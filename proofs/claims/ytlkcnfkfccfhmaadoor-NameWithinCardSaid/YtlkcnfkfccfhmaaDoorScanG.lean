/-
  Contract: the reference's Items of layer 1; and when a text is valid.
-/
import Derived.Test.YtlkcnfkfccfhmaaDoorScanF
import Derived.Test.YtlkcnfkfccfhmaaDoorRefI
import Derived.Lib.ValidAsc
import Derived.Lib.ValidLaws
namespace Go.Proofs.YtlkcnfkfccfhmaaDoor
open Go.RowKit

theorem Bys.drop {l : List Int} (h : Bys l) (k : Nat) : Bys (l.drop k) := fun z hz => h z (List.mem_of_mem_drop hz)

theorem nums_drop {zs : List Int} (hb : Bys zs) (k : Nat) : U8.nums ((strOfNums zs).data.toList.drop k) = zs.drop k := by
  have := nums_str hb
  unfold U8.nums at this ⊢
  rw [List.map_drop, this]

set_option maxHeartbeats 2000000 in
theorem refItems_any (a : Option Addr) (n cap : Nat) (zs : List Int) (w : World) (hn : zs.length = n) (hc : n ≤ cap) (hm : cap ≤ maxLen) (hbig : n ≤ 1099511627776) (hb : Bys zs) (hat : AtCells w a (zs.map (.int .u8))) :
    Calls Tryd.prog 38 #[.slice a n cap] w (OwnRefItems w (itemsOf (strOfNums zs))) := by
  obtain ⟨i0, hi, hz0, hz1, hz2⟩ := info_parts Tryd.infoRefItem
  have hsize : (strOfNums zs).size = n := by rw [strOfNums_size, hn]
  have HI := Lib.hid (And.intro hi (And.intro hz0 (And.intro hz1 hz2)))
  have HY := Lib.hid (And.intro hat (And.intro hb (And.intro hn (And.intro hsize hm))))
  unfold maxLen at hm
  clear hat hb hn hi hz0 hz1 hz2 hsize
  go_enter Tryd.func38, Tryd.ntmps38
  go_wp2
  go_loopw [3, 4] (fun v o wr => ∃ (pos fuel : Nat) (acc : List (Int × Int × Int)), o = .int .i64 pos ∧ pos ≤ n ∧ wr.ownsRow w.heap.size 46 3 v acc.length (itemsCells acc) ∧ Below w.heap.size w wr ∧ acc ++ itemsFrom (strOfNums zs) fuel pos = itemsOf (strOfNums zs) ∧ n ≤ pos + fuel ∧ acc.length ≤ pos)
    (fun _ o _ => n - (intOf o).toNat)
  case atStart => exact ⟨0, (strOfNums zs).size, [], rfl, Nat.zero_le _, World.ownsRow_nil _ _ _ _, Below.refl _ _, rfl, by rw [HY.out.2.2.2.1]; omega, by simp⟩
  case round =>
    obtain ⟨pos, fuel, acc, rfl, hpn, hown, hbl, hacc, hfu, hal⟩ := hrel
    by_cases hp : pos < n
    · obtain ⟨b, off, rfl, _⟩ := HY.out.1.int (k := pos) (by rw [HY.out.2.2.1]; exact hp)
      have hps : pos < (strOfNums zs).size := by rw [HY.out.2.2.2.1]; exact hp
      obtain ⟨hpc, hk⟩ := itemAt_piece (strOfNums zs) pos hps
      rw [nums_drop HY.out.2.1] at hpc
      have hg := good_itemAt (strOfNums zs) pos hps
      have ho : (itemAt (strOfNums zs) pos).2.1 = (pos : Int) := rfl
      have hwd := Lib.decode_width_pos (strOfNums zs) pos hps
      obtain ⟨x, hx⟩ : ∃ x, x = itemAt (strOfNums zs) pos := ⟨_, rfl⟩
      rw [← hx] at hpc hk hg ho
      have hq1 := hg.one
      have hq4 := hg.fits
      rw [HY.out.2.2.2.1] at hq4
      obtain ⟨r, o, q⟩ := x
      simp only at ho hpc hk hq1 hq4
      subst ho
      have hat2 : AtCells w (some ⟨b, off + pos, none⟩) ((zs.drop pos).map (.int .u8)) := by rw [List.map_drop]; exact HY.out.1.drop pos
      have HF := Lib.hid (refFirst_any b (off + pos) (n - pos) (cap - pos) (zs.drop pos) r q wr (by rw [List.length_drop, HY.out.2.2.1]) (by omega) (by omega) (by have := HY.out.2.2.2.2; unfold maxLen at this ⊢; omega) (HY.out.2.1.drop pos) (hat2.below hbl) hpc)
      have h63 : acc.length + 1 ≤ maxLen := by unfold maxLen; omega
      have h47 : (acc.length + 1) * 24 ≤ 140737488355328 := by omega
      have HM := Lib.hid (And.intro h63 h47)
      have HACC := Lib.hid hacc
      have HOW := Lib.hid hown
      have HX := Lib.hid hx
      have HK := Lib.hid hk
      have hsz := hbl.size
      have hcp : ¬ cap = pos := by omega
      clear hpc hk hg hx hat2 h63 h47 hacc hown hwd hps
      go_wp2_with (first
        | (go_at_call 45; refine HF.out.mono ?_; rintro e W ⟨rfl, hbW⟩; clear HF; have HOWW := Lib.hid (owns_below HOW.out hbW); have HBW := Lib.hid (hbl.trans (hbW.mono hsz)); have hszW := HBW.out.size; clear hbW)
        | (at_builtin; refine wpList_append_own _ rfl _ _ 43 rfl w.heap.size 46 i0 _ 3 24 Tryd.underlying43 HI.out.1 HI.out.2.1 HI.out.2.2.1 HI.out.2.2.2 rfl (by decide) _ _ _ rfl (HOWW.out.alloc _) _ _ _ (itemCells (r, (pos : Int), q)) rfl rfl (new_cells _ _ _) (itemCells_one _) HM.out.1 HM.out.2 (Nat.le_trans hszW (by simp)) ?_; intro v' w2 hown' hg' _))
      have HST := Lib.hid (And.intro hown' (below_grown_alloc HBW.out hszW hg' (fun g hg => (HOWW.out.lt g hg).1)))
      clear hg' hown'
      go_roundw
      case rel =>
        refine ⟨pos + (Utf8.decode (strOfNums zs) pos).2, fuel - 1, acc ++ [(r, (pos : Int), q)], by rw [HK.out]; go_num, by have := HK.out; omega, by rw [itemsCells_snoc, List.length_append]; exact HST.out.1, HST.out.2, ?_, by have := HK.out; omega, by have := HK.out; simp; omega⟩
        rw [← HACC.out]
        obtain ⟨f, rfl⟩ : ∃ f, fuel = f + 1 := ⟨fuel - 1, by omega⟩
        have hps : pos < (strOfNums zs).size := by rw [HY.out.2.2.2.1]; exact hp
        simp [itemsFrom, hps, HX.out]
      case measure => simp [intOf]; omega
    · have HACC := Lib.hid hacc
      clear hacc
      go_wp2
      go_ret
      have hacc := HACC.out
      rw [itemsFrom_end (strOfNums zs) fuel pos (by rw [HY.out.2.2.2.1]; exact hp), List.append_nil] at hacc
      subst hacc
      exact ⟨_, rfl, hown, hbl⟩

end Go.Proofs.YtlkcnfkfccfhmaaDoor
