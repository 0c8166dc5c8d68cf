/-
  SniffDecodes: for all bytes it returns true.
-/
import Derived.Test.YtmibajofbagphaaDoorSnE
import Derived.Test.YtmibajofbagphaaDoorSnD
import Derived.Test.YtmibajofbagphaaDoorCut3
import Derived.Deep.QuietTactic
import Derived.BigQuiet
namespace Go.Proofs.YtmibajofbagphaaDoor
open Go.RowKit

theorem offs_length (zs : List Int) : (offsOf zs).length = (runesOf zs).length + 1 := by unfold offsOf runesOf; simp
theorem offs_last (zs : List Int) : (offsOf zs).getD (runesOf zs).length 0 = (zs.length : Int) := by
  unfold offsOf runesOf
  rw [List.getD_eq_getElem?_getD, List.getElem?_append_right (by simp)]
  simp
theorem runes_le (zs : List Int) : (runesOf zs).length ≤ zs.length := by
  obtain ⟨hk, h0, h3, hn⟩ := kindOf_cases zs
  have := (pieces_spec hk (zs.drop (kindOf zs).2.toNat)).1
  unfold runesOf
  rw [List.length_map]
  rw [List.length_drop] at this
  omega

/-- A block that was just made, later on. -/
theorem box_in {w w' : World} {cs : List Value} {e : TypeId} (hb : Below (w.heap.size + 1) (w.alloc (.cells cs.toArray e)) w') (j : Nat) (u : Value) (h : cs[j]? = some u) : w'.cell? ⟨w.heap.size, j, none⟩ = some u := by
  rw [hb.cell (p := ⟨w.heap.size, j, none⟩) (by simp)]
  have := new_cells w cs e j u h
  by_cases h0 : j = 0
  · subst h0; simpa [Addr.add] using this
  · simpa [Addr.add, h0] using this

set_option maxRecDepth 100000 in
set_option maxHeartbeats 4000000 in
theorem sniffDecodes_walk (a : Option Addr) (n cap : Nat) (zs : List Int) (w : World) (hs : Signs w) (hn : zs.length = n) (hc : n ≤ cap) (hm : cap ≤ maxLen) (hb : Bys zs) (hat : AtCells w a (zs.map (.int .u8))) :
    Calls Tryd.prog 3 #[.slice a n cap] w fun e w' => e = .returned (.bool true) ∧ Below w.heap.size w w' := by
  obtain ⟨m, hmm⟩ : ∃ m, m = min n 200 := ⟨_, rfl⟩
  have hm200 : m ≤ 200 := by omega
  have hat' := hat.take m
  rw [← List.map_take] at hat'
  have hn' : (zs.take m).length = m := by simp; omega
  have hb' := hb.take m
  have hmc : m ≤ cap := by omega
  generalize zs.take m = ys at hat' hn' hb'
  have HF := Lib.hid (short_any a n cap w hc hm)
  rw [← hmm] at HF
  have H1 := Lib.hid (decode_any a m cap ys w hs hn' hmc hm (by omega) hb' hat')
  have H2 := Lib.hid (fun W (hW : Below w.heap.size w W) => refDecode_any a m cap ys W hn' hmc hm (by omega) hb' (hat'.below hW))
  have H3 := Lib.hid (fun W (hW : Below w.heap.size w W) => kind_any a m cap ys W (hs.below hW) hn' hmc (hat'.below hW))
  have HAW := Lib.hid (fun W (hW : Below w.heap.size w W) => sawake_at hs hW)
  have hl := offs_length ys
  have hlast := offs_last ys
  have hrl := runes_le ys
  rw [hn'] at hlast hrl
  generalize (kindOf ys).1 = kd at H1 H2 H3
  generalize (kindOf ys).2 = bom at H1 H2 H3
  generalize runesOf ys = rs at H1 H2 hl hlast hrl
  generalize offsOf ys = os at H1 H2 hl hlast
  have HLAST := Lib.hid hlast
  obtain ⟨q, hq⟩ : ∃ q, q = rs.length := ⟨_, rfl⟩
  rw [← hq] at hl hrl HLAST
  have HQ := Lib.hid hq
  have HL := Lib.hid hl
  clear hat' hn' hb' hat hn hmm hm hc hb hs hl hlast hq
  go_enter Tryd.func3, Tryd.ntmps3
  go_wp2_with fail
  refine HF.out.mono ?_
  rintro e w' ⟨rfl, rfl⟩
  go_wp2_with fail
  refine H1.out.mono ?_
  rintro e w1 ⟨r1, o1, rfl, hr1, ho1, hb1⟩
  rw [← HQ.out] at hr1
  rw [HL.out] at ho1
  obtain ⟨ar1, cr1, rfl, _⟩ := owns_slice hr1
  obtain ⟨ao1, co1, rfl, _⟩ := owns_slice ho1
  have HB1 := Lib.hid hb1
  have HR1 := Lib.hid (AtCells.of_owns hr1)
  have HO1 := Lib.hid (AtCells.of_owns ho1)
  clear hb1 hr1 ho1
  go_wp2_with fail
  refine (H2.out _ HB1.out).mono ?_
  rintro e w2 ⟨r2, o2, rfl, hr2, ho2, hb2⟩
  rw [← HQ.out] at hr2
  rw [HL.out] at ho2
  obtain ⟨ar2, cr2, rfl, _⟩ := owns_slice hr2
  obtain ⟨ao2, co2, rfl, _⟩ := owns_slice ho2
  have HB2 := Lib.hid (HB1.out.trans (hb2.mono HB1.out.size))
  have HAT := Lib.hid (And.intro (HR1.out.below hb2) (And.intro (HO1.out.below hb2) (And.intro (AtCells.of_owns hr2) (AtCells.of_owns ho2))))
  clear hb2 hr2 ho2 HR1 HO1 HB1
  go_wp2_with fail
  have HB3 := Lib.hid ((HB2.out.alloc HB2.out.size (.cells #[.int .i64 kd, .int .i64 bom, .slice ar1 q cr1, .slice ao1 (q + 1) co1] 27)).alloc (by have := HB2.out.size; simp; omega) (.cells #[.int .i64 kd, .int .i64 bom, .slice ar2 q cr2, .slice ao2 (q + 1) co2] 29))
  refine (H3.out _ HB3.out).mono ?_
  rintro e w4 ⟨rfl, hb4⟩
  have hbA : Below (w2.heap.size + 1) (w2.alloc (.cells #[.int .i64 kd, .int .i64 bom, .slice ar1 q cr1, .slice ao1 (q + 1) co1] 27)) w4 :=
    ((Below.refl _ _).alloc (by simp) _).trans (hb4.mono (by simp))
  have hbB : Below ((w2.alloc (.cells #[.int .i64 kd, .int .i64 bom, .slice ar1 q cr1, .slice ao1 (q + 1) co1] 27)).heap.size + 1) ((w2.alloc (.cells #[.int .i64 kd, .int .i64 bom, .slice ar1 q cr1, .slice ao1 (q + 1) co1] 27)).alloc (.cells #[.int .i64 kd, .int .i64 bom, .slice ar2 q cr2, .slice ao2 (q + 1) co2] 29)) w4 := by simpa using hb4
  have HBA := Lib.hid (fun j u h => box_in (cs := [.int .i64 kd, .int .i64 bom, .slice ar1 q cr1, .slice ao1 (q + 1) co1]) hbA j u h)
  have HBB := Lib.hid (show ∀ (j : Nat) u, [Value.int .i64 kd, .int .i64 bom, .slice ar2 q cr2, .slice ao2 (q + 1) co2][j]? = some u → w4.cell? ⟨w2.heap.size + 1, j, none⟩ = some u from fun j u h => by
    have := box_in (cs := [.int .i64 kd, .int .i64 bom, .slice ar2 q cr2, .slice ao2 (q + 1) co2]) hbB j u h
    simpa using this)
  have HB4 := Lib.hid (HB3.out.trans (hb4.mono HB3.out.size))
  have HW4 := Lib.hid (show Below w2.heap.size w2 w4 from ((Below.refl _ _).alloc (Nat.le_refl _) _).trans (hbA.mono (by omega)))
  have p0 := HBA.out 0 _ rfl
  have p1 := HBA.out 1 _ rfl
  have p2 := HBA.out 2 _ rfl
  have p3 := HBA.out 3 _ rfl
  have q0 := HBB.out 0 _ rfl
  have q1 := HBB.out 1 _ rfl
  have q2 := HBB.out 2 _ rfl
  have q3 := HBB.out 3 _ rfl
  have hsz4 : w2.heap.size + 1 < w4.heap.size := cell_lt q0
  clear hb4 hbA hbB HB2 HB3
  go_wp2_with fail
  go_loopw [65] (fun i wr => ∃ k : Nat, k ≤ q ∧ i = .int .i64 k ∧ Below w4.heap.size w4 wr) (fun i _ => q - (intOf i).toNat)
  case atStart => exact ⟨0, Nat.zero_le _, rfl, Below.refl _ _⟩
  case round =>
    obtain ⟨k, hk, rfl, hbl⟩ := hrel
    have HBL := Lib.hid hbl
    have p2' := (hbl.cell (p := ⟨w2.heap.size, 2, none⟩) (show w2.heap.size < w4.heap.size by omega)).trans p2
    have p3' := (hbl.cell (p := ⟨w2.heap.size, 3, none⟩) (show w2.heap.size < w4.heap.size by omega)).trans p3
    have q3' := (hbl.cell (p := ⟨w2.heap.size + 1, 3, none⟩) hsz4).trans q3
    have HK := Lib.hid (HW4.out.trans (hbl.mono HW4.out.size))
    clear p0 p1 p2 p3 q0 q1 q2 q3 hbl
    by_cases hlt : k < q
    · obtain ⟨b1, f1, rfl, c1⟩ := (HAT.out.1.below HK.out).int (k := k) (by rw [← HQ.out]; exact hlt)
      obtain ⟨b2, f2, rfl, c2⟩ := (HAT.out.2.1.below HK.out).int (k := k) (by rw [HL.out]; omega)
      obtain ⟨b3, f3, rfl, c3⟩ := (HAT.out.2.2.1.below HK.out).int (k := k) (by rw [← HQ.out]; exact hlt)
      obtain ⟨b4, f4, rfl, c4⟩ := (HAT.out.2.2.2.below HK.out).int (k := k) (by rw [HL.out]; omega)
      obtain ⟨zr, hzr⟩ : ∃ zr, zr = rs.getD k 0 := ⟨_, rfl⟩
      obtain ⟨zo, hzo⟩ : ∃ zo, zo = os.getD k 0 := ⟨_, rfl⟩
      rw [← hzr] at c1 c3
      rw [← hzo] at c2 c4
      have hki : (k : Int) < (q : Int) := by omega
      have hki' : (k : Int) < (q : Int) + 1 := by omega
      have hkn : k < q + 1 := by omega
      clear hzr hzo
      go_wp2_with fail
      go_quiet (fail)
      go_wp2
      go_roundw
      case rel => exact ⟨k + 1, by omega, by go_num, bdr HBL.out _⟩
      case measure => simp [intOf]; omega
    · obtain rfl : k = q := by omega
      obtain ⟨b2, f2, rfl, c2⟩ := (HAT.out.2.1.below HK.out).int (k := k) (by rw [HL.out]; omega)
      rw [HLAST.out] at c2
      have HBW := Lib.hid (HB4.out.trans (HBL.out.mono HB4.out.size))
      have hkn : k < k + 1 := by omega
      clear hlt
      go_wp2_with (go_at_call 15; refine (HAW.out _ HBW.out).mono ?_; rintro e w3 ⟨rfl, hb3⟩)
      go_ret
      exact ⟨rfl, HBW.out.trans (hb3.mono HBW.out.size)⟩

end Go.Proofs.YtmibajofbagphaaDoor
