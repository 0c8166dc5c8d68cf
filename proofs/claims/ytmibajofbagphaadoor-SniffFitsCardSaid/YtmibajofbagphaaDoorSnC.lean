/-
  Contract: Decode of layer 3.
-/
import Derived.Test.YtmibajofbagphaaDoorSnT
import Derived.Deep.DeepCutAuto
import Derived.RegionTactic
import Derived.Deep.Onto
namespace Go.Proofs.YtmibajofbagphaaDoor
open Go.RowKit

set_option maxRecDepth 100000 in
set_option maxHeartbeats 2000000 in
theorem decode_any (a : Option Addr) (n cap : Nat) (zs : List Int) (w : World) (hs : Signs w) (hn : zs.length = n) (hc : n ≤ cap) (hm : cap ≤ maxLen) (hbig : n ≤ 1099511627776) (hb : Bys zs) (hat : AtCells w a (zs.map (.int .u8))) :
    Calls Tryd.prog 12 #[.slice a n cap] w (OwnText w (kindOf zs).1 (kindOf zs).2 (runesOf zs) (offsOf zs)) := by
  obtain ⟨hk, hm0, hm3, hmn⟩ := kindOf_cases zs
  rw [hn] at hmn
  obtain ⟨m, hmm⟩ : ∃ m : Nat, (kindOf zs).2 = (m : Int) := ⟨(kindOf zs).2.toNat, by omega⟩
  have hR : runesOf zs = (piecesOf (kindOf zs).1 (zs.drop m)).map (·.1) := by unfold runesOf; rw [hmm, Int.toNat_natCast]
  have hO : offsOf zs = (piecesOf (kindOf zs).1 (zs.drop m)).map (fun x => (m : Int) + x.2.1) ++ [(n : Int)] := by unfold offsOf; rw [hmm, Int.toNat_natCast, hn]
  have hK : ∀ W, Below w.heap.size w W → Calls Tryd.prog 14 #[.slice a n cap] W fun e w' => e = .returned (.tuple #[.int .i64 (kindOf zs).1, .int .i64 (m : Int)]) ∧ Below W.heap.size W w' := fun W hW => by
    have := kind_any a n cap zs W (hs.below hW) hn hc (hat.below hW)
    rwa [hmm] at this
  rw [hR, hO, hmm]
  have hmn' : m ≤ n := by omega
  obtain ⟨kd, hkd⟩ : ∃ kd, kd = (kindOf zs).1 := ⟨_, rfl⟩
  rw [← hkd] at hK ⊢
  have hP : ∀ W, Below w.heap.size w W → Calls Tryd.prog 27 #[.int .i64 kd, .slice (if cap = m then a else Option.map (fun x => x.add m) a) (n - m) (cap - m)] W (OwnItems W (piecesOf kd (zs.drop m))) := fun W hW =>
    pieces_any kd _ (n - m) (cap - m) (zs.drop m) W (by rw [List.length_drop, hn]) (by omega) (by omega) (hb.drop m) (at_sliced (hat.below hW) m cap (by omega))
  have hps := pieces_spec (kd := kd) (by rw [hkd]; exact hk) (zs.drop m)
  have hlen : (piecesOf kd (zs.drop m)).length ≤ n := by have := hps.1; rw [List.length_drop] at this; omega
  have hit : ∀ (k : Nat) (x : Int × Int × Int), (piecesOf kd (zs.drop m))[k]? = some x → 0 ≤ x.2.1 ∧ x.2.1 ≤ 1099511627776 := fun k x hx => by have := (hps.2.2 k x hx).1; rw [List.length_drop] at this; omega
  generalize piecesOf kd (zs.drop m) = l at hP hlen hit ⊢
  have HIT := Lib.hid hit
  clear hps hit
  have HK := Lib.hid hK
  have HP := Lib.hid hP
  unfold maxLen at hm
  clear hK hP hR hO hkd hk hmm hm0 hm3 hmn hs hn hb hat
  have hb0 := Below.refl w.heap.size w
  have hL : l.length ≤ 1099511627776 := by omega
  have HML0 := Lib.hid (show l.length + 1 ≤ maxLen by unfold maxLen; omega)
  have hmk1 : ∀ wx : World, (Instr.makeSlice 24 (.int .i64 (l.length : Int)) (.int .i64 (l.length : Int))).run Tryd.prog wx = .ok (.slice (some ⟨wx.heap.size, 0, none⟩) l.length l.length) (wx.alloc (.cells (madeCells #[.int .i32 0] l.length) 21)) := fun wx => by
    obtain ⟨i0, hi, hz0, hz1, hz2⟩ := info_parts Tryd.infoI32
    have := run_make (P := Tryd.prog) wx 24 21 i0 (.int .i32 0) Tryd.underlying24 hi hz0 .i64 .i64 (l.length : Int) (l.length : Int) (by omega) (Int.le_refl _) (by rw [hz2]; omega) (by omega)
    rw [this, hz1, Int.toNat_natCast, Nat.mul_one]; rfl
  have hmk2 : ∀ wx : World, (Instr.makeSlice 25 (.int .i64 ((l.length : Int) + 1)) (.int .i64 ((l.length : Int) + 1))).run Tryd.prog wx = .ok (.slice (some ⟨wx.heap.size, 0, none⟩) (l.length + 1) (l.length + 1)) (wx.alloc (.cells (madeCells #[.int .i64 0] (l.length + 1)) 3)) := fun wx => by
    obtain ⟨i0, hi, hz0, hz1, hz2⟩ := info_parts Tryd.infoInt
    have := run_make (P := Tryd.prog) wx 25 3 i0 (.int .i64 0) Tryd.underlying25 hi hz0 .i64 .i64 ((l.length : Int) + 1) ((l.length : Int) + 1) (by omega) (Int.le_refl _) (by rw [hz2]; omega) (by omega)
    rw [this, hz1, show ((l.length : Int) + 1).toNat = l.length + 1 by omega, Nat.mul_one]; rfl
  have HP2 : Hid (∀ W, Below w.heap.size w W → Calls Tryd.prog 27 #[.int .i64 kd, .slice (if cap = m then a else Option.map (fun x => x.add m) a) (n - m) (cap - m)] W (OwnItems W l)) := HP
  clear HP
  obtain ⟨q, hq⟩ : ∃ q, q = l.length := ⟨_, rfl⟩
  have HML := Lib.hid (show q + 1 ≤ maxLen by rw [hq]; exact HML0.out)
  rw [← hq] at hmk1 hmk2 hL hlen
  have HQ := Lib.hid hq
  clear hq HML0
  go_enter Tryd.func12, Tryd.ntmps12
  go_wp2_with fail
  refine (HK.out _ ((Below.refl _ _).alloc (Nat.le_refl _) _)).mono ?_
  rintro e w1 ⟨rfl, hb1⟩
  have HB1 := Lib.hid (((Below.refl w.heap.size w).alloc (Nat.le_refl _) (Obj.cells #[.int .i64 0, .int .i64 0, .slice none 0 0, .slice none 0 0] 27)).trans (hb1.mono (by simp)))
  have HC1 := Lib.hid hb1
  clear hb1 HK
  go_upto_region 2 with fail
  go_cut [5] (fun s5 wx => ∃ ai ci, s5 = .slice ai q ci ∧ wx.ownsRow w1.heap.size 52 3 (.slice ai q ci) q (itemsCells l) ∧ Below w1.heap.size w1 wx)
  case first =>
    by_cases hcm : cap = m
    · have HPa : Hid (∀ W, Below w.heap.size w W → Calls Tryd.prog 27 #[.int .i64 kd, .slice a (n - m) (cap - m)] W (OwnItems W l)) := Lib.hid (fun W hW => by have := HP2.out W hW; rwa [if_pos hcm] at this)
      clear HP2
      obtain rfl : cap = n := by omega
      obtain rfl : m = cap := by omega
      clear hcm
      rw [Nat.sub_self] at HPa
      go_wp2_with fail
      refine (HPa.out _ HB1.out).mono ?_
      rintro e w2 ⟨v, rfl, hown, hb2⟩
      rw [← HQ.out] at hown
      obtain ⟨ai, ci, rfl, hci⟩ := owns_slice hown
      go_wp2_with fail
      go_meet
      exact ⟨_, _, rfl, hown, hb2⟩
    · have HPa : Hid (∀ W, Below w.heap.size w W → Calls Tryd.prog 27 #[.int .i64 kd, .slice (Option.map (fun x => x.add m) a) (n - m) (cap - m)] W (OwnItems W l)) := Lib.hid (fun W hW => by have := HP2.out W hW; rwa [if_neg hcm] at this)
      clear HP2
      go_wp2_with fail
      refine (HPa.out _ HB1.out).mono ?_
      rintro e w2 ⟨v, rfl, hown, hb2⟩
      rw [← HQ.out] at hown
      obtain ⟨ai, ci, rfl, hci⟩ := owns_slice hown
      go_wp2_with fail
      go_meet
      exact ⟨_, _, rfl, hown, hb2⟩
  case rest =>
    obtain ⟨ai, ci, rfl, hown, hb2⟩ := hcut
    have HOWN := Lib.hid hown
    have HB2 := Lib.hid hb2
    obtain ⟨w2, hw2⟩ : ∃ w2, w2 = wc := ⟨_, rfl⟩
    rw [← hw2] at HOWN HB2 ⊢
    clear hown hb2 HP2 hw2
    go_upto_region 3 with fail
    go_cut [6] (fun s6 wx => ∃ p g1 g2 : Nat, s6 = .pointer (some ⟨p, 0, none⟩) ∧ TB w2 wx p g1 g2 q kd m (List.replicate q 0) (List.replicate (q + 1) 0))
    case first =>
      go_region
      all_goals
        go_wp2_with fail
        go_meet
        first
          | (with_reducible exact ⟨_, _, _, rfl, tb_rob _ _ _ _ HML.out⟩)
          | (with_reducible exact ⟨_, _, _, rfl, tb_rbo _ _ _ _ HML.out⟩)
          | (with_reducible exact ⟨_, _, _, rfl, tb_orb _ _ _ _ HML.out⟩)
          | (with_reducible exact ⟨_, _, _, rfl, tb_obr _ _ _ _ HML.out⟩)
          | (with_reducible exact ⟨_, _, _, rfl, tb_bro _ _ _ _ HML.out⟩)
          | (with_reducible exact ⟨_, _, _, rfl, tb_bor _ _ _ _ HML.out⟩)
    case rest =>
      obtain ⟨p, g1, g2, rfl, hT⟩ := hcut
      obtain ⟨w3, hw3⟩ : ∃ w3, w3 = wc := ⟨_, rfl⟩
      rw [← hw3] at hT ⊢
      clear hw3 hmk1 hmk2
      have HAT := Lib.hid (AtCells.of_owns HOWN.out)
      have HT0 := Lib.hid hT
      clear hT
      go_wp2_with fail
      go_loopw [31] (fun i wr => ∃ k : Nat, k ≤ q ∧ i = .int .i64 k ∧ TB w2 wr p g1 g2 q kd m (upTo (l.map (·.1)) q k) (upTo (l.map fun x => (m : Int) + x.2.1) (q + 1) k)) (fun i _ => q - (intOf i).toNat)
      case atStart => exact ⟨0, Nat.zero_le _, rfl, by rw [upTo_zero, upTo_zero]; exact HT0.out⟩
      case round =>
        obtain ⟨k, hk, rfl, hT⟩ := hrel
        by_cases hlt : k < q
        · obtain ⟨x, hx⟩ : ∃ x, l[k]? = some x := ⟨_, List.getElem?_eq_getElem (by rw [← HQ.out]; exact hlt)⟩
          obtain ⟨b, off, rfl, c0, c1, c2⟩ := item_cells (HAT.out.below hT.below) hx
          obtain ⟨ho0, ho1⟩ := HIT.out k x hx
          obtain ⟨r, o, nn⟩ := x
          simp only at c0 c1 c2 ho0 ho1
          have HX := Lib.hid hx
          have HT := Lib.hid hT
          clear hx hT
          go_wp2_with fail
          have hlt2 := HT.out.lt
          have HN := Lib.hid (HT.out.next ((Below.refl wr.heap.size wr).alloc (Nat.le_refl _) (.cells #[.int .i32 r, .int .i64 o, .int .i64 nn] 52)))
          have x0 : (wr.alloc (.cells #[.int .i32 r, .int .i64 o, .int .i64 nn] 52)).cell? ⟨wr.heap.size, 0, none⟩ = some (.int .i32 r) := by simp
          have x1 : (wr.alloc (.cells #[.int .i32 r, .int .i64 o, .int .i64 nn] 52)).cell? ⟨wr.heap.size, 1, none⟩ = some (.int .i64 o) := by simp
          obtain ⟨W, hW⟩ : ∃ W, W = wr.alloc (.cells #[.int .i32 r, .int .i64 o, .int .i64 nn] 52) := ⟨_, rfl⟩
          rw [← hW] at HN x0 x1 ⊢
          have n1 : ¬ wr.heap.size = g1 := by omega
          have n2 : ¬ wr.heap.size = g2 := by omega
          generalize wr.heap.size = B at x0 x1 n1 n2 ⊢
          have n3 : ¬ p = g1 := HN.out.n1
          have n4 : ¬ p = g2 := HN.out.n2
          have n5 : ¬ g1 = g2 := HN.out.n12
          have n6 : ¬ g2 = g1 := fun h => n5 h.symm
          have t2 := HN.out.c2
          have t3 := HN.out.c3
          obtain ⟨r0, rf⟩ := HN.out.rcell hlt
          obtain ⟨o0, of⟩ := HN.out.ocell (k := k) (by omega)
          have hkq : k < q + 1 := by omega
          clear hW hlt2 c0 c1 c2
          go_region
          all_goals
            go_wp2
            go_roundw
            case rel =>
              have hl1 : k < (l.map (·.1)).length := by rw [List.length_map, ← HQ.out]; exact hlt
              have hl2 : k < (l.map fun x => (m : Int) + x.2.1).length := by rw [List.length_map, ← HQ.out]; exact hlt
              have e1 := upTo_set (l := l.map (·.1)) (n := q) hl1 (by rw [List.length_map, HQ.out]; exact Nat.le_refl _)
              have e2 := upTo_set (l := l.map fun x => (m : Int) + x.2.1) (n := q + 1) hl2 (by rw [List.length_map, HQ.out]; omega)
              have g1' : (l.map (·.1)).getD k 0 = r := by simp [HX.out]
              have g2' : (l.map fun x => (m : Int) + x.2.1).getD k 0 = (m : Int) + o := by simp [HX.out]
              rw [g1'] at e1
              rw [g2'] at e2
              refine ⟨k + 1, by omega, by go_num, ?_⟩
              rw [← e1, ← e2]
              exact ((HN.out.setR k r).setO k _).next (Below.refl _ _).drew
            case measure => simp [intOf]; omega
        · obtain rfl : k = q := by omega
          have hl1 : (l.map (·.1)).length = k := by rw [List.length_map, HQ.out]
          have hl2 : (l.map fun x => (m : Int) + x.2.1).length = k := by rw [List.length_map, HQ.out]
          rw [upTo_full hl1] at hT
          have HL := Lib.hid (upTo_last hl2 (n : Int))
          have BT : Below (w.alloc (.cells #[.int .i64 0, .int .i64 0, .slice none 0 0, .slice none 0 0] 27)).heap.size (w.alloc (.cells #[.int .i64 0, .int .i64 0, .slice none 0 0, .slice none 0 0] 27)) wr :=
            (HC1.out.trans (HB2.out.mono HC1.out.size)).trans (hT.below.mono (Nat.le_trans HC1.out.size HB2.out.size))
          have y0 := (BT.cell (p := ⟨w.heap.size, 0, none⟩) (by simp)).trans (show _ = some (.int .i64 0) by simp)
          have y1 := (BT.cell (p := ⟨w.heap.size, 1, none⟩) (by simp)).trans (show _ = some (.int .i64 0) by simp)
          have y2 := (BT.cell (p := ⟨w.heap.size, 2, none⟩) (by simp)).trans (show _ = some (.slice none 0 0) by simp)
          have y3 := (BT.cell (p := ⟨w.heap.size, 3, none⟩) (by simp)).trans (show _ = some (.slice none 0 0) by simp)
          have z0 := (BT.frozen (p := ⟨w.heap.size, 0, none⟩) (by simp)).trans (show _ = false by simp)
          have z1 := (BT.frozen (p := ⟨w.heap.size, 1, none⟩) (by simp)).trans (show _ = false by simp)
          have z2 := (BT.frozen (p := ⟨w.heap.size, 2, none⟩) (by simp)).trans (show _ = false by simp)
          have z3 := (BT.frozen (p := ⟨w.heap.size, 3, none⟩) (by simp)).trans (show _ = false by simp)
          have hsz : w.heap.size < w2.heap.size := by have := HC1.out.size; have := HB2.out.size; simp at *; omega
          have HFB := Lib.hid ((HB1.out.trans (HB2.out.mono HB1.out.size)).trans (hT.below.mono (Nat.le_trans HB1.out.size HB2.out.size)))
          have hlt2 := hT.lt
          have hlo := hT.lo
          have n1 : ¬ w.heap.size = g1 := by omega
          have n2 : ¬ w.heap.size = g2 := by omega
          have n3 : ¬ w.heap.size = p := by omega
          have n4 : ¬ p = g2 := hT.n2
          have n5 : ¬ g2 = p := fun h => n4 h.symm
          have n6 : ¬ g2 = w.heap.size := fun h => n2 h.symm
          have n7 : ¬ p = w.heap.size := fun h => n3 h.symm
          have HT := Lib.hid (hT.setO k (n : Int))
          have t0 := hT.c0
          have t1 := hT.c1
          have t2 := hT.c2
          have t3 := hT.c3
          obtain ⟨o0, of⟩ := hT.ocell (k := k) (by omega)
          have hkq : k < k + 1 := by omega
          have hws : w.heap.size ≤ w2.heap.size := by omega
          clear hT BT hlt2 hlt hk hlo
          go_wp2
          have hr := HT.out.r.mono hws
          have ho := HT.out.o.mono hws
          rw [HL.out] at ho
          have hne1 : (Value.slice (some ⟨g1, 0, none⟩) k k).ownBlock ≠ some w.heap.size := by simpa [Value.ownBlock] using fun h => n1 h.symm
          have hne2 : (Value.slice (some ⟨g2, 0, none⟩) (k + 1) (k + 1)).ownBlock ≠ some w.heap.size := by simpa [Value.ownBlock] using fun h => n2 h.symm
          have hb4 := HFB.out.setCell (p := ⟨g2, k, none⟩) (Nat.le_trans hws (HT.out.lt.2.2.1)) (.int .i64 (n : Int))
          refine bodyPost_ret (v := .agg #[.int .i64 kd, .int .i64 (m : Int), .slice (some ⟨g1, 0, none⟩) k k, .slice (some ⟨g2, 0, none⟩) (k + 1) (k + 1)]) ?_ rfl ?_
          · simp [results, Tryd.results12, go_sem, y0, y1, y2, y3, n1, n2, n3, n4, n5, n6, n7]
          · refine ⟨_, _, rfl, ?_, ?_, ?_⟩
            · rw [hl1]
              exact ownsRow_setCell_other (ownsRow_setCell_other (ownsRow_setCell_other (ownsRow_setCell_other hr hne1 _) hne1 _) hne1 _) hne1 _
            · rw [List.length_append, hl2]
              exact ownsRow_setCell_other (ownsRow_setCell_other (ownsRow_setCell_other (ownsRow_setCell_other ho hne2 _) hne2 _) hne2 _) hne2 _
            · exact (((hb4.setCell (p := ⟨w.heap.size, 0, none⟩) (Nat.le_refl _) _).setCell (p := ⟨w.heap.size, 1, none⟩) (Nat.le_refl _) _).setCell (p := ⟨w.heap.size, 2, none⟩) (Nat.le_refl _) _).setCell (p := ⟨w.heap.size, 3, none⟩) (Nat.le_refl _) _

end Go.Proofs.YtmibajofbagphaaDoor
