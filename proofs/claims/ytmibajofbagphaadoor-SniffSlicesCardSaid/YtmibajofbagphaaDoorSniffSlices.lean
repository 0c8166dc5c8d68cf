/-
  SniffSlices: for all bytes and all places it returns true.
-/
import Derived.Test.YtmibajofbagphaaDoorSnI
import Derived.Test.YtmibajofbagphaaDoorSnD
import Derived.Test.YtmibajofbagphaaDoorSniffDecodes
import Derived.Test.YtmibajofbagphaaDoorCut3
import Derived.Test.YtmibajofbagphaaDoorScanR
import Derived.Deep.RegionHeldLaw
import Derived.Deep.CutBlock
namespace Go.Proofs.YtmibajofbagphaaDoor
open Go.RowKit

theorem own_max {w : World} {b n s : Nat} {e : TypeId} {a : Option Addr} {m c : Nat} {xs : List Value} (h : w.ownsRow b e s (.slice a m c) n xs) : c ≤ maxLen := by
  obtain ⟨_, ⟨h, _⟩ | ⟨g, c', cur, h, _, _, _, hm, _⟩⟩ := h
  · cases h; exact Nat.zero_le _
  · cases h; exact hm

set_option maxRecDepth 100000 in
set_option maxHeartbeats 8000000 in
theorem sniffSlices_walk (a : Option Addr) (n cap : Nat) (zs : List Int) (f t x : Int) (w : World) (hs : Signs w) (hn : zs.length = n) (hc : n ≤ cap) (hm : cap ≤ maxLen) (hb : Bys zs) (hat : AtCells w a (zs.map (.int .u8))) :
    Calls Tryd.prog 6 #[.slice a n cap, .int .i64 f, .int .i64 t, .int .i64 x] w fun e w' => e = .returned (.bool true) ∧ Below w.heap.size w w' := by
  obtain ⟨m, hmm⟩ : ∃ m, m = min n 200 := ⟨_, rfl⟩
  have hm200 : m ≤ 200 := by omega
  have hat' := hat.take m
  rw [← List.map_take] at hat'
  have hn' : (zs.take m).length = m := by simp; omega
  have hb' := hb.take m
  have hmc : m ≤ cap := by omega
  generalize zs.take m = ys at hat' hn' hb'
  have HF := Lib.hid (short_any a n cap w hc hm)
  rw [← hmm] at HF
  have H1 := Lib.hid (decode_any a m cap ys w hs hn' hmc hm (by omega) hb' hat')
  have H2 := Lib.hid (fun W (hW : Below w.heap.size w W) => refDecode_any a m cap ys W hn' hmc hm (by omega) hb' (hat'.below hW))
  have HAW := Lib.hid (show ∀ wx, Below w.heap.size w wx → Calls Tryd.prog 15 #[] wx fun e w' => e = .returned (.bool true) ∧ Below w.heap.size w w' from fun wx hx => (sawake_at hs hx).mono fun _ _ h => ⟨h.1, hx.trans (h.2.mono hx.size)⟩)
  have HAX := Lib.hid (fun wx (hx : Below w.heap.size w wx) => sawake_at hs hx)
  have hrise := offs_rises ys
  have hrun := runes_runes ys hb'
  have hql := runes_le ys
  rw [hn'] at hrise hql
  generalize (kindOf ys).1 = kd at H1 H2
  generalize (kindOf ys).2 = bom at H1 H2 hrise
  obtain ⟨q, hq⟩ : ∃ q, q = (runesOf ys).length := ⟨_, rfl⟩
  rw [← hq] at hrise hql
  generalize runesOf ys = rs at H1 H2 hq hrun
  generalize offsOf ys = os at H1 H2 hrise
  have HQ := Lib.hid hq
  have HR := Lib.hid hrise
  have HRUN := Lib.hid hrun
  have HY := Lib.hid (And.intro hat' (And.intro hn' (And.intro hm hmc)))
  clear hat' hn' hb' hat hn hmm hm hc hb hs hrise hq hrun
  go_enter Tryd.func6, Tryd.ntmps6
  go_wp2_with fail
  refine HF.out.mono ?_
  rintro e w' ⟨rfl, rfl⟩
  go_wp2_with fail
  refine H1.out.mono ?_
  rintro e w1 ⟨r1, o1, rfl, hr1, ho1, hb1⟩
  rw [← HQ.out] at hr1
  rw [HR.out.len] at ho1
  obtain ⟨ar1, cr1, rfl, hcr1⟩ := owns_slice hr1
  obtain ⟨ao1, co1, rfl, hco1⟩ := owns_slice ho1
  have HM1 := Lib.hid (And.intro (And.intro hcr1 (own_max hr1)) (And.intro hco1 (own_max ho1)))
  have HB1 := Lib.hid hb1
  have HR1 := Lib.hid (AtCells.of_owns hr1)
  have HO1 := Lib.hid (AtCells.of_owns ho1)
  clear hb1 hr1 ho1 hcr1 hco1
  go_wp2_with fail
  refine (H2.out _ HB1.out).mono ?_
  rintro e w2 ⟨r2, o2, rfl, hr2, ho2, hb2⟩
  rw [← HQ.out] at hr2
  rw [HR.out.len] at ho2
  obtain ⟨ar2, cr2, rfl, hcr2⟩ := owns_slice hr2
  obtain ⟨ao2, co2, rfl, hco2⟩ := owns_slice ho2
  have HM2 := Lib.hid (And.intro hcr2 (And.intro (own_max hr2) hco2))
  have HB2 := Lib.hid (HB1.out.trans (hb2.mono HB1.out.size))
  have HAT := Lib.hid (And.intro (HR1.out.below hb2) (And.intro (HO1.out.below hb2) (And.intro (AtCells.of_owns hr2) (AtCells.of_owns ho2))))
  clear hb2 hr2 ho2 HR1 HO1 HB1 hcr2 hco2
  go_upto_region 3 with fail
  have hbA : Below (w2.heap.size + 1) (w2.alloc (.cells #[.int .i64 kd, .int .i64 bom, .slice ar1 q cr1, .slice ao1 (q + 1) co1] 27)) ((w2.alloc (.cells #[.int .i64 kd, .int .i64 bom, .slice ar1 q cr1, .slice ao1 (q + 1) co1] 27)).alloc (.cells #[.int .i64 kd, .int .i64 bom, .slice ar2 q cr2, .slice ao2 (q + 1) co2] 29)) :=
    (Below.refl _ _).alloc (by simp) _
  have hbB : Below ((w2.alloc (.cells #[.int .i64 kd, .int .i64 bom, .slice ar1 q cr1, .slice ao1 (q + 1) co1] 27)).heap.size + 1) ((w2.alloc (.cells #[.int .i64 kd, .int .i64 bom, .slice ar1 q cr1, .slice ao1 (q + 1) co1] 27)).alloc (.cells #[.int .i64 kd, .int .i64 bom, .slice ar2 q cr2, .slice ao2 (q + 1) co2] 29)) ((w2.alloc (.cells #[.int .i64 kd, .int .i64 bom, .slice ar1 q cr1, .slice ao1 (q + 1) co1] 27)).alloc (.cells #[.int .i64 kd, .int .i64 bom, .slice ar2 q cr2, .slice ao2 (q + 1) co2] 29)) :=
    Below.refl _ _
  have hB3 := (HB2.out.alloc HB2.out.size (.cells #[.int .i64 kd, .int .i64 bom, .slice ar1 q cr1, .slice ao1 (q + 1) co1] 27)).alloc (by have := HB2.out.size; simp; omega) (.cells #[.int .i64 kd, .int .i64 bom, .slice ar2 q cr2, .slice ao2 (q + 1) co2] 29)
  have hW3 : Below w2.heap.size w2 ((w2.alloc (.cells #[.int .i64 kd, .int .i64 bom, .slice ar1 q cr1, .slice ao1 (q + 1) co1] 27)).alloc (.cells #[.int .i64 kd, .int .i64 bom, .slice ar2 q cr2, .slice ao2 (q + 1) co2] 29)) :=
    ((Below.refl _ _).alloc (Nat.le_refl _) _).trans (hbA.mono (by omega))
  have hA := fun j u h => box_in (cs := [.int .i64 kd, .int .i64 bom, .slice ar1 q cr1, .slice ao1 (q + 1) co1]) hbA j u h
  have hB : ∀ (j : Nat) u, [Value.int .i64 kd, .int .i64 bom, .slice ar2 q cr2, .slice ao2 (q + 1) co2][j]? = some u → ((w2.alloc (.cells #[.int .i64 kd, .int .i64 bom, .slice ar1 q cr1, .slice ao1 (q + 1) co1] 27)).alloc (.cells #[.int .i64 kd, .int .i64 bom, .slice ar2 q cr2, .slice ao2 (q + 1) co2] 29)).cell? ⟨w2.heap.size + 1, j, none⟩ = some u := fun j u h => by
    have := box_in (cs := [.int .i64 kd, .int .i64 bom, .slice ar2 q cr2, .slice ao2 (q + 1) co2]) hbB j u h
    simpa using this
  obtain ⟨w4, hw4⟩ : ∃ w4, w4 = (w2.alloc (.cells #[.int .i64 kd, .int .i64 bom, .slice ar1 q cr1, .slice ao1 (q + 1) co1] 27)).alloc (.cells #[.int .i64 kd, .int .i64 bom, .slice ar2 q cr2, .slice ao2 (q + 1) co2] 29) := ⟨_, rfl⟩
  rw [← hw4] at hB3 hW3 hA hB ⊢
  clear hbA hbB hw4
  have HB4 := Lib.hid hB3
  have HAT4 := Lib.hid (And.intro (HAT.out.1.below hW3) (And.intro (HAT.out.2.1.below hW3) (And.intro (HAT.out.2.2.1.below hW3) (HAT.out.2.2.2.below hW3))))
  generalize w2.heap.size = P at hA hB ⊢
  have HCA := Lib.hid hA
  have HCB := Lib.hid hB
  have p3 := hA 3 _ rfl
  have q2 := hB 2 _ rfl
  have q3 := hB 3 _ rfl
  have hlt4 : P + 1 < w4.heap.size := cell_lt q3
  clear hB3 hW3 hA hB HAT HB2
  have HQ2 := Lib.hid q2
  have HQ3 := Lib.hid q3
  go_upto_block 0 with fail
  go_cut [11] (fun s11 wx => s11 = .int .i64 (ahead os q x : Nat) ∧ Below w4.heap.size w4 wx)
  case first =>
    go_wp2_with fail
    go_loopw [11] (fun i wr => ∃ k : Nat, k ≤ q ∧ i = .int .i64 k ∧ (∀ j, j < k → os.getD j 0 < x) ∧ Below w4.heap.size w4 wr) (fun i _ => q - (intOf i).toNat)
    case atStart => exact ⟨0, Nat.zero_le _, rfl, fun j hj => absurd hj (by omega), Below.refl _ _⟩
    case round =>
      obtain ⟨k, hk, rfl, hall, hbl⟩ := hrel
      have HBL := Lib.hid hbl
      have HALL := Lib.hid hall
      have q2' := (hbl.cell (p := ⟨P + 1, 2, none⟩) hlt4).trans HQ2.out
      have q3' := (hbl.cell (p := ⟨P + 1, 3, none⟩) hlt4).trans HQ3.out
      clear p3 q2 q3 hbl hall
      by_cases hlt : k < q
      · obtain ⟨b4, f4, rfl, c4⟩ := (HAT4.out.2.2.2.below HBL.out).int (k := k) (by rw [HR.out.len]; omega)
        obtain ⟨z, hz⟩ : ∃ z, z = os.getD k 0 := ⟨_, rfl⟩
        rw [← hz] at c4
        have HZ := Lib.hid hz
        have hki : (k : Int) < (q : Int) := by omega
        have hki' : (k : Int) < (q : Int) + 1 := by omega
        have hkn : k < q + 1 := by omega
        clear hz
        by_cases hzx : z < x
        · go_wp2_with fail
          go_roundw
          case rel => exact ⟨k + 1, by omega, by go_num, fun j hj => by
            by_cases hjk : j = k
            · subst hjk; rw [← HZ.out]; exact hzx
            · exact HALL.out j (by omega), HBL.out⟩
          case measure => simp [intOf]; omega
        · have HAH := Lib.hid (show ahead os q x = k from count_rises HR.out hk HALL.out (fun _ => by rw [← HZ.out]; omega))
          go_wp2_with fail
          go_meet
          exact ⟨by rw [HAH.out], HBL.out⟩
      · obtain rfl : k = q := by omega
        have HAH := Lib.hid (show ahead os k x = k from count_rises HR.out (Nat.le_refl _) HALL.out (fun h => absurd h (by omega)))
        go_wp2_with fail
        go_meet
        exact ⟨by rw [HAH.out], HBL.out⟩
  case rest =>
    obtain ⟨rfl, hbl⟩ := hcut
    obtain ⟨w5, hw5⟩ : ∃ w5, w5 = wc := ⟨_, rfl⟩
    rw [← hw5] at hbl ⊢
    have HW5 := Lib.hid hbl
    have HAT5 := Lib.hid (And.intro (HAT4.out.1.below hbl) (And.intro (HAT4.out.2.1.below hbl) (And.intro (HAT4.out.2.2.1.below hbl) (HAT4.out.2.2.2.below hbl))))
    have HATC := Lib.hid (at_any kd bom _ ar1 ao1 q cr1 co1 m os x w5 rfl (by omega) HM1.out.2.1 HM1.out.2.2 HR.out HAT5.out.2.1)
    have t0 := (hbl.cell (p := ⟨P, 0, none⟩) (show P < w4.heap.size by omega)).trans (HCA.out 0 _ rfl)
    have t1 := (hbl.cell (p := ⟨P, 1, none⟩) (show P < w4.heap.size by omega)).trans (HCA.out 1 _ rfl)
    have t2 := (hbl.cell (p := ⟨P, 2, none⟩) (show P < w4.heap.size by omega)).trans (HCA.out 2 _ rfl)
    have t3 := (hbl.cell (p := ⟨P, 3, none⟩) (show P < w4.heap.size by omega)).trans (HCA.out 3 _ rfl)
    generalize ahead os q x = A at HATC ⊢
    clear hw5 p3 q2 q3 hbl
    go_wp2_with fail
    refine HATC.out.mono ?_
    rintro e w6 ⟨rfl, hb6⟩
    have HW6 := Lib.hid (HW5.out.trans (hb6.mono HW5.out.size))
    have HW56 := Lib.hid hb6
    clear hb6 t0 t1 t2 t3
    have t0 := (HW6.out.cell (p := ⟨P, 0, none⟩) (show P < w4.heap.size by omega)).trans (HCA.out 0 _ rfl)
    have t1 := (HW6.out.cell (p := ⟨P, 1, none⟩) (show P < w4.heap.size by omega)).trans (HCA.out 1 _ rfl)
    have t2 := (HW6.out.cell (p := ⟨P, 2, none⟩) (show P < w4.heap.size by omega)).trans (HCA.out 2 _ rfl)
    have t3 := (HW6.out.cell (p := ⟨P, 3, none⟩) (show P < w4.heap.size by omega)).trans (HCA.out 3 _ rfl)
    have q2 := (HW6.out.cell (p := ⟨P + 1, 2, none⟩) hlt4).trans (HCB.out 2 _ rfl)
    have HBW := Lib.hid (HB4.out.trans (HW6.out.mono HB4.out.size))
    have HT := Lib.hid (And.intro t0 (And.intro t1 (And.intro t2 t3)))
    have hP6 : P + 1 < w6.heap.size := cell_lt q2
    have BAD : f < 0 ∨ t < f ∨ (q : Int) < t → Hid ((∀ wx, Calls Tryd.prog 22 #[.agg #[.int .i64 kd, .int .i64 bom, .slice ar1 q cr1, .slice ao1 (q + 1) co1], .slice a m cap, .int .i64 f, .int .i64 t] wx fun e w' => e = .returned (.slice none 0 0) ∧ Below wx.heap.size wx w') ∧ (∀ wx, Calls Tryd.prog 23 #[.agg #[.int .i64 kd, .int .i64 bom, .slice ar1 q cr1, .slice ao1 (q + 1) co1], .int .i64 f, .int .i64 t] wx fun e w' => e = .returned (.string ⟨#[]⟩) ∧ Below wx.heap.size wx w')) := fun h =>
      Lib.hid ⟨fun wx => slice_no kd bom _ ar1 ao1 q cr1 (q + 1) co1 _ f t wx rfl ⟨_, _, _, rfl⟩ h, fun wx => string_no kd bom _ ar1 q cr1 f t wx ⟨_, _, _, rfl⟩ h⟩
    have HBAD := Lib.hid BAD
    clear BAD
    have cellOf : ∀ (wx : World), Below w6.heap.size w6 wx → wx.cell? ⟨P, 0, none⟩ = some (.int .i64 kd) ∧ wx.cell? ⟨P, 1, none⟩ = some (.int .i64 bom) ∧ wx.cell? ⟨P, 2, none⟩ = some (.slice ar1 q cr1) ∧ wx.cell? ⟨P, 3, none⟩ = some (.slice ao1 (q + 1) co1) := fun wx hx =>
      ⟨(hx.cell (p := ⟨P, 0, none⟩) (show P < w6.heap.size by omega)).trans HT.out.1, (hx.cell (p := ⟨P, 1, none⟩) (show P < w6.heap.size by omega)).trans HT.out.2.1, (hx.cell (p := ⟨P, 2, none⟩) (show P < w6.heap.size by omega)).trans HT.out.2.2.1, (hx.cell (p := ⟨P, 3, none⟩) (show P < w6.heap.size by omega)).trans HT.out.2.2.2⟩
    have HCELL := Lib.hid cellOf
    clear cellOf
    by_cases h1 : f < 0
    · have HNO := HBAD.out (.inl h1)
      clear HBAD
      go_wp2_with fail
      refine (HNO.out.1 _).mono ?_
      rintro e w7 ⟨rfl, hb7⟩
      obtain ⟨s0, s1, s2, s3⟩ := HCELL.out w7 hb7
      have HB7 := Lib.hid hb7
      clear hb7 t0 t1 t2 t3 q2
      go_wp2_with fail
      refine (HNO.out.2 _).mono ?_
      rintro e w8 ⟨rfl, hb8⟩
      have HB8 := Lib.hid (HB7.out.trans (hb8.mono HB7.out.size))
      clear hb8 s0 s1 s2 s3
      go_wp2_with (go_at_call 15; refine (HAW.out _ (HBW.out.trans (HB8.out.mono HBW.out.size))).mono ?_; rintro e w9 ⟨rfl, hb9⟩)
      go_ret
      exact ⟨rfl, hb9⟩
    · by_cases h2 : t < f
      · have HNO := HBAD.out (.inr (.inl h2))
        clear HBAD
        go_wp2_with fail
        refine (HNO.out.1 _).mono ?_
        rintro e w7 ⟨rfl, hb7⟩
        obtain ⟨s0, s1, s2, s3⟩ := HCELL.out w7 hb7
        have HB7 := Lib.hid hb7
        clear hb7 t0 t1 t2 t3 q2
        go_wp2_with fail
        refine (HNO.out.2 _).mono ?_
        rintro e w8 ⟨rfl, hb8⟩
        have HB8 := Lib.hid (HB7.out.trans (hb8.mono HB7.out.size))
        clear hb8 s0 s1 s2 s3
        go_wp2_with (go_at_call 15; refine (HAW.out _ (HBW.out.trans (HB8.out.mono HBW.out.size))).mono ?_; rintro e w9 ⟨rfl, hb9⟩)
        go_ret
        exact ⟨rfl, hb9⟩
      · by_cases h3 : (q : Int) < t
        · have HNO := HBAD.out (.inr (.inr h3))
          clear HBAD
          go_wp2_with fail
          refine (HNO.out.1 _).mono ?_
          rintro e w7 ⟨rfl, hb7⟩
          obtain ⟨s0, s1, s2, s3⟩ := HCELL.out w7 hb7
          have HB7 := Lib.hid hb7
          clear hb7 t0 t1 t2 t3 q2
          go_wp2_with fail
          refine (HNO.out.2 _).mono ?_
          rintro e w8 ⟨rfl, hb8⟩
          have HB8 := Lib.hid (HB7.out.trans (hb8.mono HB7.out.size))
          clear hb8 s0 s1 s2 s3
          go_wp2_with (go_at_call 15; refine (HAW.out _ (HBW.out.trans (HB8.out.mono HBW.out.size))).mono ?_; rintro e w9 ⟨rfl, hb9⟩)
          go_ret
          exact ⟨rfl, hb9⟩
        · clear HBAD
          obtain ⟨F, rfl⟩ : ∃ F : Nat, f = (F : Int) := ⟨f.toNat, by omega⟩
          obtain ⟨T, rfl⟩ : ∃ T : Nat, t = (T : Int) := ⟨t.toNat, by omega⟩
          have hFT : F ≤ T := by omega
          have hTq : T ≤ q := by omega
          obtain ⟨X, hX⟩ : ∃ X : Nat, os.getD F 0 = (X : Int) := ⟨(os.getD F 0).toNat, by have := HR.out.bd F (by omega); omega⟩
          obtain ⟨Y, hY⟩ : ∃ Y : Nat, os.getD T 0 = (Y : Int) := ⟨(os.getD T 0).toNat, by have := HR.out.bd T (by omega); omega⟩
          have hXY : X ≤ Y := by have := HR.out.mono T F hFT hTq; omega
          have hYm : Y ≤ m := by have := HR.out.bd T hTq; omega
          obtain ⟨B4, F4, rfl, _⟩ := HAT5.out.2.2.2.int (k := F) (by rw [HR.out.len]; omega)
          have cF : ∀ wx, Below w6.heap.size w6 wx → wx.cell? ⟨B4, F4 + F, none⟩ = some (.int .i64 (X : Int)) := fun wx hx => by
            obtain ⟨_, _, he, hcc⟩ := ((HAT5.out.2.2.2.below HW56.out).below hx).int (k := F) (by rw [HR.out.len]; omega)
            simp only [Option.some.injEq, Addr.mk.injEq] at he
            obtain ⟨rfl, rfl, _⟩ := he
            rw [hX] at hcc; exact hcc
          have cT : ∀ wx, Below w6.heap.size w6 wx → wx.cell? ⟨B4, F4 + T, none⟩ = some (.int .i64 (Y : Int)) := fun wx hx => by
            obtain ⟨_, _, he, hcc⟩ := ((HAT5.out.2.2.2.below HW56.out).below hx).int (k := T) (by rw [HR.out.len]; omega)
            simp only [Option.some.injEq, Addr.mk.injEq] at he
            obtain ⟨rfl, rfl, _⟩ := he
            rw [hY] at hcc; exact hcc
          have HQQ := Lib.hid (show ∀ (wx : World), Below w6.heap.size w6 wx → wx.cell? ⟨P + 1, 2, none⟩ = some (.slice ar2 q cr2) ∧ wx.cell? ⟨P + 1, 3, none⟩ = some (.slice (some ⟨B4, F4, none⟩) (q + 1) co2) from fun wx hx =>
            ⟨(hx.cell (p := ⟨P + 1, 2, none⟩) hP6).trans ((HW6.out.cell (p := ⟨P + 1, 2, none⟩) hlt4).trans (HCB.out 2 _ rfl)), (hx.cell (p := ⟨P + 1, 3, none⟩) hP6).trans ((HW6.out.cell (p := ⟨P + 1, 3, none⟩) hlt4).trans (HCB.out 3 _ rfl))⟩)
          have HALL := Lib.hid (show ∀ (W : World), Below w6.heap.size w6 W → W.cell? ⟨P, 0, none⟩ = some (.int .i64 kd) ∧ W.cell? ⟨P, 1, none⟩ = some (.int .i64 bom) ∧ W.cell? ⟨P, 2, none⟩ = some (.slice ar1 q cr1) ∧ W.cell? ⟨P, 3, none⟩ = some (.slice ao1 (q + 1) co1) ∧ W.cell? ⟨P + 1, 2, none⟩ = some (.slice ar2 q cr2) ∧ W.cell? ⟨P + 1, 3, none⟩ = some (.slice (some ⟨B4, F4, none⟩) (q + 1) co2) ∧ W.cell? ⟨B4, F4 + F, none⟩ = some (.int .i64 (X : Int)) ∧ W.cell? ⟨B4, F4 + T, none⟩ = some (.int .i64 (Y : Int)) from fun W hW =>
            ⟨(HCELL.out W hW).1, (HCELL.out W hW).2.1, (HCELL.out W hW).2.2.1, (HCELL.out W hW).2.2.2, (HQQ.out W hW).1, (HQQ.out W hW).2, cF W hW, cT W hW⟩)
          clear cF cT HQQ HCELL
          obtain ⟨S1, hS1⟩ : ∃ S1, S1 = strOfNums ((ys.drop X).take (Y - X)) := ⟨_, rfl⟩
          obtain ⟨S2, hS2⟩ : ∃ S2, S2 = strOfNums (U8.encs ((rs.drop F).take (T - F))) := ⟨_, rfl⟩
          have HSL := Lib.hid (show ∀ wx, Below w6.heap.size w6 wx → Calls Tryd.prog 22 #[.agg #[.int .i64 kd, .int .i64 bom, .slice ar1 q cr1, .slice ao1 (q + 1) co1], .slice a m cap, .int .i64 (F : Int), .int .i64 (T : Int)] wx (OwnStr w6 wx S1) from fun wx hx => by
            have := slice_any kd bom _ ar1 ao1 a q cr1 co1 os m cap ys F T wx rfl (by omega) HR.out hFT hTq HY.out.2.1 hmc HY.out.2.2.1 (by omega) ((HAT5.out.2.1.below HW56.out).below hx) (HY.out.1.below (HBW.out.trans (hx.mono HBW.out.size)))
            rw [hX, hY, Int.toNat_natCast, Int.toNat_natCast] at this
            rw [hS1]
            exact this.mono fun _ _ h => someBytes_str hx h)
          have HST := Lib.hid (show ∀ wx, Below w6.heap.size w6 wx → Calls Tryd.prog 23 #[.agg #[.int .i64 kd, .int .i64 bom, .slice ar1 q cr1, .slice ao1 (q + 1) co1], .int .i64 (F : Int), .int .i64 (T : Int)] wx fun e w' => e = .returned (.string S2) ∧ Below w6.heap.size w6 w' ∧ Below wx.heap.size wx w' from fun wx hx => by
            rw [hS2]
            exact (string_yes kd bom _ ar1 q cr1 rs F T wx ⟨_, _, _, rfl⟩ (by omega) HM1.out.1.1 HM1.out.1.2 HQ.out.symm HRUN.out hFT hTq ((HAT5.out.1.below HW56.out).below hx)).mono fun _ _ h => ⟨h.1, hx.trans (h.2.mono hx.size), h.2⟩)
          have HBY0 := Lib.hid (show ∀ wx ax, Below w6.heap.size w6 wx → ax = (if cr2 = F then ar2 else Option.map (fun z => z.add F) ar2) → Calls Tryd.prog 24 #[.slice ax (T - F) (cr2 - F)] wx (OwnStr w6 wx S2) from fun wx ax hx ha => by
            subst ha
            rw [hS2]
            refine (refBytes_any _ (T - F) (cr2 - F) _ wx (by have := HQ.out; simp; omega) (by omega) ?_).mono fun _ _ h => ownStr_of hx h
            rw [List.map_take]
            exact (at_sliced (kd := .i32) ((HAT5.out.2.2.1.below HW56.out).below hx) F cr2 (by have := HQ.out; have := HM2.out.1; omega)).take _)
          have HCV0 := Lib.hid (show ∀ ax, ax = (if cap = X then a else Option.map (fun z => z.add X) a) → ∀ wx, Below w6.heap.size w6 wx → Sem.run Tryd.prog (convert 22 9 (.slice ax (Y - X) (cap - X))) wx = .ok (.string S1) wx from fun ax ha wx hx => by
            subst ha
            rw [hS1]
            refine run_str wx _ _ _ Tryd.underlying22 Tryd.underlying5 Tryd.underlying9 _ (Y - X) (cap - X) _ (by have := HY.out.2.1; simp; omega) ?_
            rw [List.map_take]
            exact (at_sliced (kd := .u8) (HY.out.1.below (HBW.out.trans (hx.mono HBW.out.size))) X cap (by have := HY.out.2.1; omega)).take _)
          have HAW6 := Lib.hid (show ∀ wx, Below w6.heap.size w6 wx → Calls Tryd.prog 15 #[] wx fun e w' => e = .returned (.bool true) ∧ Below w6.heap.size w6 w' from fun wx hx => (HAX.out wx (HBW.out.trans (hx.mono HBW.out.size))).mono fun _ _ h => ⟨h.1, hx.trans (h.2.mono hx.size)⟩)
          have i1 : (X : Int) ≤ (Y : Int) := by omega
          have i2 : (Y : Int) ≤ (cap : Int) := by omega
          have i3 : (F : Int) ≤ (T : Int) := by omega
          have i4 : (T : Int) ≤ (cr2 : Int) := by have := HM2.out.1; omega
          have hq1F : (F : Int) < (q : Int) + 1 := by omega
          have hq1T : (T : Int) < (q : Int) + 1 := by omega
          have hq1F' : F < q + 1 := by omega
          have hq1T' : T < q + 1 := by omega
          have hcr2 : q ≤ cr2 := HM2.out.1
          have hmx := HY.out.2.2.1
          have hmx2 := HM2.out.2.1
          unfold maxLen at hmx hmx2
          have HTF := Lib.hid (show T = F → Y = X from fun h => by subst h; rw [hX] at hY; omega)
          clear hS1 hS2 hX hY HATC H1 H2 HF
          by_cases hcx : cap = X
          · have hcvB0 := HCV0.out _ (if_pos hcx).symm
            clear HCV0
            obtain rfl : Y = X := by omega
            obtain rfl : m = Y := by omega
            have hcvB : ∀ wx, Below w6.heap.size w6 wx → Sem.run Tryd.prog (convert 22 9 (.slice a 0 0)) wx = .ok (.string S1) wx := by
              rw [Nat.sub_self, show cap - m = 0 by omega] at hcvB0
              exact hcvB0
            clear hcvB0
            subst hcx
            by_cases hcr : cr2 = F
            · have HBY1 := Lib.hid (fun wx hx => HBY0.out wx _ hx (if_pos hcr).symm)
              clear HBY0
              obtain rfl : T = F := by omega
              obtain rfl : q = T := by omega
              have HBY : Hid (∀ wx, Below w6.heap.size w6 wx → Calls Tryd.prog 24 #[.slice ar2 0 0] wx (OwnStr w6 wx S2)) := Lib.hid (fun wx hx => by
                have := HBY1.out wx hx
                rw [Nat.sub_self, show cr2 - q = 0 by omega] at this
                exact this)
              clear HBY1
              subst hcr
              have hbd : Below w6.heap.size w6 w6.drew := (Below.refl w6.heap.size w6).drew
              have hr6 : Below w6.heap.size w6 w6 := Below.refl w6.heap.size w6
              clear t0 t1 t2 t3
              have HAL2 := Lib.hid (show ∀ W, Below w6.heap.size w6 W → Sem.run Tryd.prog (convert 22 9 (.slice a 0 0)) W = .ok (.string S1) W ∧ W.cell? ⟨P, 0, none⟩ = some (.int .i64 kd) ∧ W.cell? ⟨P, 1, none⟩ = some (.int .i64 bom) ∧ W.cell? ⟨P, 2, none⟩ = some (.slice ar1 cr2 cr1) ∧ W.cell? ⟨P, 3, none⟩ = some (.slice ao1 (cr2 + 1) co1) ∧ W.cell? ⟨P + 1, 2, none⟩ = some (.slice ar2 cr2 cr2) ∧ W.cell? ⟨P + 1, 3, none⟩ = some (.slice (some ⟨B4, F4, none⟩) (cr2 + 1) co2) ∧ W.cell? ⟨B4, F4 + cr2, none⟩ = some (.int .i64 (cap : Int)) ∧ W.cell? ⟨B4, F4 + cr2, none⟩ = some (.int .i64 (cap : Int)) from fun W hW => ⟨hcvB W hW, HALL.out W hW⟩)
              go_wp2_with fail
              go_region_held_law (fun W => Sem.run Tryd.prog (convert 22 9 (.slice a 0 0)) W = .ok (.string S1) W ∧ W.cell? ⟨P, 0, none⟩ = some (.int .i64 kd) ∧ W.cell? ⟨P, 1, none⟩ = some (.int .i64 bom) ∧ W.cell? ⟨P, 2, none⟩ = some (.slice ar1 cr2 cr1) ∧ W.cell? ⟨P, 3, none⟩ = some (.slice ao1 (cr2 + 1) co1) ∧ W.cell? ⟨P + 1, 2, none⟩ = some (.slice ar2 cr2 cr2) ∧ W.cell? ⟨P + 1, 3, none⟩ = some (.slice (some ⟨B4, F4, none⟩) (cr2 + 1) co2) ∧ W.cell? ⟨B4, F4 + cr2, none⟩ = some (.int .i64 (cap : Int)) ∧ W.cell? ⟨B4, F4 + cr2, none⟩ = some (.int .i64 (cap : Int))) (first | (exact HAL2.out _ (by assumption)) | assumption)
                (first
                  | (go_at_call 22; refine (HSL.out _ (by assumption)).mono ?_; rintro e w7 ⟨a7, n7, c7, rfl, hcv7, hbw7, hb7⟩; have hr7 := Below.refl w7.heap.size w7)
                  | (go_at_call 23; refine (HST.out _ (by assumption)).mono ?_; rintro e w8 ⟨rfl, hbw8, hb8⟩)
                  | (go_at_call 24; refine (HBY.out _ (by assumption)).mono ?_; rintro e w9 ⟨a9, n9, c9, rfl, hcv9, hbw9, hb9⟩; have hr9 := Below.refl w9.heap.size w9)
                  | (go_at_call 15; refine (HAW6.out _ (by assumption)).mono ?_; rintro e w10 ⟨rfl, hb10⟩))
              all_goals
                go_wp2
                go_ret
                exact ⟨rfl, HBW.out.trans (hb10.mono HBW.out.size)⟩
            · have HBY := Lib.hid (fun wx hx => HBY0.out wx _ hx (if_neg hcr).symm)
              clear HBY0
              have hbd : Below w6.heap.size w6 w6.drew := (Below.refl w6.heap.size w6).drew
              have hr6 : Below w6.heap.size w6 w6 := Below.refl w6.heap.size w6
              clear t0 t1 t2 t3
              have HAL2 := Lib.hid (show ∀ W, Below w6.heap.size w6 W → Sem.run Tryd.prog (convert 22 9 (.slice a 0 0)) W = .ok (.string S1) W ∧ W.cell? ⟨P, 0, none⟩ = some (.int .i64 kd) ∧ W.cell? ⟨P, 1, none⟩ = some (.int .i64 bom) ∧ W.cell? ⟨P, 2, none⟩ = some (.slice ar1 q cr1) ∧ W.cell? ⟨P, 3, none⟩ = some (.slice ao1 (q + 1) co1) ∧ W.cell? ⟨P + 1, 2, none⟩ = some (.slice ar2 q cr2) ∧ W.cell? ⟨P + 1, 3, none⟩ = some (.slice (some ⟨B4, F4, none⟩) (q + 1) co2) ∧ W.cell? ⟨B4, F4 + F, none⟩ = some (.int .i64 (cap : Int)) ∧ W.cell? ⟨B4, F4 + T, none⟩ = some (.int .i64 (cap : Int)) from fun W hW => ⟨hcvB W hW, HALL.out W hW⟩)
              go_wp2_with fail
              go_region_held_law (fun W => Sem.run Tryd.prog (convert 22 9 (.slice a 0 0)) W = .ok (.string S1) W ∧ W.cell? ⟨P, 0, none⟩ = some (.int .i64 kd) ∧ W.cell? ⟨P, 1, none⟩ = some (.int .i64 bom) ∧ W.cell? ⟨P, 2, none⟩ = some (.slice ar1 q cr1) ∧ W.cell? ⟨P, 3, none⟩ = some (.slice ao1 (q + 1) co1) ∧ W.cell? ⟨P + 1, 2, none⟩ = some (.slice ar2 q cr2) ∧ W.cell? ⟨P + 1, 3, none⟩ = some (.slice (some ⟨B4, F4, none⟩) (q + 1) co2) ∧ W.cell? ⟨B4, F4 + F, none⟩ = some (.int .i64 (cap : Int)) ∧ W.cell? ⟨B4, F4 + T, none⟩ = some (.int .i64 (cap : Int))) (first | (exact HAL2.out _ (by assumption)) | assumption)
                (first
                  | (go_at_call 22; refine (HSL.out _ (by assumption)).mono ?_; rintro e w7 ⟨a7, n7, c7, rfl, hcv7, hbw7, hb7⟩; have hr7 := Below.refl w7.heap.size w7)
                  | (go_at_call 23; refine (HST.out _ (by assumption)).mono ?_; rintro e w8 ⟨rfl, hbw8, hb8⟩)
                  | (go_at_call 24; refine (HBY.out _ (by assumption)).mono ?_; rintro e w9 ⟨a9, n9, c9, rfl, hcv9, hbw9, hb9⟩; have hr9 := Below.refl w9.heap.size w9)
                  | (go_at_call 15; refine (HAW6.out _ (by assumption)).mono ?_; rintro e w10 ⟨rfl, hb10⟩))
              all_goals
                go_wp2
                go_ret
                exact ⟨rfl, HBW.out.trans (hb10.mono HBW.out.size)⟩
          · have hcvB := HCV0.out _ (if_neg hcx).symm
            clear HCV0
            by_cases hcr : cr2 = F
            · have HBY1 := Lib.hid (fun wx hx => HBY0.out wx _ hx (if_pos hcr).symm)
              clear HBY0
              obtain rfl : T = F := by omega
              obtain rfl : q = T := by omega
              have HBY : Hid (∀ wx, Below w6.heap.size w6 wx → Calls Tryd.prog 24 #[.slice ar2 0 0] wx (OwnStr w6 wx S2)) := Lib.hid (fun wx hx => by
                have := HBY1.out wx hx
                rw [Nat.sub_self, show cr2 - q = 0 by omega] at this
                exact this)
              clear HBY1
              subst hcr
              have hyx : Y = X := HTF.out (by omega)
              subst hyx
              have hcvB0 := hcvB
              clear hcvB
              have hcvB : ∀ wx, Below w6.heap.size w6 wx → Sem.run Tryd.prog (convert 22 9 (.slice (Option.map (fun z => z.add Y) a) 0 (cap - Y))) wx = .ok (.string S1) wx := by
                rw [Nat.sub_self] at hcvB0
                exact hcvB0
              clear hcvB0
              have hbd : Below w6.heap.size w6 w6.drew := (Below.refl w6.heap.size w6).drew
              have hr6 : Below w6.heap.size w6 w6 := Below.refl w6.heap.size w6
              clear t0 t1 t2 t3
              have HAL2 := Lib.hid (show ∀ W, Below w6.heap.size w6 W → Sem.run Tryd.prog (convert 22 9 (.slice (Option.map (fun z => z.add Y) a) 0 (cap - Y))) W = .ok (.string S1) W ∧ W.cell? ⟨P, 0, none⟩ = some (.int .i64 kd) ∧ W.cell? ⟨P, 1, none⟩ = some (.int .i64 bom) ∧ W.cell? ⟨P, 2, none⟩ = some (.slice ar1 cr2 cr1) ∧ W.cell? ⟨P, 3, none⟩ = some (.slice ao1 (cr2 + 1) co1) ∧ W.cell? ⟨P + 1, 2, none⟩ = some (.slice ar2 cr2 cr2) ∧ W.cell? ⟨P + 1, 3, none⟩ = some (.slice (some ⟨B4, F4, none⟩) (cr2 + 1) co2) ∧ W.cell? ⟨B4, F4 + cr2, none⟩ = some (.int .i64 (Y : Int)) ∧ W.cell? ⟨B4, F4 + cr2, none⟩ = some (.int .i64 (Y : Int)) from fun W hW => ⟨hcvB W hW, HALL.out W hW⟩)
              go_wp2_with fail
              go_region_held_law (fun W => Sem.run Tryd.prog (convert 22 9 (.slice (Option.map (fun z => z.add Y) a) 0 (cap - Y))) W = .ok (.string S1) W ∧ W.cell? ⟨P, 0, none⟩ = some (.int .i64 kd) ∧ W.cell? ⟨P, 1, none⟩ = some (.int .i64 bom) ∧ W.cell? ⟨P, 2, none⟩ = some (.slice ar1 cr2 cr1) ∧ W.cell? ⟨P, 3, none⟩ = some (.slice ao1 (cr2 + 1) co1) ∧ W.cell? ⟨P + 1, 2, none⟩ = some (.slice ar2 cr2 cr2) ∧ W.cell? ⟨P + 1, 3, none⟩ = some (.slice (some ⟨B4, F4, none⟩) (cr2 + 1) co2) ∧ W.cell? ⟨B4, F4 + cr2, none⟩ = some (.int .i64 (Y : Int)) ∧ W.cell? ⟨B4, F4 + cr2, none⟩ = some (.int .i64 (Y : Int))) (first | (exact HAL2.out _ (by assumption)) | assumption)
                (first
                  | (go_at_call 22; refine (HSL.out _ (by assumption)).mono ?_; rintro e w7 ⟨a7, n7, c7, rfl, hcv7, hbw7, hb7⟩; have hr7 := Below.refl w7.heap.size w7)
                  | (go_at_call 23; refine (HST.out _ (by assumption)).mono ?_; rintro e w8 ⟨rfl, hbw8, hb8⟩)
                  | (go_at_call 24; refine (HBY.out _ (by assumption)).mono ?_; rintro e w9 ⟨a9, n9, c9, rfl, hcv9, hbw9, hb9⟩; have hr9 := Below.refl w9.heap.size w9)
                  | (go_at_call 15; refine (HAW6.out _ (by assumption)).mono ?_; rintro e w10 ⟨rfl, hb10⟩))
              all_goals
                go_wp2
                go_ret
                exact ⟨rfl, HBW.out.trans (hb10.mono HBW.out.size)⟩
            · have HBY := Lib.hid (fun wx hx => HBY0.out wx _ hx (if_neg hcr).symm)
              clear HBY0
              have hbd : Below w6.heap.size w6 w6.drew := (Below.refl w6.heap.size w6).drew
              have hr6 : Below w6.heap.size w6 w6 := Below.refl w6.heap.size w6
              clear t0 t1 t2 t3
              have HAL2 := Lib.hid (show ∀ W, Below w6.heap.size w6 W → Sem.run Tryd.prog (convert 22 9 (.slice (Option.map (fun z => z.add X) a) (Y - X) (cap - X))) W = .ok (.string S1) W ∧ W.cell? ⟨P, 0, none⟩ = some (.int .i64 kd) ∧ W.cell? ⟨P, 1, none⟩ = some (.int .i64 bom) ∧ W.cell? ⟨P, 2, none⟩ = some (.slice ar1 q cr1) ∧ W.cell? ⟨P, 3, none⟩ = some (.slice ao1 (q + 1) co1) ∧ W.cell? ⟨P + 1, 2, none⟩ = some (.slice ar2 q cr2) ∧ W.cell? ⟨P + 1, 3, none⟩ = some (.slice (some ⟨B4, F4, none⟩) (q + 1) co2) ∧ W.cell? ⟨B4, F4 + F, none⟩ = some (.int .i64 (X : Int)) ∧ W.cell? ⟨B4, F4 + T, none⟩ = some (.int .i64 (Y : Int)) from fun W hW => ⟨hcvB W hW, HALL.out W hW⟩)
              go_wp2_with fail
              go_region_held_law (fun W => Sem.run Tryd.prog (convert 22 9 (.slice (Option.map (fun z => z.add X) a) (Y - X) (cap - X))) W = .ok (.string S1) W ∧ W.cell? ⟨P, 0, none⟩ = some (.int .i64 kd) ∧ W.cell? ⟨P, 1, none⟩ = some (.int .i64 bom) ∧ W.cell? ⟨P, 2, none⟩ = some (.slice ar1 q cr1) ∧ W.cell? ⟨P, 3, none⟩ = some (.slice ao1 (q + 1) co1) ∧ W.cell? ⟨P + 1, 2, none⟩ = some (.slice ar2 q cr2) ∧ W.cell? ⟨P + 1, 3, none⟩ = some (.slice (some ⟨B4, F4, none⟩) (q + 1) co2) ∧ W.cell? ⟨B4, F4 + F, none⟩ = some (.int .i64 (X : Int)) ∧ W.cell? ⟨B4, F4 + T, none⟩ = some (.int .i64 (Y : Int))) (first | (exact HAL2.out _ (by assumption)) | assumption)
                (first
                  | (go_at_call 22; refine (HSL.out _ (by assumption)).mono ?_; rintro e w7 ⟨a7, n7, c7, rfl, hcv7, hbw7, hb7⟩; have hr7 := Below.refl w7.heap.size w7)
                  | (go_at_call 23; refine (HST.out _ (by assumption)).mono ?_; rintro e w8 ⟨rfl, hbw8, hb8⟩)
                  | (go_at_call 24; refine (HBY.out _ (by assumption)).mono ?_; rintro e w9 ⟨a9, n9, c9, rfl, hcv9, hbw9, hb9⟩; have hr9 := Below.refl w9.heap.size w9)
                  | (go_at_call 15; refine (HAW6.out _ (by assumption)).mono ?_; rintro e w10 ⟨rfl, hb10⟩))
              all_goals
                go_wp2
                go_ret
                exact ⟨rfl, HBW.out.trans (hb10.mono HBW.out.size)⟩

end Go.Proofs.YtmibajofbagphaaDoor
