/-
  Contract of the reference's layer 8: Read of any row.
-/
import Derived.Test.YtblebkpnjeghoaaRefJ
import Derived.Deep.DeepCutAuto
import Derived.Deep.CutBlock
import Derived.BigQuiet
namespace Go.Proofs.Ytblebkpnjeghoaa
open Go.RowKit
set_option linter.unusedVariables false

set_option maxRecDepth 20000 in
set_option maxHeartbeats 4000000 in
theorem refRead_w4 (a : Option Addr) (n cap : Nat) (l : List Int) (w : World) (hl : l.length = n) (hc : n ≤ cap) (hm : cap ≤ maxLen) (hn : n ≤ 800) (hat : AtCells w a (l.map (.int .i32))) (hwf : ∀ j, -2147483648 ≤ l.getD j 0 ∧ l.getD j 0 ≤ 2147483647) (f t : Int) {nm : PartA} {al : List AttA} {r m : Bool} {P : List PartA} (hP : parts l f t = P) (hR : readI P = (nm, al, r, m)) (h01 : kindP P 0 = 1 ∧ kindP P 1 = 2) (hway : wayP P = 4) :
    Calls Try.prog 46 #[.slice a n cap, .int .i64 f, .int .i64 t] w (OwnRTag w nm al r m) := by
  obtain ⟨i0, hi, hz0, hz1, hz2⟩ := info_parts Try.infoRAttr
  have HI := Lib.hid (And.intro hi (And.intro hz0 (And.intro hz1 hz2)))
  clear hi hz0 hz1 hz2
  have HP := Lib.hid (fun w' (hb : Below w.heap.size w w') => refParts_row a n cap l w' hl hc hm (by omega) (hat.below hb) hwf f t)
  rw [hP] at HP
  have hPl := parts_len l f t
  rw [hP, hl] at hPl
  have hmem := Lib.hid (fun (x : PartA) (hx : x ∈ P) => parts_mem (l := l) (f := f) (t := t) (x := x) (by rw [hP]; exact hx))
  clear hP hat hwf
  have HKD := Lib.hid (fun (w' : World) (A : Option Addr) (q c : Nat) (R : PRow w' A q c P) (k : Nat) (hk : k ≤ 2000) (v : Nat) (hv : kindP P k = v) => kind_any R k hk hv)
  obtain ⟨k0, hk0⟩ : ∃ x, kindP P 0 = x := ⟨_, rfl⟩
  obtain ⟨k1, hk1⟩ : ∃ x, kindP P 1 = x := ⟨_, rfl⟩
  have tok1 : True := trivial
  have HWY := Lib.hid hway
  clear hway
  obtain ⟨h01a, h01b⟩ := h01
  obtain rfl : k0 = 1 := hk0.symm.trans h01a
  obtain rfl : k1 = 2 := hk1.symm.trans h01b
  clear h01a h01b
  have hP2 : 1 < P.length := by
    by_cases h : 1 < P.length
    · exact h
    · rw [kindP_past h] at hk1; omega
  obtain ⟨⟨m0, m1, m2⟩, hy⟩ : ∃ y, P[1]? = some y := ⟨_, List.getElem?_eq_getElem hP2⟩
  have hP2' : (1 : Int) < (P.length : Int) := by omega
  go_enter Try.func46, Try.ntmps46
  go_upto_block 0 with (first
    | (go_at_call 79; (refine (HP.out _ (by first | exact Below.refl _ _ | exact one_ok _ _ | exact two_ok _ _ _)).mono ?_); rintro e w1 ⟨v, rfl, hown, hb1⟩; obtain ⟨va, vc, rfl, hvc⟩ := owns_slice hown; have R1 : PRow w1 va P.length vc P := (⟨rfl, hvc, owns_cap hown, AtCells.of_owns hown⟩); obtain ⟨pb, po, hva, y0, y1, y2⟩ := par_cells R1.cells hy; subst hva; have hpb := cell_lt y0; have Y0 : (w1.alloc rtagB).cell? ⟨pb, po + 3, none⟩ = some (.int .i64 (m0 : Nat)) := kp_alloc _ (by simpa using y0); have Y1 : (w1.alloc rtagB).cell? ⟨pb, po + 4, none⟩ = some (.int .i64 (m1 : Nat)) := kp_alloc _ (by simpa [Nat.add_assoc] using y1); have Y2 : (w1.alloc rtagB).cell? ⟨pb, po + 5, none⟩ = some (.int .i64 (m2 : Nat)) := kp_alloc _ (by simpa [Nat.add_assoc] using y2))
    | (go_at_call 80; (have _t := tok1); (refine (HKD.out _ _ P.length vc (by first | exact R1 | exact R1.below (one_ok _ _) | exact R1.below (Below.refl _ _)) 0 (by omega) _ hk0).mono ?_); rintro e w2 ⟨rfl, rfl⟩; clear tok1 _t; have tok2 : True := trivial)
    | (go_at_call 80; (have _t := tok2); (refine (HKD.out _ _ P.length vc (by first | exact R1 | exact R1.below (one_ok _ _) | exact R1.below (Below.refl _ _)) 1 (by omega) _ hk1).mono ?_); rintro e w2 ⟨rfl, rfl⟩; clear tok2 _t; have tok3 : True := trivial)
    | (go_at_call 81; fail)
    | (go_at_call 82; fail))
  obtain ⟨tb, htb⟩ : ∃ tb, tb = w1.heap.size := ⟨_, rfl⟩
  obtain ⟨W1, hW1⟩ : ∃ W1, W1 = w1.alloc (.cells #[.int .i64 (m0 : Nat), .int .i64 (m1 : Nat), .int .i64 (m2 : Nat), .slice none 0 0, .bool false, .bool false] 83) := ⟨_, rfl⟩
  have hlt1 : W1.heap.size = tb + 1 := by rw [hW1, htb]; simp
  have HRB0 : RB W1 W1 tb (m0, m1, m2) (.slice none 0 0) [] := ⟨Kept.refl _ _, World.ownsRow_nil _ _ _ _, hlt1, by rw [hW1, htb]; simp, by rw [hW1, htb]; simp, by rw [hW1, htb]; simp, by rw [hW1, htb]; simp, by rw [hW1, htb]; simp, by rw [hW1, htb]; simp, fun i => by rw [hW1, htb]; simp [go_sem]⟩
  have HAT := Lib.hid (show AtB W1 tb (some ⟨pb, po, none⟩) (parsCells P) from fun j u hj => by
    obtain ⟨b, off, ha, hc⟩ := R1.cells j u hj
    exact ⟨b, off, ha, by rw [htb]; exact cell_lt hc, by rw [hW1]; exact kp_alloc _ hc⟩)
  have hvm := R1.max
  obtain ⟨⟨ae, ke⟩, hae⟩ : ∃ y, attrsI P P.length 2 = y := ⟨_, rfl⟩
  have HAE := Lib.hid hae
  have HW := Lib.hid (And.intro htb hW1)
  rw [← hW1, ← htb]
  clear y0 y1 y2 Y0 Y1 Y2 hW1 htb HP R1 hae
  go_cut [9] (fun s9 wx => ∃ (ta : Option Addr) (tc : Nat), s9 = .int .i64 (ke : Nat) ∧ ke ≤ P.length ∧ ae.length ≤ P.length ∧ Hid (RB W1 wx tb (m0, m1, m2) (.slice ta ae.length tc) ae ∧ ae.length ≤ tc))
  case first =>
    go_wp2_with fail
    go_loopw [9, 10, 11, 12] (fun kv nv _p11 _p12 wr => ∃ (kk j : Nat) (acc : List AttA) (ta : Option Addr) (tc : Nat), kv = .int .i64 kk ∧ nv = .int .i64 j ∧ j ≤ P.length ∧ kk ≤ P.length ∧ acc.length ≤ j ∧ Hid (RB W1 wr tb (m0, m1, m2) (.slice ta acc.length tc) acc ∧ acc.length ≤ tc) ∧ Hid (acc ++ (attrsI P (P.length - j) kk).1 = ae ∧ (attrsI P (P.length - j) kk).2 = ke)) (fun _ nv _ _ _ => P.length - (intOf nv).toNat)
    case atStart => exact ⟨2, 0, [], none, 0, rfl, rfl, by omega, by omega, by simp, Lib.hid ⟨HRB0, by simp⟩, Lib.hid (by rw [Nat.sub_zero, HAE.out]; exact ⟨rfl, rfl⟩)⟩
    case round =>
      clear HRB0
      obtain ⟨kk, j, acc, ta, tc, rfl, rfl, hj, hkk, haj, HB, HA⟩ := hrel
      have HROW := Lib.hid (fun (w' : World) (hk : Kept tb W1 w') => (HAT.out.kept hk).row hvc hvm)
      by_cases hlt : j < P.length
      · cases h0 : attrR P kk with
        | none =>
          have HFIN := Lib.hid (show acc = ae ∧ kk = ke from by have := HA.out; rw [show P.length - j = (P.length - (j + 1)) + 1 by omega] at this; simpa [attrsI, h0] using this)
          have HC := Lib.hid (rattr_no (HROW.out _ HB.out.1.kept) kk (by omega) h0)
          clear h0
          go_wp2_with (first
            | (go_at_call 81; (refine HC.out.mono ?_); rintro e w2 ⟨rfl, hb2⟩; have HBX := Lib.hid ((HB.out.1.next hb2).next (one_ok w2 rattB))))
          obtain ⟨e1, e2⟩ := HFIN.out
          subst e1
          subst e2
          go_meet
          exact ⟨ta, tc, rfl, hkk, by omega, Lib.hid ⟨HBX.out, HB.out.2⟩⟩
        | some y =>
          obtain ⟨⟨⟨b0, b1, b2⟩, ⟨u0, u1, u2⟩, ⟨c0, c1, c2⟩⟩, k'⟩ := y
          have hk' := attr_next h0
          have HC := Lib.hid (rattr_some' (HROW.out _ HB.out.1.kept) kk (by omega) h0)
          have HNX := Lib.hid (show (acc ++ [((b0, b1, b2), (u0, u1, u2), (c0, c1, c2))]) ++ (attrsI P (P.length - (j + 1)) k').1 = ae ∧ (attrsI P (P.length - (j + 1)) k').2 = ke by
            have := HA.out
            rw [show P.length - j = (P.length - (j + 1)) + 1 by omega] at this
            simp only [attrsI, h0] at this
            rw [List.append_assoc]
            exact this)
          have HM := Lib.hid (And.intro (show acc.length + 1 ≤ maxLen by unfold maxLen; omega) (show (acc.length + 1) * 72 ≤ 140737488355328 by omega))
          clear h0 HA
          go_wp2_with (first
            | (go_at_call 81; (refine HC.out.mono ?_); rintro e w2 ⟨rfl, hb2⟩; have HB2 := Lib.hid (HB.out.1.next hb2); have HB3 := Lib.hid (HB2.out.next (one_ok w2 (.cells #[.int .i64 b0, .int .i64 b1, .int .i64 b2, .int .i64 u0, .int .i64 u1, .int .i64 u2, .int .i64 c0, .int .i64 c1, .int .i64 c2] 87))); have X3 := HB3.out.t3)
            | (at_builtin; refine wpList_append_own _ rfl _ _ 81 rfl W1.heap.size 87 i0 _ 9 72 Try.underlying81 HI.out.1 HI.out.2.1 HI.out.2.2.1 HI.out.2.2.2 rfl (by decide) _ _ _ rfl (HB3.out.own.alloc _) _ _ _ (attCells ((b0, b1, b2), (u0, u1, u2), (c0, c1, c2))) rfl rfl (new_cells_at _ (attCells ((b0, b1, b2), (u0, u1, u2), (c0, c1, c2))) _ _ (by simp)) (attCells_one _) HM.out.1 HM.out.2 (by have := HB3.out.kept.size; simp at this ⊢; omega) ?_; intro v' w4 hown' hg' _; obtain ⟨ta', tc', rfl, htc'⟩ := owns_slice hown'; obtain ⟨Z3, Z4⟩ := HB3.out.at3 hg' (fun g hg => (HB3.out.own.lt g hg).1); have HF := Lib.hid (show RB W1 (w4.setCell ⟨tb, 3, none⟩ (.slice ta' (acc.length + 1) tc')) tb (m0, m1, m2) (.slice ta' (acc.length + 1) tc') (acc ++ [((b0, b1, b2), (u0, u1, u2), (c0, c1, c2))]) from HB3.out.grow hg' (fun g hg => (HB3.out.own.lt g hg).1) (by rw [attsCells_snoc, List.length_append]; exact hown') (fun hc => by have := (hown'.lt _ hc).1; omega)); clear hown' hg' X3))
          go_roundw
          case rel => exact ⟨k', j + 1, acc ++ [((b0, b1, b2), (u0, u1, u2), (c0, c1, c2))], ta', tc', rfl, by go_num, by omega, hk', by rw [List.length_append, List.length_singleton]; omega, Lib.hid ⟨by rw [List.length_append, List.length_singleton]; exact HF.out, by rw [List.length_append, List.length_singleton]; exact htc'⟩, HNX⟩
          case measure => simp [intOf]; omega
      · have HFIN := Lib.hid (show acc = ae ∧ kk = ke from by have := HA.out; rw [show P.length - j = 0 by omega] at this; simpa [attrsI] using this)
        go_wp2_with fail
        obtain ⟨e1, e2⟩ := HFIN.out
        subst e1
        subst e2
        go_meet
        exact ⟨ta, tc, rfl, hkk, by omega, Lib.hid ⟨HB.out.1, HB.out.2⟩⟩
  case rest =>
    obtain ⟨ta, tc, rfl, hkk, haj, HB⟩ := hcut
    have HROW := Lib.hid (fun (w' : World) (hk : Kept tb W1 w') => (HAT.out.kept hk).row hvc hvm)
    obtain ⟨bl, hbl⟩ : ∃ x, blankP P ke = x := ⟨_, rfl⟩
    obtain ⟨kb, hkb⟩ : ∃ x, kindP P bl = x := ⟨_, rfl⟩
    have hblb : bl ≤ ke + 1 := by rw [← hbl, blankP]; split <;> omega
    have HBL := Lib.hid hbl
    have HKB := Lib.hid hkb
    have tokB : True := trivial
    have HBX := Lib.hid HB.out.1
    have hcs : kb ≠ 6 ∨ (kb = 6 ∧ bl + 1 ≠ P.length) ∨ (kb = 6 ∧ bl + 1 = P.length) := by omega
    clear hbl hkb
    rcases hcs with hn | ⟨rfl, hn⟩ | ⟨rfl, hn⟩
    · exfalso; have hw := HWY.out; unfold wayP at hw; simp only [HAE.out, HBL.out, HKB.out] at hw; simp [hn] at hw
    · exfalso; have hw := HWY.out; unfold wayP at hw; simp only [HAE.out, HBL.out, HKB.out] at hw; simp [hn] at hw
    · have HRV := Lib.hid (readI_yes (bl := bl) hk0 hk1 HAE.out HBL.out ⟨HKB.out, hn⟩)
      obtain ⟨la, hla⟩ : ∃ la, la = ae.length := ⟨_, rfl⟩
      have HLA := Lib.hid hla
      have hn' : (bl : Int) + 1 = P.length := by omega
      have hblq : bl < P.length := by omega
      obtain ⟨⟨h0', h1', h2'⟩, hx0⟩ : ∃ y, P[0]? = some y := ⟨_, List.getElem?_eq_getElem (by omega)⟩
      obtain ⟨⟨e0, e1, e2⟩, hxe⟩ : ∃ y, P[bl]? = some y := ⟨_, List.getElem?_eq_getElem hblq⟩
      have hm0 := hmem.out _ (List.mem_of_getElem? hx0)
      have hme := hmem.out _ (List.mem_of_getElem? hxe)
      simp only [hl] at hm0 hme
      have ew0 : IntKind.i64.wrap ((h2' : Int) - h1') = (h2' : Int) - h1' := IntWalk.i64_in _ (by omega)
      have ewe : IntKind.i64.wrap ((e2 : Int) - e1) = (e2 : Int) - e1 := IntWalk.i64_in _ (by omega)
      have i1 : (0 : Int) < (P.length : Int) := by omega
      have i2 : (bl : Int) < (P.length : Int) := by omega
      have i3 : 0 < P.length := by omega
      obtain ⟨E, hE⟩ : ∃ E, lenB (h0', h1', h2') 2 = E := ⟨_, rfl⟩
      obtain ⟨S, hS⟩ : ∃ S, lenB (e0, e1, e2) 2 = S := ⟨_, rfl⟩
      have HES := Lib.hid (And.intro hE hS)
      have qE : ((h2' : Int) - h1' == 2) = E := by rw [← hE]; rfl
      have qS : ((e2 : Int) - e1 == 2) = S := by rw [← hS]; rfl
      clear hE hS
      have HQ : (nm, al, r, m) = if E && (S || decide (0 < la)) then ((m0, m1, m2), ae, false, false) else ((m0, m1, m2), ae, true, S) := by
        rw [hla, ← hR, HRV.out]
        simp only [List.getD_eq_getElem?_getD, hy, hx0, hxe, Option.getD_some, HES.out.1, HES.out.2]
      have HQ2 := Lib.hid HQ
      clear HQ
      have HBX : Hid (RB W1 wc tb (m0, m1, m2) (.slice ta la tc) ae) := Lib.hid (by rw [hla]; exact HB.out.1)
      have hcs3 : (E = false ∧ S = false) ∨ (E = false ∧ S = true) ∨ (E = true ∧ S = true ∧ la = 0) ∨ (E = true ∧ S = true ∧ 0 < la) ∨ (E = true ∧ S = false ∧ la = 0) ∨ (E = true ∧ S = false ∧ 0 < la) := by
        have hz : la = 0 ∨ 0 < la := by omega
        cases E <;> cases S <;> simp [hz] <;> omega
      clear hla
      have hg0 : P.getD 0 (0, 0, 0) = (h0', h1', h2') := by rw [List.getD_eq_getElem?_getD, hx0]; rfl
      have hge : P.getD bl (0, 0, 0) = (e0, e1, e2) := by rw [List.getD_eq_getElem?_getD, hxe]; rfl
      have HG := Lib.hid (And.intro hg0 hge)
      clear hg0 hge
      rcases hcs3 with ⟨rfl, rfl⟩ | ⟨rfl, rfl⟩ | ⟨rfl, rfl, rfl⟩ | ⟨rfl, rfl, hal⟩ | ⟨rfl, rfl, rfl⟩ | ⟨rfl, rfl, hal⟩
      · exfalso; have hw := HWY.out; unfold wayP at hw; simp only [HAE.out, HBL.out, HKB.out, HG.out.1, HG.out.2, HES.out.1, HES.out.2, ← HLA.out] at hw; simp [hn] at hw; try (revert hw; (repeat' split) <;> (intro hw; omega))
      · exfalso; have hw := HWY.out; unfold wayP at hw; simp only [HAE.out, HBL.out, HKB.out, HG.out.1, HG.out.2, HES.out.1, HES.out.2, ← HLA.out] at hw; simp [hn] at hw; try (revert hw; (repeat' split) <;> (intro hw; omega))
      · go_wp2_with (first
          | (go_at_call 82; (have _t := tokB); (refine (blank_any (HROW.out _ HBX.out.kept) ke (by omega) HBL.out).mono ?_); rintro e w5 ⟨rfl, rfl⟩; clear tokB _t; obtain ⟨y0, y1, y2, y3, y4, y5, yz⟩ := rres_cells hb1 (by rw [← HW.out.1, ← HW.out.2]; exact HBX.out.kept); have x0 := HBX.out.t0; have x1 := HBX.out.t1; have x2 := HBX.out.t2; have x3 := HBX.out.t3; have x4 := HBX.out.t4; have x5 := HBX.out.t5; have xz := HBX.out.fz; have hng : ¬ w.heap.size = tb := (by rw [HW.out.1]; have := hb1.size; simp at this; omega); have hng2 : ¬ tb = w.heap.size := (fun h => hng h.symm); obtain ⟨gb, go, hgq, g0, g1, g2⟩ := par_cells (HROW.out _ HBX.out.kept).cells hx0; (simp only [Option.some.injEq, Addr.mk.injEq] at hgq); obtain ⟨rfl, rfl, _⟩ := hgq; obtain ⟨gb, go, hgq, z0, z1, z2⟩ := par_cells (HROW.out _ HBX.out.kept).cells hxe; (simp only [Option.some.injEq, Addr.mk.injEq] at hgq); obtain ⟨rfl, rfl, _⟩ := hgq; (simp only [Nat.zero_mul, Nat.add_zero] at g0 g1 g2))
          | (go_at_call 80; (refine (kind_any (HROW.out _ HBX.out.kept) bl (by omega) HKB.out).mono ?_); rintro e w5 ⟨rfl, rfl⟩))
        go_quiet (fail)
        go_wp2
        go_quiet (fail)
        go_wp2
        have HQ := HQ2.out
        simp at HQ
        obtain ⟨q1, q2, q3, q4⟩ := HQ
        have HD := fun q => RB.fin (w := w) (by rw [← HW.out.1, ← HW.out.2]; exact HBX.out) hb1 false false (.int .i64 m0) (.int .i64 m1) (.int .i64 m2) (.slice ta 0 tc) (.bool false) (.bool false) q
        rw [← HW.out.1, ← HLA.out] at HD
        refine bodyPost_ret (v := tagI m0 m1 m2 (.slice ta 0 tc) false false) ?_ rfl (by rw [q1, q2, q3, q4]; exact ⟨_, rfl, by rw [← HLA.out]; exact (HD _).1, (HD _).2⟩)
        simp [results, Try.results46, go_sem, y0, y1, y2, y3, y4, y5, hng, hng2]
      · exfalso; have hw := HWY.out; unfold wayP at hw; simp only [HAE.out, HBL.out, HKB.out, HG.out.1, HG.out.2, HES.out.1, HES.out.2, ← HLA.out] at hw; simp [hn] at hw; try (revert hw; (repeat' split) <;> (intro hw; omega))
      · exfalso; have hw := HWY.out; unfold wayP at hw; simp only [HAE.out, HBL.out, HKB.out, HG.out.1, HG.out.2, HES.out.1, HES.out.2, ← HLA.out] at hw; simp [hn] at hw; try (revert hw; (repeat' split) <;> (intro hw; omega))
      · exfalso; have hw := HWY.out; unfold wayP at hw; simp only [HAE.out, HBL.out, HKB.out, HG.out.1, HG.out.2, HES.out.1, HES.out.2, ← HLA.out] at hw; simp [hn] at hw; try (revert hw; (repeat' split) <;> (intro hw; omega))

set_option maxRecDepth 20000 in
set_option maxHeartbeats 4000000 in
theorem refRead_w5 (a : Option Addr) (n cap : Nat) (l : List Int) (w : World) (hl : l.length = n) (hc : n ≤ cap) (hm : cap ≤ maxLen) (hn : n ≤ 800) (hat : AtCells w a (l.map (.int .i32))) (hwf : ∀ j, -2147483648 ≤ l.getD j 0 ∧ l.getD j 0 ≤ 2147483647) (f t : Int) {nm : PartA} {al : List AttA} {r m : Bool} {P : List PartA} (hP : parts l f t = P) (hR : readI P = (nm, al, r, m)) (h01 : kindP P 0 = 1 ∧ kindP P 1 = 2) (hway : wayP P = 5) :
    Calls Try.prog 46 #[.slice a n cap, .int .i64 f, .int .i64 t] w (OwnRTag w nm al r m) := by
  obtain ⟨i0, hi, hz0, hz1, hz2⟩ := info_parts Try.infoRAttr
  have HI := Lib.hid (And.intro hi (And.intro hz0 (And.intro hz1 hz2)))
  clear hi hz0 hz1 hz2
  have HP := Lib.hid (fun w' (hb : Below w.heap.size w w') => refParts_row a n cap l w' hl hc hm (by omega) (hat.below hb) hwf f t)
  rw [hP] at HP
  have hPl := parts_len l f t
  rw [hP, hl] at hPl
  have hmem := Lib.hid (fun (x : PartA) (hx : x ∈ P) => parts_mem (l := l) (f := f) (t := t) (x := x) (by rw [hP]; exact hx))
  clear hP hat hwf
  have HKD := Lib.hid (fun (w' : World) (A : Option Addr) (q c : Nat) (R : PRow w' A q c P) (k : Nat) (hk : k ≤ 2000) (v : Nat) (hv : kindP P k = v) => kind_any R k hk hv)
  obtain ⟨k0, hk0⟩ : ∃ x, kindP P 0 = x := ⟨_, rfl⟩
  obtain ⟨k1, hk1⟩ : ∃ x, kindP P 1 = x := ⟨_, rfl⟩
  have tok1 : True := trivial
  have HWY := Lib.hid hway
  clear hway
  obtain ⟨h01a, h01b⟩ := h01
  obtain rfl : k0 = 1 := hk0.symm.trans h01a
  obtain rfl : k1 = 2 := hk1.symm.trans h01b
  clear h01a h01b
  have hP2 : 1 < P.length := by
    by_cases h : 1 < P.length
    · exact h
    · rw [kindP_past h] at hk1; omega
  obtain ⟨⟨m0, m1, m2⟩, hy⟩ : ∃ y, P[1]? = some y := ⟨_, List.getElem?_eq_getElem hP2⟩
  have hP2' : (1 : Int) < (P.length : Int) := by omega
  go_enter Try.func46, Try.ntmps46
  go_upto_block 0 with (first
    | (go_at_call 79; (refine (HP.out _ (by first | exact Below.refl _ _ | exact one_ok _ _ | exact two_ok _ _ _)).mono ?_); rintro e w1 ⟨v, rfl, hown, hb1⟩; obtain ⟨va, vc, rfl, hvc⟩ := owns_slice hown; have R1 : PRow w1 va P.length vc P := (⟨rfl, hvc, owns_cap hown, AtCells.of_owns hown⟩); obtain ⟨pb, po, hva, y0, y1, y2⟩ := par_cells R1.cells hy; subst hva; have hpb := cell_lt y0; have Y0 : (w1.alloc rtagB).cell? ⟨pb, po + 3, none⟩ = some (.int .i64 (m0 : Nat)) := kp_alloc _ (by simpa using y0); have Y1 : (w1.alloc rtagB).cell? ⟨pb, po + 4, none⟩ = some (.int .i64 (m1 : Nat)) := kp_alloc _ (by simpa [Nat.add_assoc] using y1); have Y2 : (w1.alloc rtagB).cell? ⟨pb, po + 5, none⟩ = some (.int .i64 (m2 : Nat)) := kp_alloc _ (by simpa [Nat.add_assoc] using y2))
    | (go_at_call 80; (have _t := tok1); (refine (HKD.out _ _ P.length vc (by first | exact R1 | exact R1.below (one_ok _ _) | exact R1.below (Below.refl _ _)) 0 (by omega) _ hk0).mono ?_); rintro e w2 ⟨rfl, rfl⟩; clear tok1 _t; have tok2 : True := trivial)
    | (go_at_call 80; (have _t := tok2); (refine (HKD.out _ _ P.length vc (by first | exact R1 | exact R1.below (one_ok _ _) | exact R1.below (Below.refl _ _)) 1 (by omega) _ hk1).mono ?_); rintro e w2 ⟨rfl, rfl⟩; clear tok2 _t; have tok3 : True := trivial)
    | (go_at_call 81; fail)
    | (go_at_call 82; fail))
  obtain ⟨tb, htb⟩ : ∃ tb, tb = w1.heap.size := ⟨_, rfl⟩
  obtain ⟨W1, hW1⟩ : ∃ W1, W1 = w1.alloc (.cells #[.int .i64 (m0 : Nat), .int .i64 (m1 : Nat), .int .i64 (m2 : Nat), .slice none 0 0, .bool false, .bool false] 83) := ⟨_, rfl⟩
  have hlt1 : W1.heap.size = tb + 1 := by rw [hW1, htb]; simp
  have HRB0 : RB W1 W1 tb (m0, m1, m2) (.slice none 0 0) [] := ⟨Kept.refl _ _, World.ownsRow_nil _ _ _ _, hlt1, by rw [hW1, htb]; simp, by rw [hW1, htb]; simp, by rw [hW1, htb]; simp, by rw [hW1, htb]; simp, by rw [hW1, htb]; simp, by rw [hW1, htb]; simp, fun i => by rw [hW1, htb]; simp [go_sem]⟩
  have HAT := Lib.hid (show AtB W1 tb (some ⟨pb, po, none⟩) (parsCells P) from fun j u hj => by
    obtain ⟨b, off, ha, hc⟩ := R1.cells j u hj
    exact ⟨b, off, ha, by rw [htb]; exact cell_lt hc, by rw [hW1]; exact kp_alloc _ hc⟩)
  have hvm := R1.max
  obtain ⟨⟨ae, ke⟩, hae⟩ : ∃ y, attrsI P P.length 2 = y := ⟨_, rfl⟩
  have HAE := Lib.hid hae
  have HW := Lib.hid (And.intro htb hW1)
  rw [← hW1, ← htb]
  clear y0 y1 y2 Y0 Y1 Y2 hW1 htb HP R1 hae
  go_cut [9] (fun s9 wx => ∃ (ta : Option Addr) (tc : Nat), s9 = .int .i64 (ke : Nat) ∧ ke ≤ P.length ∧ ae.length ≤ P.length ∧ Hid (RB W1 wx tb (m0, m1, m2) (.slice ta ae.length tc) ae ∧ ae.length ≤ tc))
  case first =>
    go_wp2_with fail
    go_loopw [9, 10, 11, 12] (fun kv nv _p11 _p12 wr => ∃ (kk j : Nat) (acc : List AttA) (ta : Option Addr) (tc : Nat), kv = .int .i64 kk ∧ nv = .int .i64 j ∧ j ≤ P.length ∧ kk ≤ P.length ∧ acc.length ≤ j ∧ Hid (RB W1 wr tb (m0, m1, m2) (.slice ta acc.length tc) acc ∧ acc.length ≤ tc) ∧ Hid (acc ++ (attrsI P (P.length - j) kk).1 = ae ∧ (attrsI P (P.length - j) kk).2 = ke)) (fun _ nv _ _ _ => P.length - (intOf nv).toNat)
    case atStart => exact ⟨2, 0, [], none, 0, rfl, rfl, by omega, by omega, by simp, Lib.hid ⟨HRB0, by simp⟩, Lib.hid (by rw [Nat.sub_zero, HAE.out]; exact ⟨rfl, rfl⟩)⟩
    case round =>
      clear HRB0
      obtain ⟨kk, j, acc, ta, tc, rfl, rfl, hj, hkk, haj, HB, HA⟩ := hrel
      have HROW := Lib.hid (fun (w' : World) (hk : Kept tb W1 w') => (HAT.out.kept hk).row hvc hvm)
      by_cases hlt : j < P.length
      · cases h0 : attrR P kk with
        | none =>
          have HFIN := Lib.hid (show acc = ae ∧ kk = ke from by have := HA.out; rw [show P.length - j = (P.length - (j + 1)) + 1 by omega] at this; simpa [attrsI, h0] using this)
          have HC := Lib.hid (rattr_no (HROW.out _ HB.out.1.kept) kk (by omega) h0)
          clear h0
          go_wp2_with (first
            | (go_at_call 81; (refine HC.out.mono ?_); rintro e w2 ⟨rfl, hb2⟩; have HBX := Lib.hid ((HB.out.1.next hb2).next (one_ok w2 rattB))))
          obtain ⟨e1, e2⟩ := HFIN.out
          subst e1
          subst e2
          go_meet
          exact ⟨ta, tc, rfl, hkk, by omega, Lib.hid ⟨HBX.out, HB.out.2⟩⟩
        | some y =>
          obtain ⟨⟨⟨b0, b1, b2⟩, ⟨u0, u1, u2⟩, ⟨c0, c1, c2⟩⟩, k'⟩ := y
          have hk' := attr_next h0
          have HC := Lib.hid (rattr_some' (HROW.out _ HB.out.1.kept) kk (by omega) h0)
          have HNX := Lib.hid (show (acc ++ [((b0, b1, b2), (u0, u1, u2), (c0, c1, c2))]) ++ (attrsI P (P.length - (j + 1)) k').1 = ae ∧ (attrsI P (P.length - (j + 1)) k').2 = ke by
            have := HA.out
            rw [show P.length - j = (P.length - (j + 1)) + 1 by omega] at this
            simp only [attrsI, h0] at this
            rw [List.append_assoc]
            exact this)
          have HM := Lib.hid (And.intro (show acc.length + 1 ≤ maxLen by unfold maxLen; omega) (show (acc.length + 1) * 72 ≤ 140737488355328 by omega))
          clear h0 HA
          go_wp2_with (first
            | (go_at_call 81; (refine HC.out.mono ?_); rintro e w2 ⟨rfl, hb2⟩; have HB2 := Lib.hid (HB.out.1.next hb2); have HB3 := Lib.hid (HB2.out.next (one_ok w2 (.cells #[.int .i64 b0, .int .i64 b1, .int .i64 b2, .int .i64 u0, .int .i64 u1, .int .i64 u2, .int .i64 c0, .int .i64 c1, .int .i64 c2] 87))); have X3 := HB3.out.t3)
            | (at_builtin; refine wpList_append_own _ rfl _ _ 81 rfl W1.heap.size 87 i0 _ 9 72 Try.underlying81 HI.out.1 HI.out.2.1 HI.out.2.2.1 HI.out.2.2.2 rfl (by decide) _ _ _ rfl (HB3.out.own.alloc _) _ _ _ (attCells ((b0, b1, b2), (u0, u1, u2), (c0, c1, c2))) rfl rfl (new_cells_at _ (attCells ((b0, b1, b2), (u0, u1, u2), (c0, c1, c2))) _ _ (by simp)) (attCells_one _) HM.out.1 HM.out.2 (by have := HB3.out.kept.size; simp at this ⊢; omega) ?_; intro v' w4 hown' hg' _; obtain ⟨ta', tc', rfl, htc'⟩ := owns_slice hown'; obtain ⟨Z3, Z4⟩ := HB3.out.at3 hg' (fun g hg => (HB3.out.own.lt g hg).1); have HF := Lib.hid (show RB W1 (w4.setCell ⟨tb, 3, none⟩ (.slice ta' (acc.length + 1) tc')) tb (m0, m1, m2) (.slice ta' (acc.length + 1) tc') (acc ++ [((b0, b1, b2), (u0, u1, u2), (c0, c1, c2))]) from HB3.out.grow hg' (fun g hg => (HB3.out.own.lt g hg).1) (by rw [attsCells_snoc, List.length_append]; exact hown') (fun hc => by have := (hown'.lt _ hc).1; omega)); clear hown' hg' X3))
          go_roundw
          case rel => exact ⟨k', j + 1, acc ++ [((b0, b1, b2), (u0, u1, u2), (c0, c1, c2))], ta', tc', rfl, by go_num, by omega, hk', by rw [List.length_append, List.length_singleton]; omega, Lib.hid ⟨by rw [List.length_append, List.length_singleton]; exact HF.out, by rw [List.length_append, List.length_singleton]; exact htc'⟩, HNX⟩
          case measure => simp [intOf]; omega
      · have HFIN := Lib.hid (show acc = ae ∧ kk = ke from by have := HA.out; rw [show P.length - j = 0 by omega] at this; simpa [attrsI] using this)
        go_wp2_with fail
        obtain ⟨e1, e2⟩ := HFIN.out
        subst e1
        subst e2
        go_meet
        exact ⟨ta, tc, rfl, hkk, by omega, Lib.hid ⟨HB.out.1, HB.out.2⟩⟩
  case rest =>
    obtain ⟨ta, tc, rfl, hkk, haj, HB⟩ := hcut
    have HROW := Lib.hid (fun (w' : World) (hk : Kept tb W1 w') => (HAT.out.kept hk).row hvc hvm)
    obtain ⟨bl, hbl⟩ : ∃ x, blankP P ke = x := ⟨_, rfl⟩
    obtain ⟨kb, hkb⟩ : ∃ x, kindP P bl = x := ⟨_, rfl⟩
    have hblb : bl ≤ ke + 1 := by rw [← hbl, blankP]; split <;> omega
    have HBL := Lib.hid hbl
    have HKB := Lib.hid hkb
    have tokB : True := trivial
    have HBX := Lib.hid HB.out.1
    have hcs : kb ≠ 6 ∨ (kb = 6 ∧ bl + 1 ≠ P.length) ∨ (kb = 6 ∧ bl + 1 = P.length) := by omega
    clear hbl hkb
    rcases hcs with hn | ⟨rfl, hn⟩ | ⟨rfl, hn⟩
    · exfalso; have hw := HWY.out; unfold wayP at hw; simp only [HAE.out, HBL.out, HKB.out] at hw; simp [hn] at hw
    · exfalso; have hw := HWY.out; unfold wayP at hw; simp only [HAE.out, HBL.out, HKB.out] at hw; simp [hn] at hw
    · have HRV := Lib.hid (readI_yes (bl := bl) hk0 hk1 HAE.out HBL.out ⟨HKB.out, hn⟩)
      obtain ⟨la, hla⟩ : ∃ la, la = ae.length := ⟨_, rfl⟩
      have HLA := Lib.hid hla
      have hn' : (bl : Int) + 1 = P.length := by omega
      have hblq : bl < P.length := by omega
      obtain ⟨⟨h0', h1', h2'⟩, hx0⟩ : ∃ y, P[0]? = some y := ⟨_, List.getElem?_eq_getElem (by omega)⟩
      obtain ⟨⟨e0, e1, e2⟩, hxe⟩ : ∃ y, P[bl]? = some y := ⟨_, List.getElem?_eq_getElem hblq⟩
      have hm0 := hmem.out _ (List.mem_of_getElem? hx0)
      have hme := hmem.out _ (List.mem_of_getElem? hxe)
      simp only [hl] at hm0 hme
      have ew0 : IntKind.i64.wrap ((h2' : Int) - h1') = (h2' : Int) - h1' := IntWalk.i64_in _ (by omega)
      have ewe : IntKind.i64.wrap ((e2 : Int) - e1) = (e2 : Int) - e1 := IntWalk.i64_in _ (by omega)
      have i1 : (0 : Int) < (P.length : Int) := by omega
      have i2 : (bl : Int) < (P.length : Int) := by omega
      have i3 : 0 < P.length := by omega
      obtain ⟨E, hE⟩ : ∃ E, lenB (h0', h1', h2') 2 = E := ⟨_, rfl⟩
      obtain ⟨S, hS⟩ : ∃ S, lenB (e0, e1, e2) 2 = S := ⟨_, rfl⟩
      have HES := Lib.hid (And.intro hE hS)
      have qE : ((h2' : Int) - h1' == 2) = E := by rw [← hE]; rfl
      have qS : ((e2 : Int) - e1 == 2) = S := by rw [← hS]; rfl
      clear hE hS
      have HQ : (nm, al, r, m) = if E && (S || decide (0 < la)) then ((m0, m1, m2), ae, false, false) else ((m0, m1, m2), ae, true, S) := by
        rw [hla, ← hR, HRV.out]
        simp only [List.getD_eq_getElem?_getD, hy, hx0, hxe, Option.getD_some, HES.out.1, HES.out.2]
      have HQ2 := Lib.hid HQ
      clear HQ
      have HBX : Hid (RB W1 wc tb (m0, m1, m2) (.slice ta la tc) ae) := Lib.hid (by rw [hla]; exact HB.out.1)
      have hcs3 : (E = false ∧ S = false) ∨ (E = false ∧ S = true) ∨ (E = true ∧ S = true ∧ la = 0) ∨ (E = true ∧ S = true ∧ 0 < la) ∨ (E = true ∧ S = false ∧ la = 0) ∨ (E = true ∧ S = false ∧ 0 < la) := by
        have hz : la = 0 ∨ 0 < la := by omega
        cases E <;> cases S <;> simp [hz] <;> omega
      clear hla
      have hg0 : P.getD 0 (0, 0, 0) = (h0', h1', h2') := by rw [List.getD_eq_getElem?_getD, hx0]; rfl
      have hge : P.getD bl (0, 0, 0) = (e0, e1, e2) := by rw [List.getD_eq_getElem?_getD, hxe]; rfl
      have HG := Lib.hid (And.intro hg0 hge)
      clear hg0 hge
      rcases hcs3 with ⟨rfl, rfl⟩ | ⟨rfl, rfl⟩ | ⟨rfl, rfl, rfl⟩ | ⟨rfl, rfl, hal⟩ | ⟨rfl, rfl, rfl⟩ | ⟨rfl, rfl, hal⟩
      · exfalso; have hw := HWY.out; unfold wayP at hw; simp only [HAE.out, HBL.out, HKB.out, HG.out.1, HG.out.2, HES.out.1, HES.out.2, ← HLA.out] at hw; simp [hn] at hw; try (revert hw; (repeat' split) <;> (intro hw; omega))
      · exfalso; have hw := HWY.out; unfold wayP at hw; simp only [HAE.out, HBL.out, HKB.out, HG.out.1, HG.out.2, HES.out.1, HES.out.2, ← HLA.out] at hw; simp [hn] at hw; try (revert hw; (repeat' split) <;> (intro hw; omega))
      · exfalso; have hw := HWY.out; unfold wayP at hw; simp only [HAE.out, HBL.out, HKB.out, HG.out.1, HG.out.2, HES.out.1, HES.out.2, ← HLA.out] at hw; simp [hn] at hw; try (revert hw; (repeat' split) <;> (intro hw; omega))
      · have hal2 : (((la : Nat) : Int) == 0) = false := by simp; omega
        go_wp2_with (first
          | (go_at_call 82; (have _t := tokB); (refine (blank_any (HROW.out _ HBX.out.kept) ke (by omega) HBL.out).mono ?_); rintro e w5 ⟨rfl, rfl⟩; clear tokB _t; obtain ⟨y0, y1, y2, y3, y4, y5, yz⟩ := rres_cells hb1 (by rw [← HW.out.1, ← HW.out.2]; exact HBX.out.kept); have x0 := HBX.out.t0; have x1 := HBX.out.t1; have x2 := HBX.out.t2; have x3 := HBX.out.t3; have x4 := HBX.out.t4; have x5 := HBX.out.t5; have xz := HBX.out.fz; have hng : ¬ w.heap.size = tb := (by rw [HW.out.1]; have := hb1.size; simp at this; omega); have hng2 : ¬ tb = w.heap.size := (fun h => hng h.symm); obtain ⟨gb, go, hgq, g0, g1, g2⟩ := par_cells (HROW.out _ HBX.out.kept).cells hx0; (simp only [Option.some.injEq, Addr.mk.injEq] at hgq); obtain ⟨rfl, rfl, _⟩ := hgq; obtain ⟨gb, go, hgq, z0, z1, z2⟩ := par_cells (HROW.out _ HBX.out.kept).cells hxe; (simp only [Option.some.injEq, Addr.mk.injEq] at hgq); obtain ⟨rfl, rfl, _⟩ := hgq; (simp only [Nat.zero_mul, Nat.add_zero] at g0 g1 g2))
          | (go_at_call 80; (refine (kind_any (HROW.out _ HBX.out.kept) bl (by omega) HKB.out).mono ?_); rintro e w5 ⟨rfl, rfl⟩))
        go_quiet (fail)
        go_wp2
        go_quiet (fail)
        go_wp2
        have HQ := HQ2.out
        simp [hal] at HQ
        obtain ⟨q1, q2, q3, q4⟩ := HQ
        have HD := fun q => RB.fin (w := w) (by rw [← HW.out.1, ← HW.out.2]; exact HBX.out) hb1 false false (.int .i64 m0) (.int .i64 m1) (.int .i64 m2) (.slice ta la tc) (.bool false) (.bool false) q
        rw [← HW.out.1, ← HLA.out] at HD
        refine bodyPost_ret (v := tagI m0 m1 m2 (.slice ta la tc) false false) ?_ rfl (by rw [q1, q2, q3, q4]; exact ⟨_, rfl, by rw [← HLA.out]; exact (HD _).1, (HD _).2⟩)
        simp [results, Try.results46, go_sem, y0, y1, y2, y3, y4, y5, hng, hng2]
      · exfalso; have hw := HWY.out; unfold wayP at hw; simp only [HAE.out, HBL.out, HKB.out, HG.out.1, HG.out.2, HES.out.1, HES.out.2, ← HLA.out] at hw; simp [hn] at hw; try (revert hw; (repeat' split) <;> (intro hw; omega))
      · exfalso; have hw := HWY.out; unfold wayP at hw; simp only [HAE.out, HBL.out, HKB.out, HG.out.1, HG.out.2, HES.out.1, HES.out.2, ← HLA.out] at hw; simp [hn] at hw; try (revert hw; (repeat' split) <;> (intro hw; omega))

set_option maxRecDepth 20000 in
set_option maxHeartbeats 4000000 in
theorem refRead_w6 (a : Option Addr) (n cap : Nat) (l : List Int) (w : World) (hl : l.length = n) (hc : n ≤ cap) (hm : cap ≤ maxLen) (hn : n ≤ 800) (hat : AtCells w a (l.map (.int .i32))) (hwf : ∀ j, -2147483648 ≤ l.getD j 0 ∧ l.getD j 0 ≤ 2147483647) (f t : Int) {nm : PartA} {al : List AttA} {r m : Bool} {P : List PartA} (hP : parts l f t = P) (hR : readI P = (nm, al, r, m)) (h01 : kindP P 0 = 1 ∧ kindP P 1 = 2) (hway : wayP P = 6) :
    Calls Try.prog 46 #[.slice a n cap, .int .i64 f, .int .i64 t] w (OwnRTag w nm al r m) := by
  obtain ⟨i0, hi, hz0, hz1, hz2⟩ := info_parts Try.infoRAttr
  have HI := Lib.hid (And.intro hi (And.intro hz0 (And.intro hz1 hz2)))
  clear hi hz0 hz1 hz2
  have HP := Lib.hid (fun w' (hb : Below w.heap.size w w') => refParts_row a n cap l w' hl hc hm (by omega) (hat.below hb) hwf f t)
  rw [hP] at HP
  have hPl := parts_len l f t
  rw [hP, hl] at hPl
  have hmem := Lib.hid (fun (x : PartA) (hx : x ∈ P) => parts_mem (l := l) (f := f) (t := t) (x := x) (by rw [hP]; exact hx))
  clear hP hat hwf
  have HKD := Lib.hid (fun (w' : World) (A : Option Addr) (q c : Nat) (R : PRow w' A q c P) (k : Nat) (hk : k ≤ 2000) (v : Nat) (hv : kindP P k = v) => kind_any R k hk hv)
  obtain ⟨k0, hk0⟩ : ∃ x, kindP P 0 = x := ⟨_, rfl⟩
  obtain ⟨k1, hk1⟩ : ∃ x, kindP P 1 = x := ⟨_, rfl⟩
  have tok1 : True := trivial
  have HWY := Lib.hid hway
  clear hway
  obtain ⟨h01a, h01b⟩ := h01
  obtain rfl : k0 = 1 := hk0.symm.trans h01a
  obtain rfl : k1 = 2 := hk1.symm.trans h01b
  clear h01a h01b
  have hP2 : 1 < P.length := by
    by_cases h : 1 < P.length
    · exact h
    · rw [kindP_past h] at hk1; omega
  obtain ⟨⟨m0, m1, m2⟩, hy⟩ : ∃ y, P[1]? = some y := ⟨_, List.getElem?_eq_getElem hP2⟩
  have hP2' : (1 : Int) < (P.length : Int) := by omega
  go_enter Try.func46, Try.ntmps46
  go_upto_block 0 with (first
    | (go_at_call 79; (refine (HP.out _ (by first | exact Below.refl _ _ | exact one_ok _ _ | exact two_ok _ _ _)).mono ?_); rintro e w1 ⟨v, rfl, hown, hb1⟩; obtain ⟨va, vc, rfl, hvc⟩ := owns_slice hown; have R1 : PRow w1 va P.length vc P := (⟨rfl, hvc, owns_cap hown, AtCells.of_owns hown⟩); obtain ⟨pb, po, hva, y0, y1, y2⟩ := par_cells R1.cells hy; subst hva; have hpb := cell_lt y0; have Y0 : (w1.alloc rtagB).cell? ⟨pb, po + 3, none⟩ = some (.int .i64 (m0 : Nat)) := kp_alloc _ (by simpa using y0); have Y1 : (w1.alloc rtagB).cell? ⟨pb, po + 4, none⟩ = some (.int .i64 (m1 : Nat)) := kp_alloc _ (by simpa [Nat.add_assoc] using y1); have Y2 : (w1.alloc rtagB).cell? ⟨pb, po + 5, none⟩ = some (.int .i64 (m2 : Nat)) := kp_alloc _ (by simpa [Nat.add_assoc] using y2))
    | (go_at_call 80; (have _t := tok1); (refine (HKD.out _ _ P.length vc (by first | exact R1 | exact R1.below (one_ok _ _) | exact R1.below (Below.refl _ _)) 0 (by omega) _ hk0).mono ?_); rintro e w2 ⟨rfl, rfl⟩; clear tok1 _t; have tok2 : True := trivial)
    | (go_at_call 80; (have _t := tok2); (refine (HKD.out _ _ P.length vc (by first | exact R1 | exact R1.below (one_ok _ _) | exact R1.below (Below.refl _ _)) 1 (by omega) _ hk1).mono ?_); rintro e w2 ⟨rfl, rfl⟩; clear tok2 _t; have tok3 : True := trivial)
    | (go_at_call 81; fail)
    | (go_at_call 82; fail))
  obtain ⟨tb, htb⟩ : ∃ tb, tb = w1.heap.size := ⟨_, rfl⟩
  obtain ⟨W1, hW1⟩ : ∃ W1, W1 = w1.alloc (.cells #[.int .i64 (m0 : Nat), .int .i64 (m1 : Nat), .int .i64 (m2 : Nat), .slice none 0 0, .bool false, .bool false] 83) := ⟨_, rfl⟩
  have hlt1 : W1.heap.size = tb + 1 := by rw [hW1, htb]; simp
  have HRB0 : RB W1 W1 tb (m0, m1, m2) (.slice none 0 0) [] := ⟨Kept.refl _ _, World.ownsRow_nil _ _ _ _, hlt1, by rw [hW1, htb]; simp, by rw [hW1, htb]; simp, by rw [hW1, htb]; simp, by rw [hW1, htb]; simp, by rw [hW1, htb]; simp, by rw [hW1, htb]; simp, fun i => by rw [hW1, htb]; simp [go_sem]⟩
  have HAT := Lib.hid (show AtB W1 tb (some ⟨pb, po, none⟩) (parsCells P) from fun j u hj => by
    obtain ⟨b, off, ha, hc⟩ := R1.cells j u hj
    exact ⟨b, off, ha, by rw [htb]; exact cell_lt hc, by rw [hW1]; exact kp_alloc _ hc⟩)
  have hvm := R1.max
  obtain ⟨⟨ae, ke⟩, hae⟩ : ∃ y, attrsI P P.length 2 = y := ⟨_, rfl⟩
  have HAE := Lib.hid hae
  have HW := Lib.hid (And.intro htb hW1)
  rw [← hW1, ← htb]
  clear y0 y1 y2 Y0 Y1 Y2 hW1 htb HP R1 hae
  go_cut [9] (fun s9 wx => ∃ (ta : Option Addr) (tc : Nat), s9 = .int .i64 (ke : Nat) ∧ ke ≤ P.length ∧ ae.length ≤ P.length ∧ Hid (RB W1 wx tb (m0, m1, m2) (.slice ta ae.length tc) ae ∧ ae.length ≤ tc))
  case first =>
    go_wp2_with fail
    go_loopw [9, 10, 11, 12] (fun kv nv _p11 _p12 wr => ∃ (kk j : Nat) (acc : List AttA) (ta : Option Addr) (tc : Nat), kv = .int .i64 kk ∧ nv = .int .i64 j ∧ j ≤ P.length ∧ kk ≤ P.length ∧ acc.length ≤ j ∧ Hid (RB W1 wr tb (m0, m1, m2) (.slice ta acc.length tc) acc ∧ acc.length ≤ tc) ∧ Hid (acc ++ (attrsI P (P.length - j) kk).1 = ae ∧ (attrsI P (P.length - j) kk).2 = ke)) (fun _ nv _ _ _ => P.length - (intOf nv).toNat)
    case atStart => exact ⟨2, 0, [], none, 0, rfl, rfl, by omega, by omega, by simp, Lib.hid ⟨HRB0, by simp⟩, Lib.hid (by rw [Nat.sub_zero, HAE.out]; exact ⟨rfl, rfl⟩)⟩
    case round =>
      clear HRB0
      obtain ⟨kk, j, acc, ta, tc, rfl, rfl, hj, hkk, haj, HB, HA⟩ := hrel
      have HROW := Lib.hid (fun (w' : World) (hk : Kept tb W1 w') => (HAT.out.kept hk).row hvc hvm)
      by_cases hlt : j < P.length
      · cases h0 : attrR P kk with
        | none =>
          have HFIN := Lib.hid (show acc = ae ∧ kk = ke from by have := HA.out; rw [show P.length - j = (P.length - (j + 1)) + 1 by omega] at this; simpa [attrsI, h0] using this)
          have HC := Lib.hid (rattr_no (HROW.out _ HB.out.1.kept) kk (by omega) h0)
          clear h0
          go_wp2_with (first
            | (go_at_call 81; (refine HC.out.mono ?_); rintro e w2 ⟨rfl, hb2⟩; have HBX := Lib.hid ((HB.out.1.next hb2).next (one_ok w2 rattB))))
          obtain ⟨e1, e2⟩ := HFIN.out
          subst e1
          subst e2
          go_meet
          exact ⟨ta, tc, rfl, hkk, by omega, Lib.hid ⟨HBX.out, HB.out.2⟩⟩
        | some y =>
          obtain ⟨⟨⟨b0, b1, b2⟩, ⟨u0, u1, u2⟩, ⟨c0, c1, c2⟩⟩, k'⟩ := y
          have hk' := attr_next h0
          have HC := Lib.hid (rattr_some' (HROW.out _ HB.out.1.kept) kk (by omega) h0)
          have HNX := Lib.hid (show (acc ++ [((b0, b1, b2), (u0, u1, u2), (c0, c1, c2))]) ++ (attrsI P (P.length - (j + 1)) k').1 = ae ∧ (attrsI P (P.length - (j + 1)) k').2 = ke by
            have := HA.out
            rw [show P.length - j = (P.length - (j + 1)) + 1 by omega] at this
            simp only [attrsI, h0] at this
            rw [List.append_assoc]
            exact this)
          have HM := Lib.hid (And.intro (show acc.length + 1 ≤ maxLen by unfold maxLen; omega) (show (acc.length + 1) * 72 ≤ 140737488355328 by omega))
          clear h0 HA
          go_wp2_with (first
            | (go_at_call 81; (refine HC.out.mono ?_); rintro e w2 ⟨rfl, hb2⟩; have HB2 := Lib.hid (HB.out.1.next hb2); have HB3 := Lib.hid (HB2.out.next (one_ok w2 (.cells #[.int .i64 b0, .int .i64 b1, .int .i64 b2, .int .i64 u0, .int .i64 u1, .int .i64 u2, .int .i64 c0, .int .i64 c1, .int .i64 c2] 87))); have X3 := HB3.out.t3)
            | (at_builtin; refine wpList_append_own _ rfl _ _ 81 rfl W1.heap.size 87 i0 _ 9 72 Try.underlying81 HI.out.1 HI.out.2.1 HI.out.2.2.1 HI.out.2.2.2 rfl (by decide) _ _ _ rfl (HB3.out.own.alloc _) _ _ _ (attCells ((b0, b1, b2), (u0, u1, u2), (c0, c1, c2))) rfl rfl (new_cells_at _ (attCells ((b0, b1, b2), (u0, u1, u2), (c0, c1, c2))) _ _ (by simp)) (attCells_one _) HM.out.1 HM.out.2 (by have := HB3.out.kept.size; simp at this ⊢; omega) ?_; intro v' w4 hown' hg' _; obtain ⟨ta', tc', rfl, htc'⟩ := owns_slice hown'; obtain ⟨Z3, Z4⟩ := HB3.out.at3 hg' (fun g hg => (HB3.out.own.lt g hg).1); have HF := Lib.hid (show RB W1 (w4.setCell ⟨tb, 3, none⟩ (.slice ta' (acc.length + 1) tc')) tb (m0, m1, m2) (.slice ta' (acc.length + 1) tc') (acc ++ [((b0, b1, b2), (u0, u1, u2), (c0, c1, c2))]) from HB3.out.grow hg' (fun g hg => (HB3.out.own.lt g hg).1) (by rw [attsCells_snoc, List.length_append]; exact hown') (fun hc => by have := (hown'.lt _ hc).1; omega)); clear hown' hg' X3))
          go_roundw
          case rel => exact ⟨k', j + 1, acc ++ [((b0, b1, b2), (u0, u1, u2), (c0, c1, c2))], ta', tc', rfl, by go_num, by omega, hk', by rw [List.length_append, List.length_singleton]; omega, Lib.hid ⟨by rw [List.length_append, List.length_singleton]; exact HF.out, by rw [List.length_append, List.length_singleton]; exact htc'⟩, HNX⟩
          case measure => simp [intOf]; omega
      · have HFIN := Lib.hid (show acc = ae ∧ kk = ke from by have := HA.out; rw [show P.length - j = 0 by omega] at this; simpa [attrsI] using this)
        go_wp2_with fail
        obtain ⟨e1, e2⟩ := HFIN.out
        subst e1
        subst e2
        go_meet
        exact ⟨ta, tc, rfl, hkk, by omega, Lib.hid ⟨HB.out.1, HB.out.2⟩⟩
  case rest =>
    obtain ⟨ta, tc, rfl, hkk, haj, HB⟩ := hcut
    have HROW := Lib.hid (fun (w' : World) (hk : Kept tb W1 w') => (HAT.out.kept hk).row hvc hvm)
    obtain ⟨bl, hbl⟩ : ∃ x, blankP P ke = x := ⟨_, rfl⟩
    obtain ⟨kb, hkb⟩ : ∃ x, kindP P bl = x := ⟨_, rfl⟩
    have hblb : bl ≤ ke + 1 := by rw [← hbl, blankP]; split <;> omega
    have HBL := Lib.hid hbl
    have HKB := Lib.hid hkb
    have tokB : True := trivial
    have HBX := Lib.hid HB.out.1
    have hcs : kb ≠ 6 ∨ (kb = 6 ∧ bl + 1 ≠ P.length) ∨ (kb = 6 ∧ bl + 1 = P.length) := by omega
    clear hbl hkb
    rcases hcs with hn | ⟨rfl, hn⟩ | ⟨rfl, hn⟩
    · exfalso; have hw := HWY.out; unfold wayP at hw; simp only [HAE.out, HBL.out, HKB.out] at hw; simp [hn] at hw
    · exfalso; have hw := HWY.out; unfold wayP at hw; simp only [HAE.out, HBL.out, HKB.out] at hw; simp [hn] at hw
    · have HRV := Lib.hid (readI_yes (bl := bl) hk0 hk1 HAE.out HBL.out ⟨HKB.out, hn⟩)
      obtain ⟨la, hla⟩ : ∃ la, la = ae.length := ⟨_, rfl⟩
      have HLA := Lib.hid hla
      have hn' : (bl : Int) + 1 = P.length := by omega
      have hblq : bl < P.length := by omega
      obtain ⟨⟨h0', h1', h2'⟩, hx0⟩ : ∃ y, P[0]? = some y := ⟨_, List.getElem?_eq_getElem (by omega)⟩
      obtain ⟨⟨e0, e1, e2⟩, hxe⟩ : ∃ y, P[bl]? = some y := ⟨_, List.getElem?_eq_getElem hblq⟩
      have hm0 := hmem.out _ (List.mem_of_getElem? hx0)
      have hme := hmem.out _ (List.mem_of_getElem? hxe)
      simp only [hl] at hm0 hme
      have ew0 : IntKind.i64.wrap ((h2' : Int) - h1') = (h2' : Int) - h1' := IntWalk.i64_in _ (by omega)
      have ewe : IntKind.i64.wrap ((e2 : Int) - e1) = (e2 : Int) - e1 := IntWalk.i64_in _ (by omega)
      have i1 : (0 : Int) < (P.length : Int) := by omega
      have i2 : (bl : Int) < (P.length : Int) := by omega
      have i3 : 0 < P.length := by omega
      obtain ⟨E, hE⟩ : ∃ E, lenB (h0', h1', h2') 2 = E := ⟨_, rfl⟩
      obtain ⟨S, hS⟩ : ∃ S, lenB (e0, e1, e2) 2 = S := ⟨_, rfl⟩
      have HES := Lib.hid (And.intro hE hS)
      have qE : ((h2' : Int) - h1' == 2) = E := by rw [← hE]; rfl
      have qS : ((e2 : Int) - e1 == 2) = S := by rw [← hS]; rfl
      clear hE hS
      have HQ : (nm, al, r, m) = if E && (S || decide (0 < la)) then ((m0, m1, m2), ae, false, false) else ((m0, m1, m2), ae, true, S) := by
        rw [hla, ← hR, HRV.out]
        simp only [List.getD_eq_getElem?_getD, hy, hx0, hxe, Option.getD_some, HES.out.1, HES.out.2]
      have HQ2 := Lib.hid HQ
      clear HQ
      have HBX : Hid (RB W1 wc tb (m0, m1, m2) (.slice ta la tc) ae) := Lib.hid (by rw [hla]; exact HB.out.1)
      have hcs3 : (E = false ∧ S = false) ∨ (E = false ∧ S = true) ∨ (E = true ∧ S = true ∧ la = 0) ∨ (E = true ∧ S = true ∧ 0 < la) ∨ (E = true ∧ S = false ∧ la = 0) ∨ (E = true ∧ S = false ∧ 0 < la) := by
        have hz : la = 0 ∨ 0 < la := by omega
        cases E <;> cases S <;> simp [hz] <;> omega
      clear hla
      have hg0 : P.getD 0 (0, 0, 0) = (h0', h1', h2') := by rw [List.getD_eq_getElem?_getD, hx0]; rfl
      have hge : P.getD bl (0, 0, 0) = (e0, e1, e2) := by rw [List.getD_eq_getElem?_getD, hxe]; rfl
      have HG := Lib.hid (And.intro hg0 hge)
      clear hg0 hge
      rcases hcs3 with ⟨rfl, rfl⟩ | ⟨rfl, rfl⟩ | ⟨rfl, rfl, rfl⟩ | ⟨rfl, rfl, hal⟩ | ⟨rfl, rfl, rfl⟩ | ⟨rfl, rfl, hal⟩
      · exfalso; have hw := HWY.out; unfold wayP at hw; simp only [HAE.out, HBL.out, HKB.out, HG.out.1, HG.out.2, HES.out.1, HES.out.2, ← HLA.out] at hw; simp [hn] at hw; try (revert hw; (repeat' split) <;> (intro hw; omega))
      · exfalso; have hw := HWY.out; unfold wayP at hw; simp only [HAE.out, HBL.out, HKB.out, HG.out.1, HG.out.2, HES.out.1, HES.out.2, ← HLA.out] at hw; simp [hn] at hw; try (revert hw; (repeat' split) <;> (intro hw; omega))
      · exfalso; have hw := HWY.out; unfold wayP at hw; simp only [HAE.out, HBL.out, HKB.out, HG.out.1, HG.out.2, HES.out.1, HES.out.2, ← HLA.out] at hw; simp [hn] at hw; try (revert hw; (repeat' split) <;> (intro hw; omega))
      · exfalso; have hw := HWY.out; unfold wayP at hw; simp only [HAE.out, HBL.out, HKB.out, HG.out.1, HG.out.2, HES.out.1, HES.out.2, ← HLA.out] at hw; simp [hn] at hw; try (revert hw; (repeat' split) <;> (intro hw; omega))
      · go_wp2_with (first
          | (go_at_call 82; (have _t := tokB); (refine (blank_any (HROW.out _ HBX.out.kept) ke (by omega) HBL.out).mono ?_); rintro e w5 ⟨rfl, rfl⟩; clear tokB _t; obtain ⟨y0, y1, y2, y3, y4, y5, yz⟩ := rres_cells hb1 (by rw [← HW.out.1, ← HW.out.2]; exact HBX.out.kept); have x0 := HBX.out.t0; have x1 := HBX.out.t1; have x2 := HBX.out.t2; have x3 := HBX.out.t3; have x4 := HBX.out.t4; have x5 := HBX.out.t5; have xz := HBX.out.fz; have hng : ¬ w.heap.size = tb := (by rw [HW.out.1]; have := hb1.size; simp at this; omega); have hng2 : ¬ tb = w.heap.size := (fun h => hng h.symm); obtain ⟨gb, go, hgq, g0, g1, g2⟩ := par_cells (HROW.out _ HBX.out.kept).cells hx0; (simp only [Option.some.injEq, Addr.mk.injEq] at hgq); obtain ⟨rfl, rfl, _⟩ := hgq; obtain ⟨gb, go, hgq, z0, z1, z2⟩ := par_cells (HROW.out _ HBX.out.kept).cells hxe; (simp only [Option.some.injEq, Addr.mk.injEq] at hgq); obtain ⟨rfl, rfl, _⟩ := hgq; (simp only [Nat.zero_mul, Nat.add_zero] at g0 g1 g2))
          | (go_at_call 80; (refine (kind_any (HROW.out _ HBX.out.kept) bl (by omega) HKB.out).mono ?_); rintro e w5 ⟨rfl, rfl⟩))
        go_quiet (fail)
        go_wp2
        go_quiet (fail)
        go_wp2
        have HQ := HQ2.out
        simp at HQ
        obtain ⟨q1, q2, q3, q4⟩ := HQ
        have HD := fun q => RB.fin (w := w) (by rw [← HW.out.1, ← HW.out.2]; exact HBX.out) hb1 true false (.int .i64 m0) (.int .i64 m1) (.int .i64 m2) (.slice ta 0 tc) (.bool true) (.bool false) q
        rw [← HW.out.1, ← HLA.out] at HD
        refine bodyPost_ret (v := tagI m0 m1 m2 (.slice ta 0 tc) true false) ?_ rfl (by rw [q1, q2, q3, q4]; exact ⟨_, rfl, by rw [← HLA.out]; exact (HD _).1, (HD _).2⟩)
        simp [results, Try.results46, go_sem, y0, y1, y2, y3, y4, y5, hng, hng2]
      · exfalso; have hw := HWY.out; unfold wayP at hw; simp only [HAE.out, HBL.out, HKB.out, HG.out.1, HG.out.2, HES.out.1, HES.out.2, ← HLA.out] at hw; simp [hn] at hw; try (revert hw; (repeat' split) <;> (intro hw; omega))

set_option maxRecDepth 20000 in
set_option maxHeartbeats 4000000 in
theorem refRead_w7 (a : Option Addr) (n cap : Nat) (l : List Int) (w : World) (hl : l.length = n) (hc : n ≤ cap) (hm : cap ≤ maxLen) (hn : n ≤ 800) (hat : AtCells w a (l.map (.int .i32))) (hwf : ∀ j, -2147483648 ≤ l.getD j 0 ∧ l.getD j 0 ≤ 2147483647) (f t : Int) {nm : PartA} {al : List AttA} {r m : Bool} {P : List PartA} (hP : parts l f t = P) (hR : readI P = (nm, al, r, m)) (h01 : kindP P 0 = 1 ∧ kindP P 1 = 2) (hway : wayP P = 7) :
    Calls Try.prog 46 #[.slice a n cap, .int .i64 f, .int .i64 t] w (OwnRTag w nm al r m) := by
  obtain ⟨i0, hi, hz0, hz1, hz2⟩ := info_parts Try.infoRAttr
  have HI := Lib.hid (And.intro hi (And.intro hz0 (And.intro hz1 hz2)))
  clear hi hz0 hz1 hz2
  have HP := Lib.hid (fun w' (hb : Below w.heap.size w w') => refParts_row a n cap l w' hl hc hm (by omega) (hat.below hb) hwf f t)
  rw [hP] at HP
  have hPl := parts_len l f t
  rw [hP, hl] at hPl
  have hmem := Lib.hid (fun (x : PartA) (hx : x ∈ P) => parts_mem (l := l) (f := f) (t := t) (x := x) (by rw [hP]; exact hx))
  clear hP hat hwf
  have HKD := Lib.hid (fun (w' : World) (A : Option Addr) (q c : Nat) (R : PRow w' A q c P) (k : Nat) (hk : k ≤ 2000) (v : Nat) (hv : kindP P k = v) => kind_any R k hk hv)
  obtain ⟨k0, hk0⟩ : ∃ x, kindP P 0 = x := ⟨_, rfl⟩
  obtain ⟨k1, hk1⟩ : ∃ x, kindP P 1 = x := ⟨_, rfl⟩
  have tok1 : True := trivial
  have HWY := Lib.hid hway
  clear hway
  obtain ⟨h01a, h01b⟩ := h01
  obtain rfl : k0 = 1 := hk0.symm.trans h01a
  obtain rfl : k1 = 2 := hk1.symm.trans h01b
  clear h01a h01b
  have hP2 : 1 < P.length := by
    by_cases h : 1 < P.length
    · exact h
    · rw [kindP_past h] at hk1; omega
  obtain ⟨⟨m0, m1, m2⟩, hy⟩ : ∃ y, P[1]? = some y := ⟨_, List.getElem?_eq_getElem hP2⟩
  have hP2' : (1 : Int) < (P.length : Int) := by omega
  go_enter Try.func46, Try.ntmps46
  go_upto_block 0 with (first
    | (go_at_call 79; (refine (HP.out _ (by first | exact Below.refl _ _ | exact one_ok _ _ | exact two_ok _ _ _)).mono ?_); rintro e w1 ⟨v, rfl, hown, hb1⟩; obtain ⟨va, vc, rfl, hvc⟩ := owns_slice hown; have R1 : PRow w1 va P.length vc P := (⟨rfl, hvc, owns_cap hown, AtCells.of_owns hown⟩); obtain ⟨pb, po, hva, y0, y1, y2⟩ := par_cells R1.cells hy; subst hva; have hpb := cell_lt y0; have Y0 : (w1.alloc rtagB).cell? ⟨pb, po + 3, none⟩ = some (.int .i64 (m0 : Nat)) := kp_alloc _ (by simpa using y0); have Y1 : (w1.alloc rtagB).cell? ⟨pb, po + 4, none⟩ = some (.int .i64 (m1 : Nat)) := kp_alloc _ (by simpa [Nat.add_assoc] using y1); have Y2 : (w1.alloc rtagB).cell? ⟨pb, po + 5, none⟩ = some (.int .i64 (m2 : Nat)) := kp_alloc _ (by simpa [Nat.add_assoc] using y2))
    | (go_at_call 80; (have _t := tok1); (refine (HKD.out _ _ P.length vc (by first | exact R1 | exact R1.below (one_ok _ _) | exact R1.below (Below.refl _ _)) 0 (by omega) _ hk0).mono ?_); rintro e w2 ⟨rfl, rfl⟩; clear tok1 _t; have tok2 : True := trivial)
    | (go_at_call 80; (have _t := tok2); (refine (HKD.out _ _ P.length vc (by first | exact R1 | exact R1.below (one_ok _ _) | exact R1.below (Below.refl _ _)) 1 (by omega) _ hk1).mono ?_); rintro e w2 ⟨rfl, rfl⟩; clear tok2 _t; have tok3 : True := trivial)
    | (go_at_call 81; fail)
    | (go_at_call 82; fail))
  obtain ⟨tb, htb⟩ : ∃ tb, tb = w1.heap.size := ⟨_, rfl⟩
  obtain ⟨W1, hW1⟩ : ∃ W1, W1 = w1.alloc (.cells #[.int .i64 (m0 : Nat), .int .i64 (m1 : Nat), .int .i64 (m2 : Nat), .slice none 0 0, .bool false, .bool false] 83) := ⟨_, rfl⟩
  have hlt1 : W1.heap.size = tb + 1 := by rw [hW1, htb]; simp
  have HRB0 : RB W1 W1 tb (m0, m1, m2) (.slice none 0 0) [] := ⟨Kept.refl _ _, World.ownsRow_nil _ _ _ _, hlt1, by rw [hW1, htb]; simp, by rw [hW1, htb]; simp, by rw [hW1, htb]; simp, by rw [hW1, htb]; simp, by rw [hW1, htb]; simp, by rw [hW1, htb]; simp, fun i => by rw [hW1, htb]; simp [go_sem]⟩
  have HAT := Lib.hid (show AtB W1 tb (some ⟨pb, po, none⟩) (parsCells P) from fun j u hj => by
    obtain ⟨b, off, ha, hc⟩ := R1.cells j u hj
    exact ⟨b, off, ha, by rw [htb]; exact cell_lt hc, by rw [hW1]; exact kp_alloc _ hc⟩)
  have hvm := R1.max
  obtain ⟨⟨ae, ke⟩, hae⟩ : ∃ y, attrsI P P.length 2 = y := ⟨_, rfl⟩
  have HAE := Lib.hid hae
  have HW := Lib.hid (And.intro htb hW1)
  rw [← hW1, ← htb]
  clear y0 y1 y2 Y0 Y1 Y2 hW1 htb HP R1 hae
  go_cut [9] (fun s9 wx => ∃ (ta : Option Addr) (tc : Nat), s9 = .int .i64 (ke : Nat) ∧ ke ≤ P.length ∧ ae.length ≤ P.length ∧ Hid (RB W1 wx tb (m0, m1, m2) (.slice ta ae.length tc) ae ∧ ae.length ≤ tc))
  case first =>
    go_wp2_with fail
    go_loopw [9, 10, 11, 12] (fun kv nv _p11 _p12 wr => ∃ (kk j : Nat) (acc : List AttA) (ta : Option Addr) (tc : Nat), kv = .int .i64 kk ∧ nv = .int .i64 j ∧ j ≤ P.length ∧ kk ≤ P.length ∧ acc.length ≤ j ∧ Hid (RB W1 wr tb (m0, m1, m2) (.slice ta acc.length tc) acc ∧ acc.length ≤ tc) ∧ Hid (acc ++ (attrsI P (P.length - j) kk).1 = ae ∧ (attrsI P (P.length - j) kk).2 = ke)) (fun _ nv _ _ _ => P.length - (intOf nv).toNat)
    case atStart => exact ⟨2, 0, [], none, 0, rfl, rfl, by omega, by omega, by simp, Lib.hid ⟨HRB0, by simp⟩, Lib.hid (by rw [Nat.sub_zero, HAE.out]; exact ⟨rfl, rfl⟩)⟩
    case round =>
      clear HRB0
      obtain ⟨kk, j, acc, ta, tc, rfl, rfl, hj, hkk, haj, HB, HA⟩ := hrel
      have HROW := Lib.hid (fun (w' : World) (hk : Kept tb W1 w') => (HAT.out.kept hk).row hvc hvm)
      by_cases hlt : j < P.length
      · cases h0 : attrR P kk with
        | none =>
          have HFIN := Lib.hid (show acc = ae ∧ kk = ke from by have := HA.out; rw [show P.length - j = (P.length - (j + 1)) + 1 by omega] at this; simpa [attrsI, h0] using this)
          have HC := Lib.hid (rattr_no (HROW.out _ HB.out.1.kept) kk (by omega) h0)
          clear h0
          go_wp2_with (first
            | (go_at_call 81; (refine HC.out.mono ?_); rintro e w2 ⟨rfl, hb2⟩; have HBX := Lib.hid ((HB.out.1.next hb2).next (one_ok w2 rattB))))
          obtain ⟨e1, e2⟩ := HFIN.out
          subst e1
          subst e2
          go_meet
          exact ⟨ta, tc, rfl, hkk, by omega, Lib.hid ⟨HBX.out, HB.out.2⟩⟩
        | some y =>
          obtain ⟨⟨⟨b0, b1, b2⟩, ⟨u0, u1, u2⟩, ⟨c0, c1, c2⟩⟩, k'⟩ := y
          have hk' := attr_next h0
          have HC := Lib.hid (rattr_some' (HROW.out _ HB.out.1.kept) kk (by omega) h0)
          have HNX := Lib.hid (show (acc ++ [((b0, b1, b2), (u0, u1, u2), (c0, c1, c2))]) ++ (attrsI P (P.length - (j + 1)) k').1 = ae ∧ (attrsI P (P.length - (j + 1)) k').2 = ke by
            have := HA.out
            rw [show P.length - j = (P.length - (j + 1)) + 1 by omega] at this
            simp only [attrsI, h0] at this
            rw [List.append_assoc]
            exact this)
          have HM := Lib.hid (And.intro (show acc.length + 1 ≤ maxLen by unfold maxLen; omega) (show (acc.length + 1) * 72 ≤ 140737488355328 by omega))
          clear h0 HA
          go_wp2_with (first
            | (go_at_call 81; (refine HC.out.mono ?_); rintro e w2 ⟨rfl, hb2⟩; have HB2 := Lib.hid (HB.out.1.next hb2); have HB3 := Lib.hid (HB2.out.next (one_ok w2 (.cells #[.int .i64 b0, .int .i64 b1, .int .i64 b2, .int .i64 u0, .int .i64 u1, .int .i64 u2, .int .i64 c0, .int .i64 c1, .int .i64 c2] 87))); have X3 := HB3.out.t3)
            | (at_builtin; refine wpList_append_own _ rfl _ _ 81 rfl W1.heap.size 87 i0 _ 9 72 Try.underlying81 HI.out.1 HI.out.2.1 HI.out.2.2.1 HI.out.2.2.2 rfl (by decide) _ _ _ rfl (HB3.out.own.alloc _) _ _ _ (attCells ((b0, b1, b2), (u0, u1, u2), (c0, c1, c2))) rfl rfl (new_cells_at _ (attCells ((b0, b1, b2), (u0, u1, u2), (c0, c1, c2))) _ _ (by simp)) (attCells_one _) HM.out.1 HM.out.2 (by have := HB3.out.kept.size; simp at this ⊢; omega) ?_; intro v' w4 hown' hg' _; obtain ⟨ta', tc', rfl, htc'⟩ := owns_slice hown'; obtain ⟨Z3, Z4⟩ := HB3.out.at3 hg' (fun g hg => (HB3.out.own.lt g hg).1); have HF := Lib.hid (show RB W1 (w4.setCell ⟨tb, 3, none⟩ (.slice ta' (acc.length + 1) tc')) tb (m0, m1, m2) (.slice ta' (acc.length + 1) tc') (acc ++ [((b0, b1, b2), (u0, u1, u2), (c0, c1, c2))]) from HB3.out.grow hg' (fun g hg => (HB3.out.own.lt g hg).1) (by rw [attsCells_snoc, List.length_append]; exact hown') (fun hc => by have := (hown'.lt _ hc).1; omega)); clear hown' hg' X3))
          go_roundw
          case rel => exact ⟨k', j + 1, acc ++ [((b0, b1, b2), (u0, u1, u2), (c0, c1, c2))], ta', tc', rfl, by go_num, by omega, hk', by rw [List.length_append, List.length_singleton]; omega, Lib.hid ⟨by rw [List.length_append, List.length_singleton]; exact HF.out, by rw [List.length_append, List.length_singleton]; exact htc'⟩, HNX⟩
          case measure => simp [intOf]; omega
      · have HFIN := Lib.hid (show acc = ae ∧ kk = ke from by have := HA.out; rw [show P.length - j = 0 by omega] at this; simpa [attrsI] using this)
        go_wp2_with fail
        obtain ⟨e1, e2⟩ := HFIN.out
        subst e1
        subst e2
        go_meet
        exact ⟨ta, tc, rfl, hkk, by omega, Lib.hid ⟨HB.out.1, HB.out.2⟩⟩
  case rest =>
    obtain ⟨ta, tc, rfl, hkk, haj, HB⟩ := hcut
    have HROW := Lib.hid (fun (w' : World) (hk : Kept tb W1 w') => (HAT.out.kept hk).row hvc hvm)
    obtain ⟨bl, hbl⟩ : ∃ x, blankP P ke = x := ⟨_, rfl⟩
    obtain ⟨kb, hkb⟩ : ∃ x, kindP P bl = x := ⟨_, rfl⟩
    have hblb : bl ≤ ke + 1 := by rw [← hbl, blankP]; split <;> omega
    have HBL := Lib.hid hbl
    have HKB := Lib.hid hkb
    have tokB : True := trivial
    have HBX := Lib.hid HB.out.1
    have hcs : kb ≠ 6 ∨ (kb = 6 ∧ bl + 1 ≠ P.length) ∨ (kb = 6 ∧ bl + 1 = P.length) := by omega
    clear hbl hkb
    rcases hcs with hn | ⟨rfl, hn⟩ | ⟨rfl, hn⟩
    · exfalso; have hw := HWY.out; unfold wayP at hw; simp only [HAE.out, HBL.out, HKB.out] at hw; simp [hn] at hw
    · exfalso; have hw := HWY.out; unfold wayP at hw; simp only [HAE.out, HBL.out, HKB.out] at hw; simp [hn] at hw
    · have HRV := Lib.hid (readI_yes (bl := bl) hk0 hk1 HAE.out HBL.out ⟨HKB.out, hn⟩)
      obtain ⟨la, hla⟩ : ∃ la, la = ae.length := ⟨_, rfl⟩
      have HLA := Lib.hid hla
      have hn' : (bl : Int) + 1 = P.length := by omega
      have hblq : bl < P.length := by omega
      obtain ⟨⟨h0', h1', h2'⟩, hx0⟩ : ∃ y, P[0]? = some y := ⟨_, List.getElem?_eq_getElem (by omega)⟩
      obtain ⟨⟨e0, e1, e2⟩, hxe⟩ : ∃ y, P[bl]? = some y := ⟨_, List.getElem?_eq_getElem hblq⟩
      have hm0 := hmem.out _ (List.mem_of_getElem? hx0)
      have hme := hmem.out _ (List.mem_of_getElem? hxe)
      simp only [hl] at hm0 hme
      have ew0 : IntKind.i64.wrap ((h2' : Int) - h1') = (h2' : Int) - h1' := IntWalk.i64_in _ (by omega)
      have ewe : IntKind.i64.wrap ((e2 : Int) - e1) = (e2 : Int) - e1 := IntWalk.i64_in _ (by omega)
      have i1 : (0 : Int) < (P.length : Int) := by omega
      have i2 : (bl : Int) < (P.length : Int) := by omega
      have i3 : 0 < P.length := by omega
      obtain ⟨E, hE⟩ : ∃ E, lenB (h0', h1', h2') 2 = E := ⟨_, rfl⟩
      obtain ⟨S, hS⟩ : ∃ S, lenB (e0, e1, e2) 2 = S := ⟨_, rfl⟩
      have HES := Lib.hid (And.intro hE hS)
      have qE : ((h2' : Int) - h1' == 2) = E := by rw [← hE]; rfl
      have qS : ((e2 : Int) - e1 == 2) = S := by rw [← hS]; rfl
      clear hE hS
      have HQ : (nm, al, r, m) = if E && (S || decide (0 < la)) then ((m0, m1, m2), ae, false, false) else ((m0, m1, m2), ae, true, S) := by
        rw [hla, ← hR, HRV.out]
        simp only [List.getD_eq_getElem?_getD, hy, hx0, hxe, Option.getD_some, HES.out.1, HES.out.2]
      have HQ2 := Lib.hid HQ
      clear HQ
      have HBX : Hid (RB W1 wc tb (m0, m1, m2) (.slice ta la tc) ae) := Lib.hid (by rw [hla]; exact HB.out.1)
      have hcs3 : (E = false ∧ S = false) ∨ (E = false ∧ S = true) ∨ (E = true ∧ S = true ∧ la = 0) ∨ (E = true ∧ S = true ∧ 0 < la) ∨ (E = true ∧ S = false ∧ la = 0) ∨ (E = true ∧ S = false ∧ 0 < la) := by
        have hz : la = 0 ∨ 0 < la := by omega
        cases E <;> cases S <;> simp [hz] <;> omega
      clear hla
      have hg0 : P.getD 0 (0, 0, 0) = (h0', h1', h2') := by rw [List.getD_eq_getElem?_getD, hx0]; rfl
      have hge : P.getD bl (0, 0, 0) = (e0, e1, e2) := by rw [List.getD_eq_getElem?_getD, hxe]; rfl
      have HG := Lib.hid (And.intro hg0 hge)
      clear hg0 hge
      rcases hcs3 with ⟨rfl, rfl⟩ | ⟨rfl, rfl⟩ | ⟨rfl, rfl, rfl⟩ | ⟨rfl, rfl, hal⟩ | ⟨rfl, rfl, rfl⟩ | ⟨rfl, rfl, hal⟩
      · exfalso; have hw := HWY.out; unfold wayP at hw; simp only [HAE.out, HBL.out, HKB.out, HG.out.1, HG.out.2, HES.out.1, HES.out.2, ← HLA.out] at hw; simp [hn] at hw; try (revert hw; (repeat' split) <;> (intro hw; omega))
      · exfalso; have hw := HWY.out; unfold wayP at hw; simp only [HAE.out, HBL.out, HKB.out, HG.out.1, HG.out.2, HES.out.1, HES.out.2, ← HLA.out] at hw; simp [hn] at hw; try (revert hw; (repeat' split) <;> (intro hw; omega))
      · exfalso; have hw := HWY.out; unfold wayP at hw; simp only [HAE.out, HBL.out, HKB.out, HG.out.1, HG.out.2, HES.out.1, HES.out.2, ← HLA.out] at hw; simp [hn] at hw; try (revert hw; (repeat' split) <;> (intro hw; omega))
      · exfalso; have hw := HWY.out; unfold wayP at hw; simp only [HAE.out, HBL.out, HKB.out, HG.out.1, HG.out.2, HES.out.1, HES.out.2, ← HLA.out] at hw; simp [hn] at hw; try (revert hw; (repeat' split) <;> (intro hw; omega))
      · exfalso; have hw := HWY.out; unfold wayP at hw; simp only [HAE.out, HBL.out, HKB.out, HG.out.1, HG.out.2, HES.out.1, HES.out.2, ← HLA.out] at hw; simp [hn] at hw; try (revert hw; (repeat' split) <;> (intro hw; omega))
      · have hal2 : (((la : Nat) : Int) == 0) = false := by simp; omega
        go_wp2_with (first
          | (go_at_call 82; (have _t := tokB); (refine (blank_any (HROW.out _ HBX.out.kept) ke (by omega) HBL.out).mono ?_); rintro e w5 ⟨rfl, rfl⟩; clear tokB _t; obtain ⟨y0, y1, y2, y3, y4, y5, yz⟩ := rres_cells hb1 (by rw [← HW.out.1, ← HW.out.2]; exact HBX.out.kept); have x0 := HBX.out.t0; have x1 := HBX.out.t1; have x2 := HBX.out.t2; have x3 := HBX.out.t3; have x4 := HBX.out.t4; have x5 := HBX.out.t5; have xz := HBX.out.fz; have hng : ¬ w.heap.size = tb := (by rw [HW.out.1]; have := hb1.size; simp at this; omega); have hng2 : ¬ tb = w.heap.size := (fun h => hng h.symm); obtain ⟨gb, go, hgq, g0, g1, g2⟩ := par_cells (HROW.out _ HBX.out.kept).cells hx0; (simp only [Option.some.injEq, Addr.mk.injEq] at hgq); obtain ⟨rfl, rfl, _⟩ := hgq; obtain ⟨gb, go, hgq, z0, z1, z2⟩ := par_cells (HROW.out _ HBX.out.kept).cells hxe; (simp only [Option.some.injEq, Addr.mk.injEq] at hgq); obtain ⟨rfl, rfl, _⟩ := hgq; (simp only [Nat.zero_mul, Nat.add_zero] at g0 g1 g2))
          | (go_at_call 80; (refine (kind_any (HROW.out _ HBX.out.kept) bl (by omega) HKB.out).mono ?_); rintro e w5 ⟨rfl, rfl⟩))
        go_quiet (fail)
        go_wp2
        go_quiet (fail)
        go_wp2
        have HQ := HQ2.out
        simp [hal] at HQ
        obtain ⟨q1, q2, q3, q4⟩ := HQ
        have HD := fun q => RB.fin (w := w) (by rw [← HW.out.1, ← HW.out.2]; exact HBX.out) hb1 false false (.int .i64 m0) (.int .i64 m1) (.int .i64 m2) (.slice ta la tc) (.bool false) (.bool false) q
        rw [← HW.out.1, ← HLA.out] at HD
        refine bodyPost_ret (v := tagI m0 m1 m2 (.slice ta la tc) false false) ?_ rfl (by rw [q1, q2, q3, q4]; exact ⟨_, rfl, by rw [← HLA.out]; exact (HD _).1, (HD _).2⟩)
        simp [results, Try.results46, go_sem, y0, y1, y2, y3, y4, y5, hng, hng2]

end Go.Proofs.Ytblebkpnjeghoaa
