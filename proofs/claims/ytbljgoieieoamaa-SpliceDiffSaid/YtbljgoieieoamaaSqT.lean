/-
  The contract of splice.Diff.
-/
import Derived.Test.YtbljgoieieoamaaSqS
namespace Go.Proofs.Ytbljgoieieoamaa
open Go.Shelf Go.RowKit Go.Lib Go.Sort
set_option linter.unusedVariables false

set_option maxRecDepth 20000 in
set_option maxHeartbeats 4000000 in
theorem difC_yes {w : World} {a a' : Option Addr} {n c n' c' : Nat} {A B : List Int} (RA : RowB w a n c A) (RB : RowB w a' n' c' B) (hv : ((strOfNums A).toList == (strOfNums B).toList) = false) :
    Calls Try.prog 19 #[.slice a n c, .slice a' n' c'] w fun e w' => ∃ (f t e' : Nat) (v : Value), DifR A B f t e' ∧ e = .returned (.tuple #[.agg #[.int .i64 f, .int .i64 t, v], .bool true]) ∧ w'.ownsRow w.heap.size 5 1 v (e' - f) (((B.take e').drop f).map (.int .u8)) ∧ Below w.heap.size w w' := by
  have HEQ := Lib.hid (fun (W : World) (hb : Below w.heap.size w W) => beq_any (c := c) (c' := c') RA.length (RA.at_.below hb) RB.length (RB.at_.below hb) rfl rfl hv)
  have HA := Lib.hid RA
  have HB := Lib.hid RB
  have hn1 := RA.few
  have hn2 := RB.few
  clear RA RB hv
  go_enter Try.func19, Try.ntmps19
  go_upto_block 0 with (first
    | (go_at_call 38; (with_reducible refine (HEQ.out _ (one_ok _ _)).mono ?_); rintro e w1 ⟨rfl, rfl⟩))
  obtain ⟨d0, d1, d2⟩ := box3 w (.int .i64 0) (.int .i64 0) (.slice none 0 0) 39
  obtain ⟨W0, hW0⟩ : ∃ W0, W0 = w.alloc (.cells #[.int .i64 0, .int .i64 0, .slice none 0 0] 39) := ⟨_, rfl⟩
  have HZ := Lib.hid (show ∀ o : Nat, W0.frozen? ⟨w.heap.size, o, none⟩ = false from fun o => by rw [hW0]; simp)
  have HW := Lib.hid (show Below w.heap.size w W0 from hW0 ▸ one_ok _ _)
  rw [← hW0] at d0 d1 d2 ⊢
  clear hW0
  go_cut [6] (fun fv wx => ∃ f : Nat, fv = .int .i64 f ∧ f ≤ n ∧ f ≤ n' ∧ Hid (A.take f = B.take f ∧ (f < n → f < n' → A[f]? ≠ B[f]?)) ∧ Hid (Below W0.heap.size W0 wx))
  case first => as_aux_lemma =>
    go_wp2_with fail
    go_loopw [6] (fun fv wr => ∃ k : Nat, fv = .int .i64 k ∧ k ≤ n ∧ k ≤ n' ∧ Hid (A.take k = B.take k) ∧ Hid (Below W0.heap.size W0 wr)) (fun fv _ => n - (intOf fv).toNat)
    case atStart => exact ⟨0, rfl, Nat.zero_le _, Nat.zero_le _, Lib.hid rfl, Lib.hid (Below.refl _ _)⟩
    case round =>
      obtain ⟨k, rfl, hk1, hk2, HT, HBL⟩ := hrel
      by_cases h1 : k < n ∧ k < n'
      · have HBW := Lib.hid (Below.more HW.out HBL.out)
        obtain ⟨b1, o1, rfl, c1⟩ := (HA.out.at_.below HBW.out).int (k := k) (by rw [HA.out.length]; exact h1.1)
        obtain ⟨b2, o2, rfl, c2⟩ := (HB.out.at_.below HBW.out).int (k := k) (by rw [HB.out.length]; exact h1.2)
        have hx : A[k]? = some (A.getD k 0) := by rw [List.getD_eq_getElem?_getD, List.getElem?_eq_getElem (by rw [HA.out.length]; exact h1.1)]; rfl
        have hy : B[k]? = some (B.getD k 0) := by rw [List.getD_eq_getElem?_getD, List.getElem?_eq_getElem (by rw [HB.out.length]; exact h1.2)]; rfl
        obtain ⟨x, hxe⟩ : ∃ x, x = A.getD k 0 := ⟨_, rfl⟩
        obtain ⟨y, hye⟩ : ∃ y, y = B.getD k 0 := ⟨_, rfl⟩
        rw [← hxe] at c1 hx
        rw [← hye] at c2 hy
        have HXY := Lib.hid (And.intro hx hy)
        have k1 : (k : Int) < (n : Int) := by omega
        have k2 : (k : Int) < (n' : Int) := by omega
        have k3 : (k : Int) < min (n : Int) (n' : Int) := by omega
        have k4 := h1.1
        have k5 := h1.2
        clear hx hy hxe hye h1
        by_cases hxy : x = y
        · subst hxy
          go_wp2
          go_region_held_law (fun W => W.cell? ⟨b1, o1 + k, none⟩ = some (.int .u8 x) ∧ W.cell? ⟨b2, o2 + k, none⟩ = some (.int .u8 x))
            ((refine ⟨?_, ?_⟩ <;> (repeat (first | (with_reducible assumption) | (with_reducible refine kp_drew ?_)))))
            (fail)
          go_wp2
          go_roundw
          case rel => exact ⟨k + 1, by go_num, by omega, by omega, Lib.hid (take_more HT.out HXY.out.1 HXY.out.2), Lib.hid HBL.out.drew⟩
          case measure => simp [intOf]; omega
        · have hne : (x == y) = false := by simpa using hxy
          go_wp2
          go_region_held_law (fun W => W.cell? ⟨b1, o1 + k, none⟩ = some (.int .u8 x) ∧ W.cell? ⟨b2, o2 + k, none⟩ = some (.int .u8 y))
            ((refine ⟨?_, ?_⟩ <;> (repeat (first | (with_reducible assumption) | (with_reducible refine kp_drew ?_)))))
            (fail)
          go_wp2
          go_meet
          exact ⟨k, rfl, by omega, by omega, Lib.hid ⟨HT.out, fun _ _ h => hxy (by rw [HXY.out.1, HXY.out.2] at h; exact Option.some.inj h)⟩, Lib.hid HBL.out.drew⟩
      · have k3 : ¬ (k : Int) < min (n : Int) (n' : Int) := by omega
        have hd : decide ((k : Int) < min (n : Int) (n' : Int)) = false := decide_eq_false k3
        go_wp2
        go_quiet (fail)
        go_wp2
        go_meet
        exact ⟨k, rfl, by omega, by omega, Lib.hid ⟨HT.out, fun h2 h3 => absurd ⟨h2, h3⟩ h1⟩, Lib.hid (below_drewN HBL.out _)⟩
  case rest => as_aux_lemma =>
    obtain ⟨f, rfl, hf1, hf2, HF, HBX⟩ := hcut
    go_wp2_with fail
    go_loopw [7, 8] (fun tv ev wr => ∃ t e' : Nat, tv = .int .i64 t ∧ ev = .int .i64 e' ∧ f ≤ t ∧ f ≤ e' ∧ t ≤ n ∧ e' ≤ n' ∧ Hid (A.drop t = B.drop e') ∧ Hid (Below W0.heap.size W0 wr)) (fun tv _ _ => (intOf tv).toNat)
    case atStart => exact ⟨n, n', rfl, rfl, hf1, hf2, Nat.le_refl _, Nat.le_refl _, Lib.hid (by rw [List.drop_of_length_le (by rw [HA.out.length]; exact Nat.le_refl _), List.drop_of_length_le (by rw [HB.out.length]; exact Nat.le_refl _)]), HBX⟩
    case round =>
      obtain ⟨t, e', rfl, rfl, h1, h2, h3, h4, HT, HBL⟩ := hrel
      have HBW := Lib.hid (Below.more HW.out HBL.out)
      by_cases hlt : f < t ∧ f < e'
      · obtain ⟨tp, rfl⟩ : ∃ m, t = m + 1 := ⟨t - 1, by omega⟩
        obtain ⟨ep, rfl⟩ : ∃ m, e' = m + 1 := ⟨e' - 1, by omega⟩
        obtain ⟨b1, o1, rfl, c1⟩ := (HA.out.at_.below HBW.out).int (k := tp) (by rw [HA.out.length]; omega)
        obtain ⟨b2, o2, rfl, c2⟩ := (HB.out.at_.below HBW.out).int (k := ep) (by rw [HB.out.length]; omega)
        have hx : A[tp]? = some (A.getD tp 0) := by rw [List.getD_eq_getElem?_getD, List.getElem?_eq_getElem (by rw [HA.out.length]; omega)]; rfl
        have hy : B[ep]? = some (B.getD ep 0) := by rw [List.getD_eq_getElem?_getD, List.getElem?_eq_getElem (by rw [HB.out.length]; omega)]; rfl
        obtain ⟨x, hxe⟩ : ∃ x, x = A.getD tp 0 := ⟨_, rfl⟩
        obtain ⟨y, hye⟩ : ∃ y, y = B.getD ep 0 := ⟨_, rfl⟩
        rw [← hxe] at c1 hx
        rw [← hye] at c2 hy
        have HXY := Lib.hid (And.intro hx hy)
        have k1 : (tp : Int) < (n : Int) := by omega
        have k2 : (ep : Int) < (n' : Int) := by omega
        have k3 : (f : Int) < min (tp : Int) (ep : Int) + 1 := by omega
        have k4 : tp < n := by omega
        have k5 : ep < n' := by omega
        have k6 : IntKind.i64.wrap (tp : Int) = (tp : Int) := by rw [IntKind.wrap_i64]; omega
        have k7 : IntKind.i64.wrap (ep : Int) = (ep : Int) := by rw [IntKind.wrap_i64]; omega
        clear hx hy hxe hye
        by_cases hxy : x = y
        · subst hxy
          go_wp2
          go_region_held_law (fun W => W.cell? ⟨b1, o1 + tp, none⟩ = some (.int .u8 x) ∧ W.cell? ⟨b2, o2 + ep, none⟩ = some (.int .u8 x))
            ((refine ⟨?_, ?_⟩ <;> (repeat (first | (with_reducible assumption) | (with_reducible refine kp_drew ?_)))))
            (fail)
          go_wp2
          go_roundw
          case rel => exact ⟨tp, ep, by go_num, by go_num, by omega, by omega, by omega, by omega, Lib.hid (drop_more HT.out HXY.out.1 HXY.out.2), Lib.hid HBL.out.drew⟩
          case measure => simp [intOf]
        · have hne : (x == y) = false := by simpa using hxy
          go_wp2
          go_region_held_law (fun W => W.cell? ⟨b1, o1 + tp, none⟩ = some (.int .u8 x) ∧ W.cell? ⟨b2, o2 + ep, none⟩ = some (.int .u8 y))
            ((refine ⟨?_, ?_⟩ <;> (repeat (first | (with_reducible assumption) | (with_reducible refine kp_drew ?_)))))
            (fail)
          have HD := Lib.hid (show DifR A B f (tp + 1) (ep + 1) from ⟨h1, h2, by rw [HA.out.length]; exact h3, by rw [HB.out.length]; exact h4, HF.out.1, HT.out, fun q1 q2 => HF.out.2 (by omega) (by omega), fun _ _ h => hxy (by rw [Nat.add_sub_cancel, Nat.add_sub_cancel, HXY.out.1, HXY.out.2] at h; exact Option.some.inj h)⟩)
          have HBY := Lib.hid HBL.out.drew
          clear c1 c2 k1 k2 k3 k6 k7 hne
          obtain ⟨w5, hw5⟩ : ∃ w5, w5 = wr.drew := ⟨_, rfl⟩
          rw [← hw5] at HBY ⊢
          clear hw5
          have HCL := Lib.hid (fun (ad : Option Addr) (cc : Nat) (h : ad = partA (some ⟨b2, o2, none⟩) c' f) => cloneB_any ad (ep + 1 - f) cc ((B.take (ep + 1)).drop f) w5 (part_len HB.out.length HD.out.fe (by have h := HD.out.eB; rwa [HB.out.length] at h)) (by have h := HD.out.eB; rw [HB.out.length] at h; omega) (h ▸ (partA_at HB.out.length HB.out.le HB.out.at_ f (ep + 1) HD.out.fe (by have h := HD.out.eB; rwa [HB.out.length] at h)).below (Below.more HW.out HBY.out)))
          have hP0 : w.heap.size < W0.heap.size := cell_lt d0
          have x0 := (HBY.out.cell (p := ⟨w.heap.size, 0, none⟩) hP0).trans d0
          have x1 := (HBY.out.cell (p := ⟨w.heap.size, 1, none⟩) hP0).trans d1
          have x2 := (HBY.out.cell (p := ⟨w.heap.size, 2, none⟩) hP0).trans d2
          have hP5 : w.heap.size < w5.heap.size := cell_lt x0
          have hle := HB.out.le
          have hfe := HD.out.fe
          have hft := HD.out.ft
          have hen : ep + 1 ≤ n' := by have h := HD.out.eB; rwa [HB.out.length] at h
          clear d0 d1 d2
          have hec : ep + 1 ≤ c' := by omega
          have hcs : c' = f ∨ ¬ c' = f := by omega
          rcases hcs with hc | hc
          · exfalso; omega
          · have hpa := Lib.hid (show (some ⟨b2, o2 + f, none⟩ : Option Addr) = partA (some ⟨b2, o2, none⟩) c' f from by unfold partA; rw [if_neg hc]; simp [Addr.add])
            go_wp2_with (go_at_call 36; (with_reducible refine (HCL.out _ _ hpa.out).mono ?_); rintro e w6 ⟨v6, rfl, own6, hb6⟩; obtain ⟨a6, c6, rfl, hc6⟩ := owns_slice own6; have z0 := (hb6.frozen (p := ⟨w.heap.size, 0, none⟩) hP5).trans ((HBY.out.frozen (p := ⟨w.heap.size, 0, none⟩) hP0).trans (HZ.out 0)); have z1 := (hb6.frozen (p := ⟨w.heap.size, 1, none⟩) hP5).trans ((HBY.out.frozen (p := ⟨w.heap.size, 1, none⟩) hP0).trans (HZ.out 1)); have z2 := (hb6.frozen (p := ⟨w.heap.size, 2, none⟩) hP5).trans ((HBY.out.frozen (p := ⟨w.heap.size, 2, none⟩) hP0).trans (HZ.out 2)); have HO := Lib.hid (And.intro own6 (Below.more (Below.more HW.out HBY.out) hb6)); have hz6 := HW.out.size; have hz7 := HBY.out.size; have y0 := (hb6.cell (p := ⟨w.heap.size, 0, none⟩) hP5).trans x0; have y1 := (hb6.cell (p := ⟨w.heap.size, 1, none⟩) hP5).trans x1; have y2 := (hb6.cell (p := ⟨w.heap.size, 2, none⟩) hP5).trans x2; clear own6 hb6)
            refine bodyPost_ret (v := .tuple #[.agg #[.int .i64 f, .int .i64 ((tp : Int) + 1), .slice a6 ((ep + 1) - f) c6], .bool true]) ?_ rfl ⟨f, tp + 1, (ep + 1), .slice a6 ((ep + 1) - f) c6, HD.out, by simp, ?_, ?_⟩
            · simp [results, Try.results19, go_sem, y0, y1, y2]
            · exact owns_lower (ownsRow_setCell_below (ownsRow_setCell_below (ownsRow_setCell_below HO.out.1 (a := ⟨w.heap.size, 0, none⟩) hP5 _) (a := ⟨w.heap.size, 1, none⟩) hP5 _) (a := ⟨w.heap.size, 2, none⟩) hP5 _) (Nat.le_of_lt hP5)
            · exact ((HO.out.2.setCell (p := ⟨w.heap.size, 0, none⟩) (Nat.le_refl _) _).setCell (p := ⟨w.heap.size, 1, none⟩) (Nat.le_refl _) _).setCell (p := ⟨w.heap.size, 2, none⟩) (Nat.le_refl _) _
      · have k3 : ¬ (f : Int) < min (t : Int) (e' : Int) := by omega
        have hd : decide ((f : Int) < min (t : Int) (e' : Int)) = false := decide_eq_false k3
        go_wp2
        go_quiet (fail)
        have HD := Lib.hid (show DifR A B f t e' from ⟨h1, h2, by rw [HA.out.length]; exact h3, by rw [HB.out.length]; exact h4, HF.out.1, HT.out, fun q1 q2 => absurd ⟨q1, q2⟩ hlt, fun q1 q2 => absurd ⟨q1, q2⟩ hlt⟩)
        have HBY := Lib.hid (below_drewN HBL.out nq)
        clear hd k3
        obtain ⟨w5, hw5⟩ : ∃ w5, w5 = wr.drewN nq := ⟨_, rfl⟩
        rw [← hw5] at HBY ⊢
        clear hw5
        have HCL := Lib.hid (fun (ad : Option Addr) (cc : Nat) (h : ad = partA a' c' f) => cloneB_any ad (e' - f) cc ((B.take (e')).drop f) w5 (part_len HB.out.length HD.out.fe (by have h := HD.out.eB; rwa [HB.out.length] at h)) (by have h := HD.out.eB; rw [HB.out.length] at h; omega) (h ▸ (partA_at HB.out.length HB.out.le HB.out.at_ f (e') HD.out.fe (by have h := HD.out.eB; rwa [HB.out.length] at h)).below (Below.more HW.out HBY.out)))
        have hP0 : w.heap.size < W0.heap.size := cell_lt d0
        have x0 := (HBY.out.cell (p := ⟨w.heap.size, 0, none⟩) hP0).trans d0
        have x1 := (HBY.out.cell (p := ⟨w.heap.size, 1, none⟩) hP0).trans d1
        have x2 := (HBY.out.cell (p := ⟨w.heap.size, 2, none⟩) hP0).trans d2
        have hP5 : w.heap.size < w5.heap.size := cell_lt x0
        have hle := HB.out.le
        have hfe := HD.out.fe
        have hft := HD.out.ft
        have hen : e' ≤ n' := by have h := HD.out.eB; rwa [HB.out.length] at h
        clear d0 d1 d2
        have hec : e' ≤ c' := by omega
        have hcs : c' = f ∨ ¬ c' = f := by omega
        rcases hcs with hc | hc
        · have hpa := Lib.hid (show a' = partA a' c' f from (if_pos hc).symm)
          go_wp2_with (go_at_call 36; (with_reducible refine (HCL.out _ _ hpa.out).mono ?_); rintro e w6 ⟨v6, rfl, own6, hb6⟩; obtain ⟨a6, c6, rfl, hc6⟩ := owns_slice own6; have z0 := (hb6.frozen (p := ⟨w.heap.size, 0, none⟩) hP5).trans ((HBY.out.frozen (p := ⟨w.heap.size, 0, none⟩) hP0).trans (HZ.out 0)); have z1 := (hb6.frozen (p := ⟨w.heap.size, 1, none⟩) hP5).trans ((HBY.out.frozen (p := ⟨w.heap.size, 1, none⟩) hP0).trans (HZ.out 1)); have z2 := (hb6.frozen (p := ⟨w.heap.size, 2, none⟩) hP5).trans ((HBY.out.frozen (p := ⟨w.heap.size, 2, none⟩) hP0).trans (HZ.out 2)); have HO := Lib.hid (And.intro own6 (Below.more (Below.more HW.out HBY.out) hb6)); have hz6 := HW.out.size; have hz7 := HBY.out.size; have y0 := (hb6.cell (p := ⟨w.heap.size, 0, none⟩) hP5).trans x0; have y1 := (hb6.cell (p := ⟨w.heap.size, 1, none⟩) hP5).trans x1; have y2 := (hb6.cell (p := ⟨w.heap.size, 2, none⟩) hP5).trans x2; clear own6 hb6)
          refine bodyPost_ret (v := .tuple #[.agg #[.int .i64 f, .int .i64 (t : Int), .slice a6 (e' - f) c6], .bool true]) ?_ rfl ⟨f, t, e', .slice a6 (e' - f) c6, HD.out, rfl, ?_, ?_⟩
          · simp [results, Try.results19, go_sem, y0, y1, y2]
          · exact owns_lower (ownsRow_setCell_below (ownsRow_setCell_below (ownsRow_setCell_below HO.out.1 (a := ⟨w.heap.size, 0, none⟩) hP5 _) (a := ⟨w.heap.size, 1, none⟩) hP5 _) (a := ⟨w.heap.size, 2, none⟩) hP5 _) (Nat.le_of_lt hP5)
          · exact ((HO.out.2.setCell (p := ⟨w.heap.size, 0, none⟩) (Nat.le_refl _) _).setCell (p := ⟨w.heap.size, 1, none⟩) (Nat.le_refl _) _).setCell (p := ⟨w.heap.size, 2, none⟩) (Nat.le_refl _) _
        · have hpa := Lib.hid (show Option.map (fun x => x.add f) a' = partA a' c' f from (if_neg hc).symm)
          go_wp2_with (go_at_call 36; (with_reducible refine (HCL.out _ _ hpa.out).mono ?_); rintro e w6 ⟨v6, rfl, own6, hb6⟩; obtain ⟨a6, c6, rfl, hc6⟩ := owns_slice own6; have z0 := (hb6.frozen (p := ⟨w.heap.size, 0, none⟩) hP5).trans ((HBY.out.frozen (p := ⟨w.heap.size, 0, none⟩) hP0).trans (HZ.out 0)); have z1 := (hb6.frozen (p := ⟨w.heap.size, 1, none⟩) hP5).trans ((HBY.out.frozen (p := ⟨w.heap.size, 1, none⟩) hP0).trans (HZ.out 1)); have z2 := (hb6.frozen (p := ⟨w.heap.size, 2, none⟩) hP5).trans ((HBY.out.frozen (p := ⟨w.heap.size, 2, none⟩) hP0).trans (HZ.out 2)); have HO := Lib.hid (And.intro own6 (Below.more (Below.more HW.out HBY.out) hb6)); have hz6 := HW.out.size; have hz7 := HBY.out.size; have y0 := (hb6.cell (p := ⟨w.heap.size, 0, none⟩) hP5).trans x0; have y1 := (hb6.cell (p := ⟨w.heap.size, 1, none⟩) hP5).trans x1; have y2 := (hb6.cell (p := ⟨w.heap.size, 2, none⟩) hP5).trans x2; clear own6 hb6)
          refine bodyPost_ret (v := .tuple #[.agg #[.int .i64 f, .int .i64 (t : Int), .slice a6 (e' - f) c6], .bool true]) ?_ rfl ⟨f, t, e', .slice a6 (e' - f) c6, HD.out, rfl, ?_, ?_⟩
          · simp [results, Try.results19, go_sem, y0, y1, y2]
          · exact owns_lower (ownsRow_setCell_below (ownsRow_setCell_below (ownsRow_setCell_below HO.out.1 (a := ⟨w.heap.size, 0, none⟩) hP5 _) (a := ⟨w.heap.size, 1, none⟩) hP5 _) (a := ⟨w.heap.size, 2, none⟩) hP5 _) (Nat.le_of_lt hP5)
          · exact ((HO.out.2.setCell (p := ⟨w.heap.size, 0, none⟩) (Nat.le_refl _) _).setCell (p := ⟨w.heap.size, 1, none⟩) (Nat.le_refl _) _).setCell (p := ⟨w.heap.size, 2, none⟩) (Nat.le_refl _) _

end Go.Proofs.Ytbljgoieieoamaa
