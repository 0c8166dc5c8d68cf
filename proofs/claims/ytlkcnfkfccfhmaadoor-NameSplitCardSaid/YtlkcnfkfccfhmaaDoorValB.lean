/-
  Contract: the library's Valid, at a row of bytes.
-/
import Derived.Test.YtlkcnfkfccfhmaaDoorValA
namespace Go.Proofs.YtlkcnfkfccfhmaaDoor
open Go.RowKit

theorem tabs_below {w w' : World} (h : Tabs w) (hb : Below w.heap.size w w') : Tabs w' := by
  obtain ⟨h1, h2⟩ := h
  refine ⟨fun c hc => ?_, fun i hi => ?_⟩
  · rw [hb.cell (cell_lt (h1 c hc))]; exact h1 c hc
  · obtain ⟨p, q⟩ := h2 i hi
    exact ⟨by rw [hb.cell (cell_lt p)]; exact p, by rw [hb.cell (cell_lt q)]; exact q⟩

set_option maxRecDepth 100000 in
theorem and7 : ∀ X : Fin 256, bits .and .u8 ((X.val : Nat) : Int) 7 = ((X.val % 8 : Nat) : Int) := by decide

theorem pair_cell (w : World) (u v : Value) (e : TypeId) : ∀ j x, [u, v][j]? = some x → (w.alloc (.cells #[u, v] e)).cell? ⟨w.heap.size, j, none⟩ = some x := fun j x hj => by
  have h := new_cells w [u, v] e j x hj
  by_cases h0 : j = 0
  · subst h0; simpa [Addr.add] using h
  · simpa [Addr.add, h0] using h

def lenOf : Value → Nat
  | .slice _ n _ => n
  | _ => 0

/-- What the loop holds: a slice of the bytes t. -/
def SliceOf (w : World) (t : ByteArray) (v : Value) : Prop := ∃ a, v = .slice a t.size t.size ∧ (0 < t.size → ∃ b o, a = some ⟨b, o, none⟩ ∧ Lies w b o t)

theorem SliceOf.mk {w : World} {t : ByteArray} {b o m : Nat} (hm : t.size = m) (hl : Lies w b o t) : SliceOf w t (.slice (some ⟨b, o, none⟩) m m) := by
  subst hm; exact ⟨_, rfl, fun _ => ⟨b, o, rfl, hl⟩⟩
theorem SliceOf.end {w : World} {t : ByteArray} {a : Option Addr} (hm : t.size = 0) : SliceOf w t (.slice a 0 0) := ⟨a, by rw [hm], fun h => by omega⟩

set_option maxHeartbeats 40000000 in
set_option maxRecDepth 100000 in
theorem valid_some (b o n cap : Nat) (t : ByteArray) (w : World) (hT : Tabs w) (hn : t.size = n) (h0 : 0 < n) (hc : n ≤ cap) (_hm : cap ≤ maxLen) (hl : Lies w b o t) :
    Calls Tryd.prog 44 #[.slice (some ⟨b, o, none⟩) n cap] w fun e w' => e = .returned (.bool (Lib.validD t.data.toList)) ∧ Below w.heap.size w w' := by
  have _hm2 : cap ≤ 2 ^ 63 - 1 := _hm
  obtain ⟨ANS, hANS⟩ : ∃ ANS, Lib.validD t.data.toList = ANS := ⟨_, rfl⟩
  rw [hANS]
  have HS := Lib.hid (And.intro (SliceOf.mk hn hl) hANS)
  have HT := Lib.hid hT
  have hne : ¬ n = 0 := by omega
  clear hl hT hANS
  go_enter Tryd.func44, Tryd.ntmps44
  go_wp2
  go_loopw [0] (fun v wx => Below w.heap.size w wx ∧ ∃ t : ByteArray, SliceOf wx t v ∧ Lib.validD t.data.toList = ANS ∧ t.size ≤ n) (fun v _ => lenOf v)
  case atStart => exact ⟨Below.refl _ _, t, HS.out.1, HS.out.2, by omega⟩
  case round =>
    clear HS hn t
    obtain ⟨hbl, t, ⟨a, rfl, hla⟩, hv, hle⟩ := hrel
    obtain ⟨m, hm'⟩ : ∃ m, t.size = m := ⟨_, rfl⟩
    rw [hm'] at hla hle ⊢
    by_cases h1 : 0 < m
    · obtain ⟨b, o, rfl, hl⟩ := hla h1
      have c0 := hl.zero (by omega)
      obtain ⟨x0, hx0⟩ : ∃ x0, t.get! 0 = x0 := ⟨_, rfl⟩
      rw [hx0] at c0
      have hx0lt : x0.toNat < 256 := x0.toNat_lt
      by_cases hasc : x0.toNat < 128
      · as_aux_lemma =>
        obtain ⟨m1, rfl⟩ : ∃ m1, m = m1 + 1 := ⟨m - 1, by omega⟩
        have hascz : (x0.toNat : Int) < 128 := by omega
        have hl1 := hl.ext 1
        have hm1 : (t.extract 1 t.size).size = m1 := by rw [Lib.ext_size]; omega
        have hv1 : Lib.validD (t.extract 1 t.size).data.toList = ANS := by rw [Lib.valid_skip t 1 (Lib.asc_one t (by omega) (by rw [hx0]; exact hasc))]; exact hv
        obtain ⟨t1, ht1⟩ : ∃ t1, t1 = t.extract 1 t.size := ⟨_, rfl⟩
        rw [← ht1] at hl1 hm1 hv1
        have H1 := Lib.hid (And.intro hl1 (And.intro hm1 hv1))
        clear hl hla hv hx0 ht1 hl1 hm1 hv1 hm' hasc
        clear t
        by_cases hz1 : m1 = 0
        · subst hz1
          go_wp2
          go_roundw
          case rel => exact ⟨hbl, t1, SliceOf.end H1.out.2.1, H1.out.2.2, by rw [H1.out.2.1]; omega⟩
          case measure => simp [lenOf]
        by_cases c8 : 8 < m1
        · obtain ⟨m2, rfl⟩ : ∃ m2, m1 = m2 + 8 := ⟨m1 - 8, by omega⟩
          obtain ⟨A1, lA1, kA1, cW1⟩ := word_any b (o + 1) (m2 + 8) t1 H1.out.2.1 (by omega)
          have hand1 : bits .and .u64 (A1 : Int) 9259542123273814144 = ((A1 &&& 9259542123273814144 : Nat) : Int) := u64_and_nat A1 9259542123273814144 lA1 (by omega)
          obtain ⟨Z1, hZ1⟩ : ∃ Z1, A1 &&& 9259542123273814144 = Z1 := ⟨_, rfl⟩
          rw [hZ1] at hand1 kA1
          have HW1 := Lib.hid (cW1 wr H1.out.1)
          have HK1 := Lib.hid kA1
          clear hZ1 kA1 cW1 lA1
          have hm2 : ¬ m2 = 0 := by omega
          by_cases hz : Z1 = 0
          · have hzb : ((Z1 : Int) == 0) = true := by simp [hz]
            have hs2 : (t1.extract 8 t1.size).size = m2 := by rw [Lib.ext_size, H1.out.2.1]; omega
            have hv2 : Lib.validD (t1.extract 8 t1.size).data.toList = ANS := by rw [Lib.valid_skip t1 8 (HK1.out hz)]; exact H1.out.2.2
            have hl2 := H1.out.1.ext 8
            obtain ⟨t2, ht2⟩ : ∃ t2, t2 = t1.extract 8 t1.size := ⟨_, rfl⟩
            rw [← ht2] at hs2 hv2 hl2
            have H2 := Lib.hid (And.intro hl2 (And.intro hs2 hv2))
            clear hs2 hv2 hl2 ht2 HK1 hz
            by_cases c16 : 16 < m2
            · obtain ⟨m3, rfl⟩ : ∃ m3, m2 = m3 + 16 := ⟨m2 - 16, by omega⟩
              obtain ⟨A2, lA2, kA2, cW2⟩ := word_any b (o + 1 + 8) (m3 + 16) t2 H2.out.2.1 (by omega)
              have hs2b : (t2.extract 8 t2.size).size = m3 + 8 := by rw [Lib.ext_size, H2.out.2.1]; omega
              obtain ⟨A3, lA3, kA3, cW3⟩ := word_any b (o + 1 + 8 + 8) (m3 + 8) (t2.extract 8 t2.size) hs2b (by omega)
              have hor : bits .or .u64 (A2 : Int) (A3 : Int) = ((A2 ||| A3 : Nat) : Int) := u64_or_nat A2 A3 lA2 lA3
              have hand2 : bits .and .u64 ((A2 ||| A3 : Nat) : Int) 9259542123273814144 = (((A2 ||| A3) &&& 9259542123273814144 : Nat) : Int) := u64_and_nat _ 9259542123273814144 (Nat.or_lt_two_pow (n := 64) lA2 lA3) (by omega)
              have k2 : (A2 ||| A3) &&& 9259542123273814144 = 0 → Lib.Asc t2 16 := fun h0' => by
                obtain ⟨e1, e2⟩ := (Lib.or_mask A2 A3 _).1 h0'
                exact Lib.asc_add t2 8 8 (kA2 e1) (kA3 e2)
              obtain ⟨O2, hO2⟩ : ∃ O2, A2 ||| A3 = O2 := ⟨_, rfl⟩
              rw [hO2] at hor hand2 k2
              obtain ⟨Z2, hZ2⟩ : ∃ Z2, O2 &&& 9259542123273814144 = Z2 := ⟨_, rfl⟩
              rw [hZ2] at hand2 k2
              have HK2 := Lib.hid k2
              have HW2 := Lib.hid (show ∀ W, Below wr.heap.size wr W → Calls Tryd.prog 47 #[.slice (some ⟨b, o + 1 + 8, none⟩) (m3 + 16) (m3 + 16)] W fun e w' => e = .returned (.int .u64 A2) ∧ ∃ q, w' = W.drewN q from fun W hW => cW2 W (H2.out.1.below hW))
              have HW3 := Lib.hid (show ∀ W, Below wr.heap.size wr W → Calls Tryd.prog 47 #[.slice (some ⟨b, o + 1 + 8 + 8, none⟩) (m3 + 8) (m3 + 8)] W fun e w' => e = .returned (.int .u64 A3) ∧ ∃ q, w' = W.drewN q from fun W hW => cW3 W ((H2.out.1.ext 8).below hW))
              have hm3 : ¬ m3 + 16 = 8 := by omega
              clear k2 hZ2 hO2 kA2 kA3 lA2 lA3 cW2 cW3 hs2b
              go_wp2_with (go_at_call 47; refine HW1.out.mono ?_; rintro e W1 ⟨rfl, q1, rfl⟩)
              have hbq : Below wr.heap.size wr (wr.drewN q1) := bel_drewN (Below.refl _ _) q1
              generalize wr.drewN q1 = wq at hbq ⊢
              have HQ := Lib.hid (show ∀ q, Below wr.heap.size wr (wq.drewN q) from fun q => bel_drewN hbq q)
              have HB2 := Lib.hid (hbl.trans (hbq.mono hbl.size))
              have c16z : (16 : Int) < (m3 : Int) + 16 := by omega
              have c8z : (8 : Int) ≤ (m3 : Int) + 16 := by omega
              have c7z : (7 : Int) < (m3 : Int) + 16 := by omega
              clear hbq HW1 hand1 hzb
              by_cases hz2 : Z2 = 0
              · have hz2b : ((Z2 : Int) == 0) = true := by simp [hz2]
                go_quiet ((first | (go_at_call 47; with_reducible exact Calls.quiet_of (HW2.out _ (HQ.out _))) | (go_at_call 47; with_reducible exact Calls.quiet_of (HW3.out _ (HQ.out _)))))
                go_wp2
                have hs3 : (t2.extract 16 t2.size).size = m3 := by rw [Lib.ext_size, H2.out.2.1]; omega
                have hv3 : Lib.validD (t2.extract 16 t2.size).data.toList = ANS := by rw [Lib.valid_skip t2 16 (HK2.out hz2)]; exact H2.out.2.2
                have hl3 : Lies (wq.drewN nq) b (o + 1 + 8 + 16) (t2.extract 16 t2.size) := (H2.out.1.ext 16).below (HQ.out nq)
                have H3 := Lib.hid (And.intro (SliceOf.mk hs3 hl3) (And.intro hv3 hs3))
                have HB3 := Lib.hid (bel_drewN HB2.out nq)
                have hle3 : m3 + 16 + 8 + 1 ≤ n := hle
                clear hs3 hv3 hl3 HQ HB2 HW2 HW3 hor hand2 hz2b c8z c16z c7z
                generalize wq.drewN nq = wz at H3 HB3 ⊢
                go_loopw [0] (fun v wx => Below w.heap.size w wx ∧ ∃ t : ByteArray, SliceOf wx t v ∧ Lib.validD t.data.toList = ANS ∧ t.size ≤ m3) (fun v _ => lenOf v)
                case atStart => exact ⟨HB3.out, _, H3.out.1, H3.out.2.1, by rw [H3.out.2.2]; omega⟩
                case round =>
                  obtain ⟨hbu, u, ⟨a, rfl, hla⟩, vu, hut⟩ := hrel
                  obtain ⟨m, hm'⟩ : ∃ m, u.size = m := ⟨_, rfl⟩
                  rw [hm'] at hla hut ⊢
                  by_cases c32 : 32 < m
                  · obtain ⟨m5, rfl⟩ : ∃ m5, m = m5 + 32 := ⟨m - 32, by omega⟩
                    obtain ⟨b, o, rfl, hl⟩ := hla (by omega)
                    have s1 : (u.extract 8 u.size).size = m5 + 24 := by rw [Lib.ext_size]; omega
                    have s2 : (u.extract 16 u.size).size = m5 + 16 := by rw [Lib.ext_size]; omega
                    have s3 : (u.extract 24 u.size).size = m5 + 8 := by rw [Lib.ext_size]; omega
                    obtain ⟨B0, l0, k0, c0⟩ := word_any b o (m5 + 32) u hm' (by omega)
                    obtain ⟨B1, l1, k1, c1⟩ := word_any b (o + 8) (m5 + 24) _ s1 (by omega)
                    obtain ⟨B2, l2, k2, c2⟩ := word_any b (o + 16) (m5 + 16) _ s2 (by omega)
                    obtain ⟨B3, l3, k3, c3⟩ := word_any b (o + 24) (m5 + 8) _ s3 (by omega)
                    have HB0 := Lib.hid (show ∀ W, Below wr.heap.size wr W → Calls Tryd.prog 47 #[.slice (some ⟨b, o, none⟩) (m5 + 32) (m5 + 32)] W fun e w' => e = .returned (.int .u64 B0) ∧ ∃ q, w' = W.drewN q from fun W hW => c0 W (hl.below hW))
                    have HB1 := Lib.hid (show ∀ W, Below wr.heap.size wr W → Calls Tryd.prog 47 #[.slice (some ⟨b, o + 8, none⟩) (m5 + 24) (m5 + 24)] W fun e w' => e = .returned (.int .u64 B1) ∧ ∃ q, w' = W.drewN q from fun W hW => c1 W ((hl.ext 8).below hW))
                    have HB2 := Lib.hid (show ∀ W, Below wr.heap.size wr W → Calls Tryd.prog 47 #[.slice (some ⟨b, o + 16, none⟩) (m5 + 16) (m5 + 16)] W fun e w' => e = .returned (.int .u64 B2) ∧ ∃ q, w' = W.drewN q from fun W hW => c2 W ((hl.ext 16).below hW))
                    have HB3 := Lib.hid (show ∀ W, Below wr.heap.size wr W → Calls Tryd.prog 47 #[.slice (some ⟨b, o + 24, none⟩) (m5 + 8) (m5 + 8)] W fun e w' => e = .returned (.int .u64 B3) ∧ ∃ q, w' = W.drewN q from fun W hW => c3 W ((hl.ext 24).below hW))
                    have ho1 : bits .or .u64 (B0 : Int) (B1 : Int) = ((B0 ||| B1 : Nat) : Int) := u64_or_nat B0 B1 l0 l1
                    have ho2 : bits .or .u64 (B2 : Int) (B3 : Int) = ((B2 ||| B3 : Nat) : Int) := u64_or_nat B2 B3 l2 l3
                    have lo1 : B0 ||| B1 < 18446744073709551616 := Nat.or_lt_two_pow (n := 64) l0 l1
                    have lo2 : B2 ||| B3 < 18446744073709551616 := Nat.or_lt_two_pow (n := 64) l2 l3
                    have ho3 : bits .or .u64 ((B0 ||| B1 : Nat) : Int) ((B2 ||| B3 : Nat) : Int) = (((B0 ||| B1) ||| (B2 ||| B3) : Nat) : Int) := u64_or_nat _ _ lo1 lo2
                    have hand3 : bits .and .u64 (((B0 ||| B1) ||| (B2 ||| B3) : Nat) : Int) 9259542123273814144 = ((((B0 ||| B1) ||| (B2 ||| B3)) &&& 9259542123273814144 : Nat) : Int) := u64_and_nat _ 9259542123273814144 (Nat.or_lt_two_pow (n := 64) lo1 lo2) (by omega)
                    have kk : ((B0 ||| B1) ||| (B2 ||| B3)) &&& 9259542123273814144 = 0 → Lib.Asc u 32 := fun h0' => by
                      obtain ⟨e01, e23⟩ := (Lib.or_mask _ _ _).1 h0'
                      obtain ⟨e0, e1⟩ := (Lib.or_mask _ _ _).1 e01
                      obtain ⟨e2, e3⟩ := (Lib.or_mask _ _ _).1 e23
                      exact Lib.asc_add u 24 8 (Lib.asc_add u 16 8 (Lib.asc_add u 8 8 (k0 e0) (k1 e1)) (k2 e2)) (k3 e3)
                    obtain ⟨P1, hP1⟩ : ∃ P1, B0 ||| B1 = P1 := ⟨_, rfl⟩
                    obtain ⟨P2, hP2⟩ : ∃ P2, B2 ||| B3 = P2 := ⟨_, rfl⟩
                    rw [hP1, hP2] at ho3 hand3 kk
                    rw [hP1] at ho1
                    rw [hP2] at ho2
                    obtain ⟨P3, hP3⟩ : ∃ P3, P1 ||| P2 = P3 := ⟨_, rfl⟩
                    rw [hP3] at ho3 hand3 kk
                    obtain ⟨Z3, hZ3⟩ : ∃ Z3, P3 &&& 9259542123273814144 = Z3 := ⟨_, rfl⟩
                    rw [hZ3] at hand3 kk
                    have HKK := Lib.hid kk
                    have HU := Lib.hid (And.intro hl (And.intro hm' vu))
                    have HQ := Lib.hid (show ∀ q, Below wr.heap.size wr (wr.drewN q) from fun q => bel_drewN (Below.refl _ _) q)
                    have e32 : (32 : Int) < (m5 : Int) + 32 := by omega
                    have e24 : (24 : Int) ≤ (m5 : Int) + 32 := by omega
                    have e16 : (16 : Int) ≤ (m5 : Int) + 32 := by omega
                    have e8 : (8 : Int) ≤ (m5 : Int) + 32 := by omega
                    have hm5 : ¬ m5 = 0 := by omega
                    clear kk hZ3 hP1 hP2 hP3 lo1 lo2 l0 l1 l2 l3 k0 k1 k2 k3 c0 c1 c2 c3 s1 s2 s3 hl hm' vu hla H3 hz2 HK2 H2 H1
                    by_cases hz3 : Z3 = 0
                    · have hz3b : ((Z3 : Int) == 0) = true := by simp [hz3]
                      go_wp2
                      go_quiet ((first | (go_at_call 47; with_reducible exact Calls.quiet_of (HB0.out _ (HQ.out _))) | (go_at_call 47; with_reducible exact Calls.quiet_of (HB1.out _ (HQ.out _))) | (go_at_call 47; with_reducible exact Calls.quiet_of (HB2.out _ (HQ.out _))) | (go_at_call 47; with_reducible exact Calls.quiet_of (HB3.out _ (HQ.out _)))))
                      go_wp2
                      go_roundw
                      case rel => exact ⟨bel_drewN hbu _, u.extract 32 u.size, SliceOf.mk (by rw [Lib.ext_size, HU.out.2.1]; omega) ((HU.out.1.ext 32).below (HQ.out _)), by rw [Lib.valid_skip u 32 (HKK.out hz3)]; exact HU.out.2.2, by rw [Lib.ext_size, HU.out.2.1]; omega⟩
                      case measure => simp [lenOf]
                    · have hz3b : ((Z3 : Int) == 0) = false := by simp; omega
                      go_wp2
                      go_quiet ((first | (go_at_call 47; with_reducible exact Calls.quiet_of (HB0.out _ (HQ.out _))) | (go_at_call 47; with_reducible exact Calls.quiet_of (HB1.out _ (HQ.out _))) | (go_at_call 47; with_reducible exact Calls.quiet_of (HB2.out _ (HQ.out _))) | (go_at_call 47; with_reducible exact Calls.quiet_of (HB3.out _ (HQ.out _)))))
                      go_wp2
                      go_roundw
                      case rel => exact ⟨bel_drewN hbu _, u, SliceOf.mk HU.out.2.1 (HU.out.1.below (HQ.out _)), HU.out.2.2, by rw [HU.out.2.1]; omega⟩
                      case measure => simp [lenOf]; omega
                  · have c32b : decide ((32 : Int) < (m : Int)) = false := decide_eq_false (by omega)
                    go_wp2
                    go_quiet (fail)
                    go_wp2
                    go_roundw
                    case rel => exact ⟨bel_drewN hbu _, u, ⟨a, by rw [hm'], fun hpos => by
                      obtain ⟨b', o', e1, e2⟩ := hla (by omega)
                      exact ⟨b', o', e1, e2.below (bel_drewN (Below.refl _ _) _)⟩⟩, vu, by omega⟩
                    case measure => simp [lenOf]; omega
              · have hz2b : ((Z2 : Int) == 0) = false := by simp; omega
                go_quiet ((first | (go_at_call 47; with_reducible exact Calls.quiet_of (HW2.out _ (HQ.out _))) | (go_at_call 47; with_reducible exact Calls.quiet_of (HW3.out _ (HQ.out _)))))
                go_wp2
                go_roundw
                case rel => exact ⟨bel_drewN HB2.out _, t2, SliceOf.mk H2.out.2.1 (H2.out.1.below (HQ.out _)), H2.out.2.2, by rw [H2.out.2.1]; omega⟩
                case measure => simp [lenOf]
            · have c16b : decide ((16 : Int) < (m2 : Int)) = false := decide_eq_false (by omega)
              go_wp2_with (go_at_call 47; refine HW1.out.mono ?_; rintro e W1 ⟨rfl, q1, rfl⟩)
              go_quiet (fail)
              go_wp2
              go_roundw
              case rel => exact ⟨bel_drewN (bel_drewN hbl q1) _, t2, SliceOf.mk H2.out.2.1 (H2.out.1.below (bel_drewN (bel_drewN (Below.refl _ _) q1) _)), H2.out.2.2, by rw [H2.out.2.1]; omega⟩
              case measure => simp [lenOf]; omega
          · have hzb : ((Z1 : Int) == 0) = false := by simp; omega
            go_wp2_with (go_at_call 47; refine HW1.out.mono ?_; rintro e W1 ⟨rfl, q1, rfl⟩)
            go_roundw
            case rel => exact ⟨bel_drewN hbl q1, t1, SliceOf.mk H1.out.2.1 (H1.out.1.below (bel_drewN (Below.refl _ _) q1)), H1.out.2.2, by rw [H1.out.2.1]; omega⟩
            case measure => simp [lenOf]
        · go_wp2
          go_roundw
          case rel => exact ⟨hbl, t1, SliceOf.mk H1.out.2.1 H1.out.1, H1.out.2.2, by rw [H1.out.2.1]; omega⟩
          case measure => simp [lenOf]
      · have hge : 128 ≤ x0.toNat := by omega
        have hascz : ¬ ((x0.toNat : Int) < 128) := by omega
        have hTr := tabs_below HT.out hbl
        obtain ⟨x1, hx1⟩ : ∃ x1, t.get! 1 = x1 := ⟨_, rfl⟩
        obtain ⟨x2, hx2⟩ : ∃ x2, t.get! 2 = x2 := ⟨_, rfl⟩
        obtain ⟨x3, hx3⟩ : ∃ x3, t.get! 3 = x3 := ⟨_, rfl⟩
        have l1 := x1.toNat_lt; have l2 := x2.toNat_lt; have l3 := x3.toNat_lt
        have hnil : t.data.toList ≠ [] := fun h => by rw [Lib.size_eq, h] at hm'; simp at hm'; omega
        have hlead := Lib.validD_lead t.data.toList hnil (by rw [Lib.getD_get!', hx0]; exact hge)
        rw [Lib.getD_get!', Lib.getD_get!', Lib.getD_get!', Lib.getD_get!', hx0, hx1, hx2, hx3, ← Lib.size_eq, hv, hm'] at hlead
        have hc0 : wr.cell? ⟨0, x0.toNat, none⟩ = some (.int .u8 (Lib.firstT x0.toNat)) := hTr.1 x0.toNat hx0lt
        have hXlt : Lib.firstT x0.toNat < 256 := by rcases Lib.firstT_cases x0.toNat with h | h | h | h | h | h | h | h | h <;> omega
        obtain ⟨X, hX⟩ : ∃ X, Lib.firstT x0.toNat = X := ⟨_, rfl⟩
        rw [hX] at hc0 hXlt hlead
        have h7 := and7 ⟨X, hXlt⟩
        simp only at h7
        have ha0 : wr.cell? ⟨1, X / 16 * 2, none⟩ = some (.int .u8 (Lib.accLo (X / 16))) := by rw [Nat.mul_comm]; exact (hTr.2 (X / 16) (by omega)).1
        have ha1 : wr.cell? ⟨1, X / 16 * 2 + 1, none⟩ = some (.int .u8 (Lib.accHi (X / 16))) := by rw [Nat.mul_comm]; exact (hTr.2 (X / 16) (by omega)).2
        obtain ⟨LO, hLO⟩ : ∃ LO, Lib.accLo (X / 16) = LO := ⟨_, rfl⟩
        obtain ⟨HI, hHI⟩ : ∃ HI, Lib.accHi (X / 16) = HI := ⟨_, rfl⟩
        rw [hLO] at ha0 hlead
        rw [hHI] at ha1 hlead
        obtain ⟨SZ, hSZ⟩ : ∃ SZ, X % 8 = SZ := ⟨_, rfl⟩
        rw [hSZ] at hlead
        have HL := Lib.hid hl
        have HM := Lib.hid hm'
        obtain ⟨wd, hwd⟩ : ∃ wd, wd = wr.alloc (.cells #[.int .u8 LO, .int .u8 HI] 61) := ⟨_, rfl⟩
        have f0 : wd.cell? ⟨wr.heap.size, 0, none⟩ = some (.int .u8 LO) := by rw [hwd]; exact pair_cell wr _ _ 61 0 _ rfl
        have f1 : wd.cell? ⟨wr.heap.size, 1, none⟩ = some (.int .u8 HI) := by rw [hwd]; exact pair_cell wr _ _ 61 1 _ rfl
        have hB0 : Below w.heap.size w wd := by rw [hwd]; exact hbl.alloc hbl.size _
        have hB1 : Below wr.heap.size wr wd := by rw [hwd]; exact (Below.refl _ _).alloc (Nat.le_refl _) _
        have HBL := Lib.hid (show ∀ q, Below w.heap.size w (wd.drewN q) from fun q => bel_drewN hB0 q)
        have HLB := Lib.hid (show ∀ q, Below wr.heap.size wr (wd.drewN q) from fun q => bel_drewN hB1 q)
        have HD := Lib.hid (hl.below hB1)
        have HWD := Lib.hid hwd
        clear hTr hX hv hLO hHI hnil hge hB0 hB1 hwd
        by_cases s2 : SZ = 2
        · subst s2
          have hSZz : (X : Int) % 8 = 2 := by omega
          simp only [Lib.checkN, Nat.reduceEqDiff, if_true, if_false] at hlead
          have HN := Lib.hid (show (m < 2 ∨ x1.toNat < LO ∨ HI < x1.toNat) → ANS = false from fun h => by rw [if_pos h] at hlead; exact hlead)
          have HY := Lib.hid (show ¬ (m < 2 ∨ x1.toNat < LO ∨ HI < x1.toNat) → Lib.validD (t.extract 2 t.size).data.toList = ANS from fun h => by rw [if_neg h] at hlead; rw [Lib.ext_list]; exact hlead.symm)
          clear hlead hm' hl hla
          by_cases hmk : m = 2
          · as_aux_lemma =>
            subst hmk
            go_wp2
            rw [← HWD.out]
            have cc1 : wd.cell? ⟨b, o + 1, none⟩ = some (.int .u8 x1.toNat) := by rw [← hx1]; exact HD.out 1 (by rw [HM.out]; omega)
            by_cases q1 : x1.toNat < LO
            · have q1z : (x1.toNat : Int) < (LO : Int) := by omega
              go_quiet (fail)
              go_wp2
              go_ret
              exact ⟨by have e := HN.out (by omega); subst e; rfl, HBL.out _⟩
            have q1z : ¬ ((x1.toNat : Int) < (LO : Int)) := by omega
            by_cases q2 : HI < x1.toNat
            · have q2z : (HI : Int) < (x1.toNat : Int) := by omega
              go_quiet (fail)
              go_wp2
              go_ret
              exact ⟨by have e := HN.out (by omega); subst e; rfl, HBL.out _⟩
            have q2z : ¬ ((HI : Int) < (x1.toNat : Int)) := by omega
            go_quiet (fail)
            go_wp2
            go_roundw
            case rel => exact ⟨HBL.out _, t.extract 2 t.size, SliceOf.end (by rw [Lib.ext_size, HM.out]), HY.out (by omega), by rw [Lib.ext_size, HM.out]; omega⟩
            case measure => simp [lenOf]; try omega
          · as_aux_lemma =>
            go_wp2
            rw [← HWD.out]
            by_cases q0 : m < 2
            · have q0z : (m : Int) < 2 := by omega
              go_quiet (fail)
              go_wp2
              go_ret
              exact ⟨by have e := HN.out (by omega); subst e; rfl, HBL.out _⟩
            have q0z : ¬ ((m : Int) < 2) := by omega
            have cc1 : wd.cell? ⟨b, o + 1, none⟩ = some (.int .u8 x1.toNat) := by rw [← hx1]; exact HD.out 1 (by rw [HM.out]; omega)
            have pz1 : (1 : Int) < (m : Int) := by omega
            have pn1 : 1 < m := by omega
            by_cases q1 : x1.toNat < LO
            · have q1z : (x1.toNat : Int) < (LO : Int) := by omega
              go_quiet (fail)
              go_wp2
              go_ret
              exact ⟨by have e := HN.out (by omega); subst e; rfl, HBL.out _⟩
            have q1z : ¬ ((x1.toNat : Int) < (LO : Int)) := by omega
            by_cases q2 : HI < x1.toNat
            · have q2z : (HI : Int) < (x1.toNat : Int) := by omega
              go_quiet (fail)
              go_wp2
              go_ret
              exact ⟨by have e := HN.out (by omega); subst e; rfl, HBL.out _⟩
            have q2z : ¬ ((HI : Int) < (x1.toNat : Int)) := by omega
            go_quiet (fail)
            go_wp2
            go_roundw
            case rel => exact ⟨HBL.out _, t.extract 2 t.size, SliceOf.mk (by rw [Lib.ext_size, HM.out]) ((HL.out.ext 2).below (HLB.out _)), HY.out (by omega), by rw [Lib.ext_size, HM.out]; omega⟩
            case measure => simp [lenOf]; try omega
        by_cases s3 : SZ = 3
        · subst s3
          have hSZz : (X : Int) % 8 = 3 := by omega
          simp only [Lib.checkN, Nat.reduceEqDiff, if_true, if_false] at hlead
          have HN := Lib.hid (show (m < 3 ∨ x1.toNat < LO ∨ HI < x1.toNat ∨ x2.toNat < 128 ∨ 191 < x2.toNat) → ANS = false from fun h => by rw [if_pos h] at hlead; exact hlead)
          have HY := Lib.hid (show ¬ (m < 3 ∨ x1.toNat < LO ∨ HI < x1.toNat ∨ x2.toNat < 128 ∨ 191 < x2.toNat) → Lib.validD (t.extract 3 t.size).data.toList = ANS from fun h => by rw [if_neg h] at hlead; rw [Lib.ext_list]; exact hlead.symm)
          clear hlead hm' hl hla
          by_cases hmk : m = 3
          · as_aux_lemma =>
            subst hmk
            go_wp2
            rw [← HWD.out]
            have cc1 : wd.cell? ⟨b, o + 1, none⟩ = some (.int .u8 x1.toNat) := by rw [← hx1]; exact HD.out 1 (by rw [HM.out]; omega)
            have cc2 : wd.cell? ⟨b, o + 2, none⟩ = some (.int .u8 x2.toNat) := by rw [← hx2]; exact HD.out 2 (by rw [HM.out]; omega)
            by_cases q1 : x1.toNat < LO
            · have q1z : (x1.toNat : Int) < (LO : Int) := by omega
              go_quiet (fail)
              go_wp2
              go_ret
              exact ⟨by have e := HN.out (by omega); subst e; rfl, HBL.out _⟩
            have q1z : ¬ ((x1.toNat : Int) < (LO : Int)) := by omega
            by_cases q2 : HI < x1.toNat
            · have q2z : (HI : Int) < (x1.toNat : Int) := by omega
              go_quiet (fail)
              go_wp2
              go_ret
              exact ⟨by have e := HN.out (by omega); subst e; rfl, HBL.out _⟩
            have q2z : ¬ ((HI : Int) < (x1.toNat : Int)) := by omega
            by_cases q3 : x2.toNat < 128
            · have q3z : (x2.toNat : Int) < 128 := by omega
              go_quiet (fail)
              go_wp2
              go_ret
              exact ⟨by have e := HN.out (by omega); subst e; rfl, HBL.out _⟩
            have q3z : ¬ ((x2.toNat : Int) < 128) := by omega
            by_cases q4 : 191 < x2.toNat
            · have q4z : (191 : Int) < (x2.toNat : Int) := by omega
              go_quiet (fail)
              go_wp2
              go_ret
              exact ⟨by have e := HN.out (by omega); subst e; rfl, HBL.out _⟩
            have q4z : ¬ ((191 : Int) < (x2.toNat : Int)) := by omega
            go_quiet (fail)
            go_wp2
            go_roundw
            case rel => exact ⟨HBL.out _, t.extract 3 t.size, SliceOf.end (by rw [Lib.ext_size, HM.out]), HY.out (by omega), by rw [Lib.ext_size, HM.out]; omega⟩
            case measure => simp [lenOf]; try omega
          · as_aux_lemma =>
            go_wp2
            rw [← HWD.out]
            by_cases q0 : m < 3
            · have q0z : (m : Int) < 3 := by omega
              go_quiet (fail)
              go_wp2
              go_ret
              exact ⟨by have e := HN.out (by omega); subst e; rfl, HBL.out _⟩
            have q0z : ¬ ((m : Int) < 3) := by omega
            have cc1 : wd.cell? ⟨b, o + 1, none⟩ = some (.int .u8 x1.toNat) := by rw [← hx1]; exact HD.out 1 (by rw [HM.out]; omega)
            have pz1 : (1 : Int) < (m : Int) := by omega
            have pn1 : 1 < m := by omega
            have cc2 : wd.cell? ⟨b, o + 2, none⟩ = some (.int .u8 x2.toNat) := by rw [← hx2]; exact HD.out 2 (by rw [HM.out]; omega)
            have pz2 : (2 : Int) < (m : Int) := by omega
            have pn2 : 2 < m := by omega
            by_cases q1 : x1.toNat < LO
            · have q1z : (x1.toNat : Int) < (LO : Int) := by omega
              go_quiet (fail)
              go_wp2
              go_ret
              exact ⟨by have e := HN.out (by omega); subst e; rfl, HBL.out _⟩
            have q1z : ¬ ((x1.toNat : Int) < (LO : Int)) := by omega
            by_cases q2 : HI < x1.toNat
            · have q2z : (HI : Int) < (x1.toNat : Int) := by omega
              go_quiet (fail)
              go_wp2
              go_ret
              exact ⟨by have e := HN.out (by omega); subst e; rfl, HBL.out _⟩
            have q2z : ¬ ((HI : Int) < (x1.toNat : Int)) := by omega
            by_cases q3 : x2.toNat < 128
            · have q3z : (x2.toNat : Int) < 128 := by omega
              go_quiet (fail)
              go_wp2
              go_ret
              exact ⟨by have e := HN.out (by omega); subst e; rfl, HBL.out _⟩
            have q3z : ¬ ((x2.toNat : Int) < 128) := by omega
            by_cases q4 : 191 < x2.toNat
            · have q4z : (191 : Int) < (x2.toNat : Int) := by omega
              go_quiet (fail)
              go_wp2
              go_ret
              exact ⟨by have e := HN.out (by omega); subst e; rfl, HBL.out _⟩
            have q4z : ¬ ((191 : Int) < (x2.toNat : Int)) := by omega
            go_quiet (fail)
            go_wp2
            go_roundw
            case rel => exact ⟨HBL.out _, t.extract 3 t.size, SliceOf.mk (by rw [Lib.ext_size, HM.out]) ((HL.out.ext 3).below (HLB.out _)), HY.out (by omega), by rw [Lib.ext_size, HM.out]; omega⟩
            case measure => simp [lenOf]; try omega
        by_cases s4 : SZ = 4
        · subst s4
          have hSZz : (X : Int) % 8 = 4 := by omega
          simp only [Lib.checkN, Nat.reduceEqDiff, if_true, if_false] at hlead
          have HN := Lib.hid (show (m < 4 ∨ x1.toNat < LO ∨ HI < x1.toNat ∨ x2.toNat < 128 ∨ 191 < x2.toNat ∨ x3.toNat < 128 ∨ 191 < x3.toNat) → ANS = false from fun h => by rw [if_pos h] at hlead; exact hlead)
          have HY := Lib.hid (show ¬ (m < 4 ∨ x1.toNat < LO ∨ HI < x1.toNat ∨ x2.toNat < 128 ∨ 191 < x2.toNat ∨ x3.toNat < 128 ∨ 191 < x3.toNat) → Lib.validD (t.extract 4 t.size).data.toList = ANS from fun h => by rw [if_neg h] at hlead; rw [Lib.ext_list]; exact hlead.symm)
          clear hlead hm' hl hla
          by_cases hmk : m = 4
          · as_aux_lemma =>
            subst hmk
            go_wp2
            rw [← HWD.out]
            have cc1 : wd.cell? ⟨b, o + 1, none⟩ = some (.int .u8 x1.toNat) := by rw [← hx1]; exact HD.out 1 (by rw [HM.out]; omega)
            have cc2 : wd.cell? ⟨b, o + 2, none⟩ = some (.int .u8 x2.toNat) := by rw [← hx2]; exact HD.out 2 (by rw [HM.out]; omega)
            have cc3 : wd.cell? ⟨b, o + 3, none⟩ = some (.int .u8 x3.toNat) := by rw [← hx3]; exact HD.out 3 (by rw [HM.out]; omega)
            by_cases q1 : x1.toNat < LO
            · have q1z : (x1.toNat : Int) < (LO : Int) := by omega
              go_quiet (fail)
              go_wp2
              go_ret
              exact ⟨by have e := HN.out (by omega); subst e; rfl, HBL.out _⟩
            have q1z : ¬ ((x1.toNat : Int) < (LO : Int)) := by omega
            by_cases q2 : HI < x1.toNat
            · have q2z : (HI : Int) < (x1.toNat : Int) := by omega
              go_quiet (fail)
              go_wp2
              go_ret
              exact ⟨by have e := HN.out (by omega); subst e; rfl, HBL.out _⟩
            have q2z : ¬ ((HI : Int) < (x1.toNat : Int)) := by omega
            by_cases q3 : x2.toNat < 128
            · have q3z : (x2.toNat : Int) < 128 := by omega
              go_quiet (fail)
              go_wp2
              go_ret
              exact ⟨by have e := HN.out (by omega); subst e; rfl, HBL.out _⟩
            have q3z : ¬ ((x2.toNat : Int) < 128) := by omega
            by_cases q4 : 191 < x2.toNat
            · have q4z : (191 : Int) < (x2.toNat : Int) := by omega
              go_quiet (fail)
              go_wp2
              go_ret
              exact ⟨by have e := HN.out (by omega); subst e; rfl, HBL.out _⟩
            have q4z : ¬ ((191 : Int) < (x2.toNat : Int)) := by omega
            by_cases q5 : x3.toNat < 128
            · have q5z : (x3.toNat : Int) < 128 := by omega
              go_quiet (fail)
              go_wp2
              go_ret
              exact ⟨by have e := HN.out (by omega); subst e; rfl, HBL.out _⟩
            have q5z : ¬ ((x3.toNat : Int) < 128) := by omega
            by_cases q6 : 191 < x3.toNat
            · have q6z : (191 : Int) < (x3.toNat : Int) := by omega
              go_quiet (fail)
              go_wp2
              go_ret
              exact ⟨by have e := HN.out (by omega); subst e; rfl, HBL.out _⟩
            have q6z : ¬ ((191 : Int) < (x3.toNat : Int)) := by omega
            go_quiet (fail)
            go_wp2
            go_roundw
            case rel => exact ⟨HBL.out _, t.extract 4 t.size, SliceOf.end (by rw [Lib.ext_size, HM.out]), HY.out (by omega), by rw [Lib.ext_size, HM.out]; omega⟩
            case measure => simp [lenOf]; try omega
          · as_aux_lemma =>
            go_wp2
            rw [← HWD.out]
            by_cases q0 : m < 4
            · have q0z : (m : Int) < 4 := by omega
              go_quiet (fail)
              go_wp2
              go_ret
              exact ⟨by have e := HN.out (by omega); subst e; rfl, HBL.out _⟩
            have q0z : ¬ ((m : Int) < 4) := by omega
            have cc1 : wd.cell? ⟨b, o + 1, none⟩ = some (.int .u8 x1.toNat) := by rw [← hx1]; exact HD.out 1 (by rw [HM.out]; omega)
            have pz1 : (1 : Int) < (m : Int) := by omega
            have pn1 : 1 < m := by omega
            have cc2 : wd.cell? ⟨b, o + 2, none⟩ = some (.int .u8 x2.toNat) := by rw [← hx2]; exact HD.out 2 (by rw [HM.out]; omega)
            have pz2 : (2 : Int) < (m : Int) := by omega
            have pn2 : 2 < m := by omega
            have cc3 : wd.cell? ⟨b, o + 3, none⟩ = some (.int .u8 x3.toNat) := by rw [← hx3]; exact HD.out 3 (by rw [HM.out]; omega)
            have pz3 : (3 : Int) < (m : Int) := by omega
            have pn3 : 3 < m := by omega
            by_cases q1 : x1.toNat < LO
            · have q1z : (x1.toNat : Int) < (LO : Int) := by omega
              go_quiet (fail)
              go_wp2
              go_ret
              exact ⟨by have e := HN.out (by omega); subst e; rfl, HBL.out _⟩
            have q1z : ¬ ((x1.toNat : Int) < (LO : Int)) := by omega
            by_cases q2 : HI < x1.toNat
            · have q2z : (HI : Int) < (x1.toNat : Int) := by omega
              go_quiet (fail)
              go_wp2
              go_ret
              exact ⟨by have e := HN.out (by omega); subst e; rfl, HBL.out _⟩
            have q2z : ¬ ((HI : Int) < (x1.toNat : Int)) := by omega
            by_cases q3 : x2.toNat < 128
            · have q3z : (x2.toNat : Int) < 128 := by omega
              go_quiet (fail)
              go_wp2
              go_ret
              exact ⟨by have e := HN.out (by omega); subst e; rfl, HBL.out _⟩
            have q3z : ¬ ((x2.toNat : Int) < 128) := by omega
            by_cases q4 : 191 < x2.toNat
            · have q4z : (191 : Int) < (x2.toNat : Int) := by omega
              go_quiet (fail)
              go_wp2
              go_ret
              exact ⟨by have e := HN.out (by omega); subst e; rfl, HBL.out _⟩
            have q4z : ¬ ((191 : Int) < (x2.toNat : Int)) := by omega
            by_cases q5 : x3.toNat < 128
            · have q5z : (x3.toNat : Int) < 128 := by omega
              go_quiet (fail)
              go_wp2
              go_ret
              exact ⟨by have e := HN.out (by omega); subst e; rfl, HBL.out _⟩
            have q5z : ¬ ((x3.toNat : Int) < 128) := by omega
            by_cases q6 : 191 < x3.toNat
            · have q6z : (191 : Int) < (x3.toNat : Int) := by omega
              go_quiet (fail)
              go_wp2
              go_ret
              exact ⟨by have e := HN.out (by omega); subst e; rfl, HBL.out _⟩
            have q6z : ¬ ((191 : Int) < (x3.toNat : Int)) := by omega
            go_quiet (fail)
            go_wp2
            go_roundw
            case rel => exact ⟨HBL.out _, t.extract 4 t.size, SliceOf.mk (by rw [Lib.ext_size, HM.out]) ((HL.out.ext 4).below (HLB.out _)), HY.out (by omega), by rw [Lib.ext_size, HM.out]; omega⟩
            case measure => simp [lenOf]; try omega
        have e2b : (((X : Int) % 8) == 2) = false := by simp; omega
        have e3b : (((X : Int) % 8) == 3) = false := by simp; omega
        have e4b : (((X : Int) % 8) == 4) = false := by simp; omega
        simp only [Lib.checkN, s2, s3, s4, if_false] at hlead
        have HN := Lib.hid hlead
        clear hlead
        go_wp2
        all_goals (go_ret; rw [← HWD.out]; exact ⟨by have e := HN.out; subst e; rfl, HBL.out 0⟩)
    · obtain rfl : m = 0 := by omega
      have hnil : t.data.toList = [] := List.eq_nil_of_length_eq_zero (by rw [← Lib.size_eq]; exact hm')
      rw [hnil, Lib.validD_nil] at hv
      have HV := Lib.hid hv
      clear hv hnil hm' hla
      go_wp2
      go_ret
      exact ⟨by have e := HV.out; subst e; rfl, hbl⟩

end Go.Proofs.YtlkcnfkfccfhmaaDoor
