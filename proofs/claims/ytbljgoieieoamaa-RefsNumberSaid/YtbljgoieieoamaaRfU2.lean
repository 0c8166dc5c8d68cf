/-
  Layer 14: the reference's token behind an &#  (made by gen_rfu2.py).
-/
import Derived.Test.YtbljgoieieoamaaRfU
namespace Go.Proofs.Ytbljgoieieoamaa
open Go.RowKit
set_option linter.unusedVariables false

theorem refT_zero (kind inner : Nat) (l : List Int) : refT kind inner 0 l = (11, 1, false) := by unfold refT; simp
theorem refT_end (kind inner q k : Nat) (l : List Int) (h : l.length ≤ k + inner + q) : refT kind inner q (l.drop k) = (11, 1, false) := by
  unfold refT
  rw [List.drop_drop, sw_short (by rw [dropl]; simp [sSc]; omega)]
  simp
theorem semi_at (l : List Int) (m : Nat) (h : m < l.length) : sw sSc (l.drop m) = decide (l.getD m 0 = 59) := by
  unfold sSc
  rw [sw_one (by rw [dropl]; omega)]
  congr 1
  simp
theorem refT_no (kind inner q k : Nat) (l : List Int) (h : k + inner + q < l.length) (hz : ¬ l.getD (k + inner + q) 0 = 59) : refT kind inner q (l.drop k) = (11, 1, false) := by
  unfold refT
  rw [List.drop_drop, ← Nat.add_assoc, semi_at l _ h, decide_eq_false hz]
  simp
theorem refT_yes (kind inner q k : Nat) (l : List Int) (h0 : 0 < q) (h : k + inner + q < l.length) (hz : l.getD (k + inner + q) 0 = 59) : refT kind inner q (l.drop k) = (kind, inner + q + 1, true) := by
  unfold refT
  rw [List.drop_drop, ← Nat.add_assoc, semi_at l _ h, decide_eq_true hz]
  have : decide (q = 0) = false := decide_eq_false (by omega)
  rw [this]
  rfl
theorem lead_hash (l : List Int) (k : Nat) (h : sw sNo (l.drop k) = true) : leadP (l.drop (k + 1)) = 0 := by
  have hl := sw_length h
  have h1 := sw_get h 1 (by decide)
  rw [dropl] at hl
  have h2 : l.getD (k + 1) 0 = 35 := by rw [← show (l.drop k).getD 1 0 = l.getD (k + 1) 0 by simp]; exact h1
  have hk : k + 1 < l.length := by simp [sNo] at hl; omega
  rw [drop_cons hk, leadP, h2]
  rfl

theorem digV_pos10 {z : Int} (h : digitB z = true) : 0 ≤ digV 10 z := by
  unfold digV
  rw [if_pos rfl, if_pos h]
  unfold digitB at h
  simp at h
  omega
theorem digV_pos16 {z : Int} (h : hexB z = true) : 0 ≤ digV 16 z := by
  unfold digV
  rw [if_neg (by decide), if_pos h]
  unfold hexB at h
  unfold hexV
  simp at h
  split
  · omega
  · split
    · omega
    · omega

set_option maxHeartbeats 4000000 in
theorem refref_10 {b off n cap : Nat} {l : List Int} {w : World} (R : RRow w b off n cap l) (hwf : ∀ j, -2147483648 ≤ l.getD j 0 ∧ l.getD j 0 ≤ 2147483647) (hn : n ≤ 1000) (k : Nat) (hk : k < n) (hka : k + 2 ≤ n) (h1 : sw sNo (l.drop k) = true) (h2 : sw sHo (l.drop k) = false) :
    Says 67 #[.slice (some ⟨b, off, none⟩) n cap, .int .i64 k] (tokV k (refT 3 2 (runP digitB (l.drop (k + 2))) (l.drop k))) w w := by
  have hm := R.max
  have hc := R.le
  unfold maxLen at hm
  have hb : Below (w.alloc tokR).heap.size (w.alloc tokR) (w.alloc tokR) := Below.refl _ _
  obtain ⟨c1, c2⟩ := bcell hb
  have R0 := R.below (one_ok w tokR)
  have H1 := Lib.hid (refStartsB R0 hwf sNoS k (by omega) h1)
  have H2 := Lib.hid (refStartsB R0 hwf sHoS k (by omega) h2)
  have H3 := Lib.hid (refLeadB R0 (k + 1) (lead_hash l k h1))
  simp only [Int.natCast_add, Int.cast_ofNat_Int] at H3
  have HN := Lib.hid R.len
  have HR0 := Lib.hid R0
  have HW := Lib.hid hwf
  have HDL := Lib.hid (show ∀ x, (l.drop (k + 2)).getD x 0 = l.getD (k + 2 + x) 0 from fun x => by simp)
  have HLL := Lib.hid (show (l.drop (k + 2)).length = n - (k + 2) from by rw [dropl, R.len])
  clear R R0 h1 h2 hwf
  go_enter Try.func67, Try.ntmps67
  go_wp2_with (first
    | (go_at_call 61; (with_reducible refine (H1.out _ hb).mono ?_); rintro e w1 ⟨rfl, hb1⟩; replace hb := hb1; clear hb1 c1 c2; obtain ⟨c1, c2⟩ := bcell hb)
    | (go_at_call 61; (with_reducible refine (H2.out _ hb).mono ?_); rintro e w1 ⟨rfl, hb1⟩; replace hb := hb1; clear hb1 c1 c2; obtain ⟨c1, c2⟩ := bcell hb))
  go_loop [7] (fun i => ∃ j : Nat, k + 2 + j ≤ n ∧ i = .int .i64 ((k : Int) + 2 + j) ∧ Hid (∀ x, x < j → digitB ((l.drop (k + 2)).getD x 0) = true)) (fun i => n - (intOf i).toNat)
  case atStart => exact ⟨0, by omega, by go_num, Lib.hid (fun x hx => absurd hx (by omega))⟩
  case round =>
    obtain ⟨j, hj, rfl, HJ⟩ := hrel
    by_cases hlt : k + 2 + j < n
    · obtain ⟨z, hz⟩ : ∃ z, z = l.getD (k + 2 + j) 0 := ⟨_, rfl⟩
      have hzr := HW.out (k + 2 + j)
      have hc1 := (HR0.out.below hb).at_ (k + 2 + j) hlt
      rw [← hz] at hzr hc1
      have HZ := Lib.hid hz
      have hlt' : (k : Int) + 2 + j < n := by omega
      clear hz
      cases hd : digitB z
      · have HD := Lib.hid (fun W => digit_any 10 (.inl rfl) z hzr W)
        rw [show digV 10 z = -1 from by unfold digV; rw [if_pos rfl, hd]; rfl] at HD
        have HQ := Lib.hid (show runP digitB (l.drop (k + 2)) = j from runP_of _ _ j HJ.out (by rw [HLL.out]; omega) (by rw [HDL.out, ← HZ.out]; exact hd))
        clear hd
        by_cases h0 : j = 0
        · have HT := Lib.hid (show refT 3 2 (runP digitB (l.drop (k + 2))) (l.drop k) = (11, 1, false) from by rw [HQ.out, h0]; exact refT_zero _ _ _)
          have h0' : ¬ (k : Int) + 2 < k + 2 + j := by omega
          clear h0
          go_wp2_with (first
            | (go_at_call 48; (with_reducible refine (HD.out _).mono ?_); rintro e w' ⟨rfl, rfl⟩)
            | (go_at_call 86; (with_reducible refine (H3.out _ hb).mono ?_); rintro e w1 ⟨rfl, hb1⟩; replace hb := hb1; clear hb1 c1 c2; obtain ⟨c1, c2⟩ := bcell hb))
          refine bodyPost_ret (v := tokI 11 k (k + 1) false) ?_ rfl ⟨?_, ?_⟩
          · simp [results, Try.results67, go_sem, c1, tokI]
          · rw [HT.out]; unfold tokV; exact ret_tok rfl rfl (by first | omega | (simp only []; omega))
          · exact (((((one_ok w tokR).trans (hb.mono (by simp))).setCell (by simp) _).setCell (by simp) _).setCell (by simp) _).setCell (by simp) _
        · have h0' : (k : Int) + 2 < k + 2 + j := by omega
          by_cases h59 : z = 59
          · have HT := Lib.hid (show refT 3 2 (runP digitB (l.drop (k + 2))) (l.drop k) = (3, 2 + j + 1, true) from by rw [HQ.out]; exact refT_yes 3 2 j k l (by omega) (by rw [HN.out]; exact hlt) (by rw [← HZ.out]; exact h59))
            subst h59
            clear h0
            go_wp2_with (first
              | (go_at_call 48; (with_reducible refine (HD.out _).mono ?_); rintro e w' ⟨rfl, rfl⟩)
              | (go_at_call 86; (with_reducible refine (H3.out _ hb).mono ?_); rintro e w1 ⟨rfl, hb1⟩; replace hb := hb1; clear hb1 c1 c2; obtain ⟨c1, c2⟩ := bcell hb))
            refine bodyPost_ret (v := tokI 3 k ((k : Int) + 2 + j + 1) true) ?_ rfl ⟨?_, ?_⟩
            · simp [results, Try.results67, go_sem, c1, tokI]
            · rw [HT.out]; unfold tokV; exact ret_tok rfl rfl (by first | omega | (simp only []; omega))
            · exact (((((one_ok w tokR).trans (hb.mono (by simp))).setCell (by simp) _).setCell (by simp) _).setCell (by simp) _).setCell (by simp) _
          · have HT := Lib.hid (show refT 3 2 (runP digitB (l.drop (k + 2))) (l.drop k) = (11, 1, false) from by rw [HQ.out]; exact refT_no 3 2 j k l (by rw [HN.out]; exact hlt) (by rw [← HZ.out]; exact h59))
            have hz59 : (z == 59) = false := by simpa using h59
            clear h0 h59
            go_wp2_with (first
              | (go_at_call 48; (with_reducible refine (HD.out _).mono ?_); rintro e w' ⟨rfl, rfl⟩)
              | (go_at_call 86; (with_reducible refine (H3.out _ hb).mono ?_); rintro e w1 ⟨rfl, hb1⟩; replace hb := hb1; clear hb1 c1 c2; obtain ⟨c1, c2⟩ := bcell hb))
            refine bodyPost_ret (v := tokI 11 k (k + 1) false) ?_ rfl ⟨?_, ?_⟩
            · simp [results, Try.results67, go_sem, c1, tokI]
            · rw [HT.out]; unfold tokV; exact ret_tok rfl rfl (by first | omega | (simp only []; omega))
            · exact (((((one_ok w tokR).trans (hb.mono (by simp))).setCell (by simp) _).setCell (by simp) _).setCell (by simp) _).setCell (by simp) _
      · have HD := Lib.hid (fun W => digit_any 10 (.inl rfl) z hzr W)
        obtain ⟨d, hdv⟩ : ∃ d, d = digV 10 z := ⟨_, rfl⟩
        have hd0 : 0 ≤ d := by rw [hdv]; exact digV_pos10 hd
        rw [← hdv] at HD
        have HK := Lib.hid (show ∀ x, x < j + 1 → digitB ((l.drop (k + 2)).getD x 0) = true from fun x hx => by
          by_cases h : x = j
          · subst h; rw [HDL.out, ← HZ.out]; exact hd
          · exact HJ.out x (by omega))
        clear hd hdv
        go_wp2_with (go_at_call 48; (with_reducible refine (HD.out _).mono ?_); rintro e w' ⟨rfl, rfl⟩)
        go_round
        case rel => exact ⟨j + 1, by omega, by go_num, HK⟩
        case measure => simp [intOf]; omega
    · have hjj : k + 2 + j = n := by omega
      have HQ := Lib.hid (show runP digitB (l.drop (k + 2)) = j from by rw [runP_all _ _ (fun x hx => HJ.out x (by rw [HLL.out] at hx; omega)), HLL.out]; omega)
      have HT := Lib.hid (show refT 3 2 (runP digitB (l.drop (k + 2))) (l.drop k) = (11, 1, false) from by rw [HQ.out]; exact refT_end 3 2 j k l (by rw [HN.out]; omega))
      have hge : ¬ (k : Int) + 2 + j < n := by omega
      by_cases h0 : j = 0
      · have h0' : ¬ (k : Int) + 2 < k + 2 + j := by omega
        clear h0 hjj hlt
        go_wp2_with (go_at_call 86; (with_reducible refine (H3.out _ hb).mono ?_); rintro e w1 ⟨rfl, hb1⟩; replace hb := hb1; clear hb1 c1 c2; obtain ⟨c1, c2⟩ := bcell hb)
        refine bodyPost_ret (v := tokI 11 k (k + 1) false) ?_ rfl ⟨?_, ?_⟩
        · simp [results, Try.results67, go_sem, c1, tokI]
        · rw [HT.out]; unfold tokV; exact ret_tok rfl rfl (by first | omega | (simp only []; omega))
        · exact (((((one_ok w tokR).trans (hb.mono (by simp))).setCell (by simp) _).setCell (by simp) _).setCell (by simp) _).setCell (by simp) _
      · have h0' : (k : Int) + 2 < k + 2 + j := by omega
        clear h0 hjj hlt
        go_wp2_with (go_at_call 86; (with_reducible refine (H3.out _ hb).mono ?_); rintro e w1 ⟨rfl, hb1⟩; replace hb := hb1; clear hb1 c1 c2; obtain ⟨c1, c2⟩ := bcell hb)
        refine bodyPost_ret (v := tokI 11 k (k + 1) false) ?_ rfl ⟨?_, ?_⟩
        · simp [results, Try.results67, go_sem, c1, tokI]
        · rw [HT.out]; unfold tokV; exact ret_tok rfl rfl (by first | omega | (simp only []; omega))
        · exact (((((one_ok w tokR).trans (hb.mono (by simp))).setCell (by simp) _).setCell (by simp) _).setCell (by simp) _).setCell (by simp) _

set_option maxHeartbeats 4000000 in
theorem refref_16 {b off n cap : Nat} {l : List Int} {w : World} (R : RRow w b off n cap l) (hwf : ∀ j, -2147483648 ≤ l.getD j 0 ∧ l.getD j 0 ≤ 2147483647) (hn : n ≤ 1000) (k : Nat) (hk : k < n) (hka : k + 3 ≤ n) (h1 : sw sNo (l.drop k) = true) (h2 : sw sHo (l.drop k) = true) :
    Says 67 #[.slice (some ⟨b, off, none⟩) n cap, .int .i64 k] (tokV k (refT 3 3 (runP hexB (l.drop (k + 3))) (l.drop k))) w w := by
  have hm := R.max
  have hc := R.le
  unfold maxLen at hm
  have hb : Below (w.alloc tokR).heap.size (w.alloc tokR) (w.alloc tokR) := Below.refl _ _
  obtain ⟨c1, c2⟩ := bcell hb
  have R0 := R.below (one_ok w tokR)
  have H1 := Lib.hid (refStartsB R0 hwf sNoS k (by omega) h1)
  have H2 := Lib.hid (refStartsB R0 hwf sHoS k (by omega) h2)
  have H3 := Lib.hid (refLeadB R0 (k + 1) (lead_hash l k h1))
  simp only [Int.natCast_add, Int.cast_ofNat_Int] at H3
  have HN := Lib.hid R.len
  have HR0 := Lib.hid R0
  have HW := Lib.hid hwf
  have HDL := Lib.hid (show ∀ x, (l.drop (k + 3)).getD x 0 = l.getD (k + 3 + x) 0 from fun x => by simp)
  have HLL := Lib.hid (show (l.drop (k + 3)).length = n - (k + 3) from by rw [dropl, R.len])
  clear R R0 h1 h2 hwf
  go_enter Try.func67, Try.ntmps67
  go_wp2_with (first
    | (go_at_call 61; (with_reducible refine (H1.out _ hb).mono ?_); rintro e w1 ⟨rfl, hb1⟩; replace hb := hb1; clear hb1 c1 c2; obtain ⟨c1, c2⟩ := bcell hb)
    | (go_at_call 61; (with_reducible refine (H2.out _ hb).mono ?_); rintro e w1 ⟨rfl, hb1⟩; replace hb := hb1; clear hb1 c1 c2; obtain ⟨c1, c2⟩ := bcell hb))
  go_loop [7] (fun i => ∃ j : Nat, k + 3 + j ≤ n ∧ i = .int .i64 ((k : Int) + 3 + j) ∧ Hid (∀ x, x < j → hexB ((l.drop (k + 3)).getD x 0) = true)) (fun i => n - (intOf i).toNat)
  case atStart => exact ⟨0, by omega, by go_num, Lib.hid (fun x hx => absurd hx (by omega))⟩
  case round =>
    obtain ⟨j, hj, rfl, HJ⟩ := hrel
    by_cases hlt : k + 3 + j < n
    · obtain ⟨z, hz⟩ : ∃ z, z = l.getD (k + 3 + j) 0 := ⟨_, rfl⟩
      have hzr := HW.out (k + 3 + j)
      have hc1 := (HR0.out.below hb).at_ (k + 3 + j) hlt
      rw [← hz] at hzr hc1
      have HZ := Lib.hid hz
      have hlt' : (k : Int) + 3 + j < n := by omega
      clear hz
      cases hd : hexB z
      · have HD := Lib.hid (fun W => digit_any 16 (.inr rfl) z hzr W)
        rw [show digV 16 z = -1 from by unfold digV; rw [if_neg (by decide), hd]; rfl] at HD
        have HQ := Lib.hid (show runP hexB (l.drop (k + 3)) = j from runP_of _ _ j HJ.out (by rw [HLL.out]; omega) (by rw [HDL.out, ← HZ.out]; exact hd))
        clear hd
        by_cases h0 : j = 0
        · have HT := Lib.hid (show refT 3 3 (runP hexB (l.drop (k + 3))) (l.drop k) = (11, 1, false) from by rw [HQ.out, h0]; exact refT_zero _ _ _)
          have h0' : ¬ (k : Int) + 3 < k + 3 + j := by omega
          clear h0
          go_wp2_with (first
            | (go_at_call 48; (with_reducible refine (HD.out _).mono ?_); rintro e w' ⟨rfl, rfl⟩)
            | (go_at_call 86; (with_reducible refine (H3.out _ hb).mono ?_); rintro e w1 ⟨rfl, hb1⟩; replace hb := hb1; clear hb1 c1 c2; obtain ⟨c1, c2⟩ := bcell hb))
          refine bodyPost_ret (v := tokI 11 k (k + 1) false) ?_ rfl ⟨?_, ?_⟩
          · simp [results, Try.results67, go_sem, c1, tokI]
          · rw [HT.out]; unfold tokV; exact ret_tok rfl rfl (by first | omega | (simp only []; omega))
          · exact (((((one_ok w tokR).trans (hb.mono (by simp))).setCell (by simp) _).setCell (by simp) _).setCell (by simp) _).setCell (by simp) _
        · have h0' : (k : Int) + 3 < k + 3 + j := by omega
          by_cases h59 : z = 59
          · have HT := Lib.hid (show refT 3 3 (runP hexB (l.drop (k + 3))) (l.drop k) = (3, 3 + j + 1, true) from by rw [HQ.out]; exact refT_yes 3 3 j k l (by omega) (by rw [HN.out]; exact hlt) (by rw [← HZ.out]; exact h59))
            subst h59
            clear h0
            go_wp2_with (first
              | (go_at_call 48; (with_reducible refine (HD.out _).mono ?_); rintro e w' ⟨rfl, rfl⟩)
              | (go_at_call 86; (with_reducible refine (H3.out _ hb).mono ?_); rintro e w1 ⟨rfl, hb1⟩; replace hb := hb1; clear hb1 c1 c2; obtain ⟨c1, c2⟩ := bcell hb))
            refine bodyPost_ret (v := tokI 3 k ((k : Int) + 3 + j + 1) true) ?_ rfl ⟨?_, ?_⟩
            · simp [results, Try.results67, go_sem, c1, tokI]
            · rw [HT.out]; unfold tokV; exact ret_tok rfl rfl (by first | omega | (simp only []; omega))
            · exact (((((one_ok w tokR).trans (hb.mono (by simp))).setCell (by simp) _).setCell (by simp) _).setCell (by simp) _).setCell (by simp) _
          · have HT := Lib.hid (show refT 3 3 (runP hexB (l.drop (k + 3))) (l.drop k) = (11, 1, false) from by rw [HQ.out]; exact refT_no 3 3 j k l (by rw [HN.out]; exact hlt) (by rw [← HZ.out]; exact h59))
            have hz59 : (z == 59) = false := by simpa using h59
            clear h0 h59
            go_wp2_with (first
              | (go_at_call 48; (with_reducible refine (HD.out _).mono ?_); rintro e w' ⟨rfl, rfl⟩)
              | (go_at_call 86; (with_reducible refine (H3.out _ hb).mono ?_); rintro e w1 ⟨rfl, hb1⟩; replace hb := hb1; clear hb1 c1 c2; obtain ⟨c1, c2⟩ := bcell hb))
            refine bodyPost_ret (v := tokI 11 k (k + 1) false) ?_ rfl ⟨?_, ?_⟩
            · simp [results, Try.results67, go_sem, c1, tokI]
            · rw [HT.out]; unfold tokV; exact ret_tok rfl rfl (by first | omega | (simp only []; omega))
            · exact (((((one_ok w tokR).trans (hb.mono (by simp))).setCell (by simp) _).setCell (by simp) _).setCell (by simp) _).setCell (by simp) _
      · have HD := Lib.hid (fun W => digit_any 16 (.inr rfl) z hzr W)
        obtain ⟨d, hdv⟩ : ∃ d, d = digV 16 z := ⟨_, rfl⟩
        have hd0 : 0 ≤ d := by rw [hdv]; exact digV_pos16 hd
        rw [← hdv] at HD
        have HK := Lib.hid (show ∀ x, x < j + 1 → hexB ((l.drop (k + 3)).getD x 0) = true from fun x hx => by
          by_cases h : x = j
          · subst h; rw [HDL.out, ← HZ.out]; exact hd
          · exact HJ.out x (by omega))
        clear hd hdv
        go_wp2_with (go_at_call 48; (with_reducible refine (HD.out _).mono ?_); rintro e w' ⟨rfl, rfl⟩)
        go_round
        case rel => exact ⟨j + 1, by omega, by go_num, HK⟩
        case measure => simp [intOf]; omega
    · have hjj : k + 3 + j = n := by omega
      have HQ := Lib.hid (show runP hexB (l.drop (k + 3)) = j from by rw [runP_all _ _ (fun x hx => HJ.out x (by rw [HLL.out] at hx; omega)), HLL.out]; omega)
      have HT := Lib.hid (show refT 3 3 (runP hexB (l.drop (k + 3))) (l.drop k) = (11, 1, false) from by rw [HQ.out]; exact refT_end 3 3 j k l (by rw [HN.out]; omega))
      have hge : ¬ (k : Int) + 3 + j < n := by omega
      by_cases h0 : j = 0
      · have h0' : ¬ (k : Int) + 3 < k + 3 + j := by omega
        clear h0 hjj hlt
        go_wp2_with (go_at_call 86; (with_reducible refine (H3.out _ hb).mono ?_); rintro e w1 ⟨rfl, hb1⟩; replace hb := hb1; clear hb1 c1 c2; obtain ⟨c1, c2⟩ := bcell hb)
        refine bodyPost_ret (v := tokI 11 k (k + 1) false) ?_ rfl ⟨?_, ?_⟩
        · simp [results, Try.results67, go_sem, c1, tokI]
        · rw [HT.out]; unfold tokV; exact ret_tok rfl rfl (by first | omega | (simp only []; omega))
        · exact (((((one_ok w tokR).trans (hb.mono (by simp))).setCell (by simp) _).setCell (by simp) _).setCell (by simp) _).setCell (by simp) _
      · have h0' : (k : Int) + 3 < k + 3 + j := by omega
        clear h0 hjj hlt
        go_wp2_with (go_at_call 86; (with_reducible refine (H3.out _ hb).mono ?_); rintro e w1 ⟨rfl, hb1⟩; replace hb := hb1; clear hb1 c1 c2; obtain ⟨c1, c2⟩ := bcell hb)
        refine bodyPost_ret (v := tokI 11 k (k + 1) false) ?_ rfl ⟨?_, ?_⟩
        · simp [results, Try.results67, go_sem, c1, tokI]
        · rw [HT.out]; unfold tokV; exact ret_tok rfl rfl (by first | omega | (simp only []; omega))
        · exact (((((one_ok w tokR).trans (hb.mono (by simp))).setCell (by simp) _).setCell (by simp) _).setCell (by simp) _).setCell (by simp) _

end Go.Proofs.Ytbljgoieieoamaa
