/-
  Layer 14: the reference's Next at an &.
-/
import Derived.Test.YtbljgoieieoamaaRfU2
namespace Go.Proofs.Ytbljgoieieoamaa
open Go.RowKit
set_option linter.unusedVariables false

theorem refT_nil {kind inner : Nat} {l : List Int} {q : Nat} (h : q = 0) : refT kind inner q l = (11, 1, false) := by rw [h]; exact refT_zero _ _ _

theorem refref_any {b off n cap : Nat} {l : List Int} {w : World} (R : RRow w b off n cap l) (hwf : ∀ j, -2147483648 ≤ l.getD j 0 ∧ l.getD j 0 ≤ 2147483647) (hn : n ≤ 1000) (k : Nat) (hk : k < n) :
    Says 67 #[.slice (some ⟨b, off, none⟩) n cap, .int .i64 k] (tokV k (refP (l.drop k))) w w := by
  have hl := R.len
  cases h1 : sw sHo (l.drop k)
  · cases h2 : sw sNo (l.drop k)
    · have hr : refP (l.drop k) = refT 2 1 (leadP (l.drop (k + 1))) (l.drop k) := by unfold refP; rw [h1, h2]; simp only [List.drop_drop]; rfl
      rw [hr]
      obtain ⟨q, hq⟩ : ∃ q, q = leadP (l.drop (k + 1)) := ⟨_, rfl⟩
      have hqn := leadP_le (l.drop (k + 1))
      rw [← hq, dropl, hl] at hqn
      rw [← hq]
      by_cases h0 : q = 0
      · rw [refT_nil h0]
        exact refref_zero R hwf hn k hk h2 (hq ▸ h0)
      · by_cases he : k + 1 + q = n
        · rw [refT_end 2 1 q k l (by omega)]
          exact refref_end R hwf hn k hk h2 q hq.symm (by omega) he
        · by_cases hz : l.getD (k + 1 + q) 0 = 59
          · rw [refT_yes 2 1 q k l (by omega) (by omega) hz]
            exact refref_yes R hwf hn k hk h2 q hq.symm (by omega) (by omega) hz
          · rw [refT_no 2 1 q k l (by omega) hz]
            exact refref_no R hwf hn k hk h2 q hq.symm (by omega) (by omega) _ rfl hz
    · have hs := sw_length h2
      rw [dropl] at hs
      simp [sNo] at hs
      have hr : refP (l.drop k) = refT 3 2 (runP digitB (l.drop (k + 2))) (l.drop k) := by unfold refP; rw [h1, h2]; simp only [List.drop_drop]; rfl
      rw [hr]
      exact refref_10 R hwf hn k hk (by omega) h2 h1
  · have hs := sw_length h1
    rw [dropl] at hs
    simp [sHo] at hs
    have h2 : sw sNo (l.drop k) = true := sw_of (by rw [dropl]; simp [sNo]; omega) (fun j hj => by
      have h9 := sw_get h1 j (by simp [sNo] at hj; simp [sHo]; omega)
      rw [h9]
      simp [sNo] at hj
      obtain rfl | rfl : j = 0 ∨ j = 1 := by omega
      · rfl
      · rfl)
    have hr : refP (l.drop k) = refT 3 3 (runP hexB (l.drop (k + 3))) (l.drop k) := by unfold refP; rw [h1]; simp only [List.drop_drop]; rfl
    rw [hr]
    exact refref_16 R hwf hn k hk (by omega) h2 h1

theorem drop0 (l : List Int) (k : Nat) : (l.drop k).getD 0 0 = l.getD k 0 := by simp

set_option maxHeartbeats 2000000 in
theorem refNext_amp {b off n cap : Nat} {l : List Int} {w : World} (R : RRow w b off n cap l) (hwf : ∀ j, -2147483648 ≤ l.getD j 0 ∧ l.getD j 0 ≤ 2147483647) (hn : n ≤ 1000) (k : Nat) (hk : k < n) (hz : l.getD k 0 = 38) :
    Says 40 #[.slice (some ⟨b, off, none⟩) n cap, .int .i64 k] (tokV k (tokP (l.drop k))) w w := by
  have ht : tokP (l.drop k) = refP (l.drop k) := by unfold tokP; rw [drop0, hz, if_neg (by decide), if_pos rfl]
  rw [ht]
  have hno : ∀ s : List Int, 0 < s.length → s.getD 0 0 = 60 → sw s (l.drop k) = false := fun s h0 h60 => sw_no 0 h0 (by rw [drop0, hz, h60]; decide)
  have hm := R.max
  have hc := R.le
  unfold maxLen at hm
  have hb : Below (w.alloc tokR).heap.size (w.alloc tokR) (w.alloc tokR) := Below.refl _ _
  obtain ⟨c1, c2⟩ := bcell hb
  have R0 := R.below (one_ok w tokR)
  have H1 := Lib.hid (refStartsB R0 hwf sCoS k (by omega) (hno _ (by decide) rfl))
  have H2 := Lib.hid (refStartsB R0 hwf sDoS k (by omega) (hno _ (by decide) rfl))
  have H3 := Lib.hid (refStartsB R0 hwf sPoS k (by omega) (hno _ (by decide) rfl))
  have H4 := Lib.hid (refStartsB R0 hwf sToS k (by omega) (hno _ (by decide) rfl))
  have H5 := Lib.hid (refStartsB R0 hwf sEoS k (by omega) (hno _ (by decide) rfl))
  have HC := Lib.hid (fun W (hb : Below (w.alloc tokR).heap.size (w.alloc tokR) W) => (R0.below hb).at_ k hk)
  simp only [hz] at HC
  obtain ⟨t, ht2⟩ : ∃ t, t = refP (l.drop k) := ⟨_, rfl⟩
  have HR := Lib.hid (fun W (hb : Below (w.alloc tokR).heap.size (w.alloc tokR) W) => refref_any (R0.below hb) hwf hn k hk)
  rw [← ht2] at HR
  rw [← ht2]
  unfold tokV at *
  clear R R0 hz hno ht ht2 hwf
  go_enter Try.func40, Try.ntmps40
  go_wp2_with (first
    | (go_at_call 61; (with_reducible refine (H1.out _ hb).mono ?_); rintro e w1 ⟨rfl, hb1⟩; replace hb := hb1; clear hb1 c1 c2; obtain ⟨c1, c2⟩ := bcell hb)
    | (go_at_call 61; (with_reducible refine (H2.out _ hb).mono ?_); rintro e w1 ⟨rfl, hb1⟩; replace hb := hb1; clear hb1 c1 c2; obtain ⟨c1, c2⟩ := bcell hb)
    | (go_at_call 61; (with_reducible refine (H3.out _ hb).mono ?_); rintro e w1 ⟨rfl, hb1⟩; replace hb := hb1; clear hb1 c1 c2; obtain ⟨c1, c2⟩ := bcell hb)
    | (go_at_call 61; (with_reducible refine (H4.out _ hb).mono ?_); rintro e w1 ⟨rfl, hb1⟩; replace hb := hb1; clear hb1 c1 c2; obtain ⟨c1, c2⟩ := bcell hb)
    | (go_at_call 61; (with_reducible refine (H5.out _ hb).mono ?_); rintro e w1 ⟨rfl, hb1⟩; replace hb := hb1; clear hb1 c1 c2; obtain ⟨c1, c2⟩ := bcell hb; have hc1 := HC.out _ hb)
    | (go_at_call 67; (with_reducible refine (HR.out _ hb).mono ?_); rintro e w1 ⟨rfl, hb1⟩; replace hb := Below.more hb hb1; clear hb1 c1 c2; obtain ⟨c1, c2⟩ := bcell hb))
  refine bodyPost_ret (v := tokI t.1 k ((k + t.2.1 : Nat)) t.2.2) ?_ rfl ⟨?_, ?_⟩
  · simp [results, Try.results40, go_sem, c1, tokI]
  · rfl
  · exact (((((one_ok w tokR).trans (hb.mono (by simp))).setCell (by simp) _).setCell (by simp) _).setCell (by simp) _).setCell (by simp) _

end Go.Proofs.Ytbljgoieieoamaa
