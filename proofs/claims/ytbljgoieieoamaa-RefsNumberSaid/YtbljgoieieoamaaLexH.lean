/-
  Contracts of layer 7: reference and markup whole; Next.
-/
import Derived.Test.YtbljgoieieoamaaLexG
namespace Go.Proofs.Ytbljgoieieoamaa
open Go.RowKit
set_option linter.unusedVariables false

theorem reference_any {b off n cap : Nat} {l : List Int} {w : World} (R : RRow w b off n cap l) (k : Nat) (hk : k < n) :
    Says 70 #[.slice (some ⟨b, off, none⟩) n cap, .int .i64 k] (tokV k (refP (l.drop k))) w w := by
  have hdl : (l.drop k).length = n - k := by rw [dropl, R.len]
  have sem : ∀ x, sw sSc (l.drop x) = true → x + 1 ≤ n := fun x h => by
    have := sw_length h
    rw [dropl, R.len] at this
    simp [sSc] at this
    omega
  cases h1 : sw sHo (l.drop k)
  · cases h2 : sw sNo (l.drop k)
    · have hT : refP (l.drop k) = refT 2 1 (leadP (l.drop (k + 1))) (l.drop k) := by unfold refP; rw [if_neg (by rw [h1]; decide), if_neg (by rw [h2]; decide), dd]
      have hle := leadP_le (l.drop (k + 1))
      rw [dropl, R.len] at hle
      by_cases h0 : leadP (l.drop (k + 1)) = 0
      · rw [hT, show refT 2 1 (leadP (l.drop (k + 1))) (l.drop k) = (11, 1, false) by unfold refT; rw [h0]; rfl]
        exact reference_name_zero R k hk (by omega) h1 h2 h0
      · cases h3 : sw sSc (l.drop (k + 1 + leadP (l.drop (k + 1))))
        · rw [hT, show refT 2 1 (leadP (l.drop (k + 1))) (l.drop k) = (11, 1, false) by unfold refT; rw [dd, ← Nat.add_assoc, h3]; simp]
          exact reference_name_no R k hk (by omega) h1 h2 _ rfl (by omega) (by omega) h3
        · rw [hT, show refT 2 1 (leadP (l.drop (k + 1))) (l.drop k) = (2, 1 + leadP (l.drop (k + 1)) + 1, true) by unfold refT; rw [dd, ← Nat.add_assoc, h3, decide_eq_false h0]; rfl]
          exact reference_name_yes R k hk (by omega) h1 h2 _ rfl (by omega) (sem _ h3) h3
    · have hT : refP (l.drop k) = refT 3 2 (runP digitB (l.drop (k + 2))) (l.drop k) := by unfold refP; rw [if_neg (by rw [h1]; decide), if_pos h2, dd]
      have hle := runP_le digitB (l.drop (k + 2))
      rw [dropl, R.len] at hle
      have hl := sw_length h2
      rw [hdl] at hl
      have hki : k + 2 ≤ n := by simp [sNo] at hl; omega
      by_cases h0 : runP digitB (l.drop (k + 2)) = 0
      · rw [hT, show refT 3 2 (runP digitB (l.drop (k + 2))) (l.drop k) = (11, 1, false) by unfold refT; rw [h0]; rfl]
        exact reference_num_zero R k hk hki h1 h2 h0
      · cases h3 : sw sSc (l.drop (k + 2 + runP digitB (l.drop (k + 2))))
        · rw [hT, show refT 3 2 (runP digitB (l.drop (k + 2))) (l.drop k) = (11, 1, false) by unfold refT; rw [dd, ← Nat.add_assoc, h3]; simp]
          exact reference_num_no R k hk hki h1 h2 _ rfl (by omega) (by omega) h3
        · rw [hT, show refT 3 2 (runP digitB (l.drop (k + 2))) (l.drop k) = (3, 2 + runP digitB (l.drop (k + 2)) + 1, true) by unfold refT; rw [dd, ← Nat.add_assoc, h3, decide_eq_false h0]; rfl]
          exact reference_num_yes R k hk hki h1 h2 _ rfl (by omega) (sem _ h3) h3
  · have hT : refP (l.drop k) = refT 3 3 (runP hexB (l.drop (k + 3))) (l.drop k) := by unfold refP; rw [if_pos h1, dd]
    have hle := runP_le hexB (l.drop (k + 3))
    rw [dropl, R.len] at hle
    have hl := sw_length h1
    rw [hdl] at hl
    have hki : k + 3 ≤ n := by simp [sHo] at hl; omega
    by_cases h0 : runP hexB (l.drop (k + 3)) = 0
    · rw [hT, show refT 3 3 (runP hexB (l.drop (k + 3))) (l.drop k) = (11, 1, false) by unfold refT; rw [h0]; rfl]
      exact reference_hex_zero R k hk hki h1 h0
    · cases h3 : sw sSc (l.drop (k + 3 + runP hexB (l.drop (k + 3))))
      · rw [hT, show refT 3 3 (runP hexB (l.drop (k + 3))) (l.drop k) = (11, 1, false) by unfold refT; rw [dd, ← Nat.add_assoc, h3]; simp]
        exact reference_hex_no R k hk hki h1 _ rfl (by omega) (by omega) h3
      · rw [hT, show refT 3 3 (runP hexB (l.drop (k + 3))) (l.drop k) = (3, 3 + runP hexB (l.drop (k + 3)) + 1, true) by unfold refT; rw [dd, ← Nat.add_assoc, h3, decide_eq_false h0]; rfl]
        exact reference_hex_yes R k hk hki h1 _ rfl (by omega) (sem _ h3) h3

theorem markup_any {b off n cap : Nat} {l : List Int} {w : World} (R : RRow w b off n cap l) (k : Nat) (hk : k < n) :
    Says 69 #[.slice (some ⟨b, off, none⟩) n cap, .int .i64 k] (tokV k (mupP (l.drop k))) w w := by
  have hdl : (l.drop k).length = n - k := by rw [dropl, R.len]
  have beh : ∀ (a : List Int) (m : Nat), k + m ≤ n → k + m + (behP a (l.drop (k + m))).1 ≤ n := fun a m h => by
    have := behP_le a (l.drop (k + m))
    rw [dropl, R.len] at this
    omega
  have siz : ∀ {a : List Int}, sw a (l.drop k) = true → k + a.length ≤ n := fun h => by
    have := sw_length h
    rw [hdl] at this
    omega
  unfold mupP
  cases hC : sw sCo (l.drop k)
  case true =>
    rw [if_pos rfl, dd]
    exact markup_c R k hk hC _ rfl (beh _ _ (siz hC))
  rw [if_neg (by decide)]
  cases hD : sw sDo (l.drop k)
  case true =>
    rw [if_pos rfl, dd]
    exact markup_d R k hk hC hD _ rfl (beh _ _ (siz hD))
  rw [if_neg (by decide)]
  cases hP : sw sPo (l.drop k)
  case true =>
    rw [if_pos rfl, dd]
    exact markup_p R k hk hC hD hP _ rfl (beh _ _ (siz hP))
  rw [if_neg (by decide)]
  cases hT : sw sTo (l.drop k)
  case true =>
    rw [if_pos rfl, dd]
    have h9 : k + 9 ≤ n := siz hT
    have := edgeAt_le (l.drop (k + 9)) (docE (l.drop (k + 9))) (docE_le _)
    rw [dropl, R.len] at this
    exact markup_t R k hk hC hD hP hT _ rfl (by show k + 9 + (edgeAt _ _).1 ≤ n; omega)
  rw [if_neg (by decide)]
  cases hE : sw sEo (l.drop k)
  case true =>
    rw [if_pos rfl, dd]
    have h2 : k + 2 ≤ n := siz hE
    have hr := runP_le inEndB (l.drop (k + 2))
    rw [dropl, R.len] at hr
    have he := edgeP_le (l.drop (k + 2 + runP inEndB (l.drop (k + 2))))
    rw [dropl, R.len] at he
    have := markup_e R k hk hC hD hP hT hE _ rfl _ rfl (by omega)
    unfold kTok edgeAt
    rw [dd, ← Nat.add_assoc k 2]
    simp only [Nat.zero_add]
    exact this
  rw [if_neg (by decide)]
  by_cases hk1 : k + 1 < n
  case neg =>
    rw [if_neg (by unfold nsAt; rw [hdl, decide_eq_false (by omega)]; simp)]
    exact markup_b1 R k hk hC hD hP hT hE hk1
  have hg : (l.drop k).getD 1 0 = l.getD (k + 1) 0 := by simp
  cases hS : startB (l.getD (k + 1) 0)
  · rw [if_neg (by unfold nsAt; rw [hg, hS]; simp)]
    exact markup_b2 R k hk hC hD hP hT hE hk1 _ rfl hS
  · rw [if_pos (by unfold nsAt; rw [hg, hS, hdl, decide_eq_true (by omega)]; rfl), dd]
    have hr := bareP_le [60, 62] (l.drop (k + 1)) 0
    rw [dropl, R.len] at hr
    unfold tagT edgeAt
    rw [dd, ← Nat.add_assoc]
    cases hG : sw gt (l.drop (k + 1 + bareP [60, 62] 0 (l.drop (k + 1))))
    · have hp : edgeP (l.drop (k + 1 + bareP [60, 62] 0 (l.drop (k + 1)))) = (0, false) := by unfold edgeP; rw [hG]; rfl
      rw [hp]
      exact markup_s0 R k hk hC hD hP hT hE hk1 _ rfl hS _ rfl (by omega) hp
    · have hp : edgeP (l.drop (k + 1 + bareP [60, 62] 0 (l.drop (k + 1)))) = (1, true) := by unfold edgeP; rw [hG]; rfl
      have hgl := sw_length hG
      rw [dropl, R.len] at hgl
      have hlt : k + 1 + bareP [60, 62] 0 (l.drop (k + 1)) < n := by simp [gt] at hgl; omega
      rw [hp]
      have hy : (l.drop k).getD (1 + bareP [60, 62] 0 (l.drop (k + 1)) + 1 - 2) 0 = l.getD (k + bareP [60, 62] 0 (l.drop (k + 1))) 0 := by
        rw [show 1 + bareP [60, 62] 0 (l.drop (k + 1)) + 1 - 2 = bareP [60, 62] 0 (l.drop (k + 1)) by omega]
        simp
      simp only [hy]
      by_cases h47 : l.getD (k + bareP [60, 62] 0 (l.drop (k + 1))) 0 = 47
      · rw [decide_eq_true h47]
        exact markup_s2 R k hk hC hD hP hT hE hk1 _ rfl hS _ rfl hlt hp _ rfl h47
      · rw [decide_eq_false h47]
        exact markup_s1 R k hk hC hD hP hT hE hk1 _ rfl hS _ rfl hlt hp _ rfl h47

theorem markupB {b off n cap : Nat} {l : List Int} {W : World} (R : RRow W b off n cap l) (k : Nat) (hk : k < n) {t : Tok} (ht : mupP (l.drop k) = t) (w : World) (hb : Below W.heap.size W w) :
    Says 69 #[.slice (some ⟨b, off, none⟩) n cap, .int .i64 k] (tokI t.1 k ((k : Int) + t.2.1) t.2.2) W w :=
  (markup_any (R.below hb) k hk).mono fun e w' ⟨he, hw⟩ => ⟨by rw [he, ht]; exact ret_tok rfl rfl (by omega), Below.more hb hw⟩
theorem referenceB {b off n cap : Nat} {l : List Int} {W : World} (R : RRow W b off n cap l) (k : Nat) (hk : k < n) {t : Tok} (ht : refP (l.drop k) = t) (w : World) (hb : Below W.heap.size W w) :
    Says 70 #[.slice (some ⟨b, off, none⟩) n cap, .int .i64 k] (tokI t.1 k ((k : Int) + t.2.1) t.2.2) W w :=
  (reference_any (R.below hb) k hk).mono fun e w' ⟨he, hw⟩ => ⟨by rw [he, ht]; exact ret_tok rfl rfl (by omega), Below.more hb hw⟩

end Go.Proofs.Ytbljgoieieoamaa
