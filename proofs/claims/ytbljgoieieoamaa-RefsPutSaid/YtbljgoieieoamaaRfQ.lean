/-
  Layer 14, plainly: what Put makes means the row.
-/
import Derived.Test.YtbljgoieieoamaaRfM
import Derived.Test.YtbljgoieieoamaaRfN
namespace Go.Proofs.Ytbljgoieieoamaa
open Go.RowKit
set_option linter.unusedVariables false

theorem mean_amp : knI (strOfNums (U8.encs [97, 109, 112])) = 38 ∧ (0 : Int) ≤ 38 := by decide +kernel
theorem mean_lt : knI (strOfNums (U8.encs [108, 116])) = 60 ∧ (0 : Int) ≤ 60 := by decide +kernel
theorem mean_gt : knI (strOfNums (U8.encs [103, 116])) = 62 ∧ (0 : Int) ≤ 62 := by decide +kernel
theorem mean_quot : knI (strOfNums (U8.encs [113, 117, 111, 116])) = 34 ∧ (0 : Int) ≤ 34 := by decide +kernel
theorem mean_apos : knI (strOfNums (U8.encs [97, 112, 111, 115])) = 39 ∧ (0 : Int) ≤ 39 := by decide +kernel

/-- As Made, with what names mean. -/
inductive Made2 : List Int → List Int → Prop
  | nil : Made2 [] []
  | one {c : Int} {M D : List Int} : c ≠ 38 → Made2 M D → Made2 (c :: M) (c :: D)
  | ref {s : List Int} {kd : Nat} {r : Int} {nm : List Int} {v : Int} {M D : List Int} : Ref1 s kd r nm v → (kd = 3 → knI (strOfNums nm) = v ∧ 0 ≤ v) → Made2 M D → Made2 (s ++ M) (v :: D)

theorem Made2.run {M D : List Int} (h : Made2 M D) : runP ampB M ≤ D.length ∧ Made2 (M.drop (runP ampB M)) (D.drop (runP ampB M)) ∧ M.take (runP ampB M) = D.take (runP ampB M) := by
  induction h with
  | nil => exact ⟨Nat.le_refl _, Made2.nil, rfl⟩
  | @one c M D hc hM ih =>
    have e : runP ampB (c :: M) = runP ampB M + 1 := by
      unfold runP
      rw [takeW_yes (by unfold ampB; simpa using hc)]
      rfl
    rw [e]
    simp only [List.length_cons, List.drop_succ_cons, List.take_succ_cons]
    exact ⟨by omega, ih.2.1, by rw [ih.2.2]⟩
  | @ref s kd r nm v M D hr hk hM _ =>
    obtain ⟨t, ht⟩ := hr.amp
    have e : runP ampB (s ++ M) = 0 := by rw [ht]; exact run0 _
    rw [e]
    exact ⟨Nat.zero_le _, Made2.ref hr hk hM, rfl⟩

/-- What stands for a rune is the rune, or a reference that means it. -/
theorem insR_made2 (l : List Int) (q : Int) (i : Nat) : (insR l q i = [l.getD i 0] ∧ l.getD i 0 ≠ 38 ∧ insS l i q = zNo) ∨ (∃ kd r nm, Ref1 (insR l q i) kd r nm (l.getD i 0) ∧ (kd = 3 → knI (strOfNums nm) = l.getD i 0 ∧ 0 ≤ l.getD i 0)) := by
  unfold insR
  by_cases h : insS l i q = zNo
  · refine .inl ⟨if_pos h, fun h38 => ?_, h⟩
    unfold insS at h
    rw [if_pos h38] at h
    cases h
  · right
    rw [if_neg h]
    unfold insS at h ⊢
    by_cases h1 : l.getD i 0 = 38
    · rw [if_pos h1, h1]; exact ⟨_, _, _, ref_amp, fun _ => mean_amp⟩
    rw [if_neg h1] at h ⊢
    by_cases h2 : l.getD i 0 = 60
    · rw [if_pos h2, h2]; exact ⟨_, _, _, ref_lt, fun _ => mean_lt⟩
    rw [if_neg h2] at h ⊢
    by_cases h3 : l.getD i 0 = 62
    · rw [if_pos h3] at h ⊢
      rw [h3]
      split at h
      · rename_i hg; rw [if_pos hg]; exact ⟨_, _, _, ref_gt, fun _ => mean_gt⟩
      · exact absurd rfl h
    rw [if_neg h3] at h ⊢
    by_cases h4 : l.getD i 0 = 13
    · rw [if_pos h4, h4]; exact ⟨_, _, _, ref_cr, fun h => absurd h (by decide)⟩
    rw [if_neg h4] at h ⊢
    by_cases h5 : l.getD i 0 = 34 ∨ l.getD i 0 = 39 ∨ l.getD i 0 = 9 ∨ l.getD i 0 = 10
    · rw [if_pos h5] at h ⊢
      unfold quotS at h ⊢
      split at h
      · exact absurd rfl h
      rename_i hq; rw [if_neg hq]
      split at h
      · rename_i h9; rw [if_pos h9, h9]; exact ⟨_, _, _, ref_tab, fun h => absurd h (by decide)⟩
      rename_i h9; rw [if_neg h9]
      split at h
      · rename_i h10; rw [if_pos h10, h10]; exact ⟨_, _, _, ref_lf, fun h => absurd h (by decide)⟩
      rename_i h10; rw [if_neg h10]
      split at h
      · exact absurd rfl h
      rename_i hrq; rw [if_neg hrq]
      split at h
      · rename_i h34; rw [if_pos h34, h34]; exact ⟨_, _, _, ref_quot, fun _ => mean_quot⟩
      · rename_i h34; rw [if_neg h34]
        have h39 : l.getD i 0 = 39 := by omega
        rw [h39]; exact ⟨_, _, _, ref_apos, fun _ => mean_apos⟩
    · rw [if_neg h5] at h; exact absurd rfl h

theorem putP_made2 (l : List Int) (q : Int) : Made2 (putP l q) l := by
  have key : ∀ k, k ≤ l.length → ∀ M D, Made2 M D → Made2 (((List.range' (l.length - k) k).flatMap (insR l q)) ++ M) (l.drop (l.length - k) ++ D) := by
    intro k
    induction k with
    | zero => intro _ M D h; simpa using h
    | succ k ih =>
      intro hk M D h
      have hi : l.length - (k + 1) < l.length := by omega
      have e1 : List.range' (l.length - (k + 1)) (k + 1) = (l.length - (k + 1)) :: List.range' (l.length - k) k := by
        rw [List.range'_succ]; congr 2; omega
      have e2 : l.drop (l.length - (k + 1)) = l.getD (l.length - (k + 1)) 0 :: l.drop (l.length - k) := by
        rw [List.drop_eq_getElem_cons hi, List.getD_eq_getElem?_getD, List.getElem?_eq_getElem hi, show l.length - (k + 1) + 1 = l.length - k by omega]; rfl
      have h2 := ih (by omega) M D h
      rw [e1, e2, List.flatMap_cons, List.append_assoc]
      rcases insR_made2 l q (l.length - (k + 1)) with ⟨h3, h4, _⟩ | ⟨kd, r, nm, h3, h5⟩
      · rw [h3]; exact Made2.one h4 h2
      · exact Made2.ref h3 h5 h2
  have h := key l.length (Nat.le_refl _) [] [] Made2.nil
  rw [Nat.sub_self, List.append_nil, List.drop_zero, List.append_nil, ← List.range_eq_range'] at h
  exact h


theorem plF_made (L : List Int) : ∀ (f k : Nat) (M D : List Int), Made2 M D → L.drop k = M → M.length ≤ f → plF L (pcsF f k M) = some D
  | f, k, [], D, h, hL, hf => by
    rw [pcsF_end]
    generalize hM : ([] : List Int) = M at h
    cases h with
    | nil => rfl
    | one _ _ => cases hM
    | @ref s kd r nm v M' D' hr _ _ =>
      exfalso
      have := congrArg List.length hM
      rw [List.length_append] at this
      have := hr.pos
      simp at *; omega
  | 0, k, c :: M, D, h, hL, hf => by simp at hf
  | f + 1, k, c :: M, D, h, hL, hf => by
    have hlen : 0 < (c :: M).length := by simp
    obtain ⟨p1, p2, _, _⟩ := pieceP_ok hlen
    have hdl : ∀ j, L.drop (k + j) = (c :: M).drop j := fun j => by rw [← hL, List.drop_drop]
    simp only [pcsF]
    by_cases hq : 0 < runP ampB (c :: M)
    · have hp : pieceP (c :: M) = (1, runP ampB (c :: M), 0, []) := by unfold pieceP; rw [if_pos hq]
      obtain ⟨q1, q2, q3⟩ := h.run
      rw [hp] at p1 p2 ⊢
      simp only [pcAt, plF] at p1 p2 ⊢
      rw [if_pos trivial, plF_made L f _ _ _ q2 (hdl _) (by rw [List.length_drop]; omega)]
      simp only [Option.map_some]
      have e : (L.take (k + runP ampB (c :: M))).drop k = D.take (runP ampB (c :: M)) := by
        rw [List.drop_take, hL, Nat.add_sub_cancel_left, q3]
      rw [e, List.take_append_drop]
    · generalize hLL : c :: M = N at h hL hq hdl hf p1 p2
      cases h with
      | nil => cases hLL
      | @one c' M' D' hc hM =>
        exfalso; apply hq
        unfold runP
        rw [takeW_yes (by unfold ampB; simpa using hc)]
        simp
      | @ref s kd r nm v M' D' hr hk hM =>
        rw [hr.piece M'] at p1 p2 ⊢
        simp only [pcAt, List.drop_left] at p1 p2 ⊢
        have hrec := plF_made L f (k + s.length) M' D' hM (by rw [hdl, List.drop_left]) (by rw [List.length_append] at hf; omega)
        simp only [plF]
        rcases hr.kind with ⟨h1, h2⟩ | ⟨h1, _⟩
        · subst h1 h2
          first | rw [if_neg (by decide), if_pos rfl, hrec] | rw [if_neg (by decide), if_pos trivial, hrec] | simp [hrec]
          rfl
        · subst h1
          obtain ⟨h3, h4⟩ := hk rfl
          first | rw [if_neg (by decide), if_neg (by decide), if_pos rfl, h3, if_neg (by omega), hrec] | rw [if_neg (by decide), if_neg (by decide), if_pos trivial, h3, if_neg (by omega), hrec]
          rfl
theorem plain_put (l : List Int) (q : Int) : plainP (putP l q) = some l := plF_made _ _ _ _ _ (putP_made2 l q) (by rw [List.drop_zero]) (Nat.le_refl _)

end Go.Proofs.Ytbljgoieieoamaa
