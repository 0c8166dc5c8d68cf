/-
  Layer 14, plainly: what Put makes, piece by piece.
-/
import Derived.Test.YtbljgoieieoamaaRfH
namespace Go.Proofs.Ytbljgoieieoamaa
open Go.RowKit
set_option linter.unusedVariables false

theorem takeW_yes {p : Int → Bool} {x : Int} {l : List Int} (h : p x = true) : (x :: l).takeWhile p = x :: l.takeWhile p := by rw [List.takeWhile_cons, if_pos h]
theorem takeW_no {p : Int → Bool} {x : Int} {l : List Int} (h : p x = false) : (x :: l).takeWhile p = [] := by rw [List.takeWhile_cons, if_neg (by rw [h]; simp)]

theorem run0 (L : List Int) : runP ampB (38 :: L) = 0 := by unfold runP; rw [takeW_no (by decide)]; rfl

/-- A reference by name of three runes at most, or four, ahead of anything. -/
theorem pc_amp (M : List Int) : pieceP (sg zAmp ++ M) = (3, 5, 0, U8.encs [97, 109, 112]) := by
  have e : sg zAmp ++ M = 38 :: 97 :: 109 :: 112 :: 59 :: M := rfl
  have hr : run (97 :: 109 :: 112 :: 59 :: M) = 3 := by unfold run; rw [takeW_yes (by decide), takeW_yes (by decide), takeW_yes (by decide), takeW_no (by decide)]; rfl
  have ht : tokP (sg zAmp ++ M) = (2, 5, true) := by
    rw [e]; unfold tokP refP refT
    simp [sw, sHo, sNo, sSc, leadP, hr, show startB 97 = true by decide]
  unfold pieceP
  rw [ht, e, run0]
  rfl
theorem pc_lt (M : List Int) : pieceP (sg zLt ++ M) = (3, 4, 0, U8.encs [108, 116]) := by
  have e : sg zLt ++ M = 38 :: 108 :: 116 :: 59 :: M := rfl
  have hr : run (108 :: 116 :: 59 :: M) = 2 := by unfold run; rw [takeW_yes (by decide), takeW_yes (by decide), takeW_no (by decide)]; rfl
  have ht : tokP (sg zLt ++ M) = (2, 4, true) := by
    rw [e]; unfold tokP refP refT
    simp [sw, sHo, sNo, sSc, leadP, hr, show startB 108 = true by decide]
  unfold pieceP
  rw [ht, e, run0]
  rfl
theorem pc_gt (M : List Int) : pieceP (sg zGt ++ M) = (3, 4, 0, U8.encs [103, 116]) := by
  have e : sg zGt ++ M = 38 :: 103 :: 116 :: 59 :: M := rfl
  have hr : run (103 :: 116 :: 59 :: M) = 2 := by unfold run; rw [takeW_yes (by decide), takeW_yes (by decide), takeW_no (by decide)]; rfl
  have ht : tokP (sg zGt ++ M) = (2, 4, true) := by
    rw [e]; unfold tokP refP refT
    simp [sw, sHo, sNo, sSc, leadP, hr, show startB 103 = true by decide]
  unfold pieceP
  rw [ht, e, run0]
  rfl
theorem pc_quot (M : List Int) : pieceP (sg zQuot ++ M) = (3, 6, 0, U8.encs [113, 117, 111, 116]) := by
  have e : sg zQuot ++ M = 38 :: 113 :: 117 :: 111 :: 116 :: 59 :: M := rfl
  have hr : run (113 :: 117 :: 111 :: 116 :: 59 :: M) = 4 := by unfold run; rw [takeW_yes (by decide), takeW_yes (by decide), takeW_yes (by decide), takeW_yes (by decide), takeW_no (by decide)]; rfl
  have ht : tokP (sg zQuot ++ M) = (2, 6, true) := by
    rw [e]; unfold tokP refP refT
    simp [sw, sHo, sNo, sSc, leadP, hr, show startB 113 = true by decide]
  unfold pieceP
  rw [ht, e, run0]
  rfl
theorem pc_apos (M : List Int) : pieceP (sg zApos ++ M) = (3, 6, 0, U8.encs [97, 112, 111, 115]) := by
  have e : sg zApos ++ M = 38 :: 97 :: 112 :: 111 :: 115 :: 59 :: M := rfl
  have hr : run (97 :: 112 :: 111 :: 115 :: 59 :: M) = 4 := by unfold run; rw [takeW_yes (by decide), takeW_yes (by decide), takeW_yes (by decide), takeW_yes (by decide), takeW_no (by decide)]; rfl
  have ht : tokP (sg zApos ++ M) = (2, 6, true) := by
    rw [e]; unfold tokP refP refT
    simp [sw, sHo, sNo, sSc, leadP, hr, show startB 97 = true by decide]
  unfold pieceP
  rw [ht, e, run0]
  rfl
theorem pc_hex (d : Int) (r : Int) (hd : hexB d = true) (hv : numV [38, 35, 120, d, 59] = some r) (M : List Int) : pieceP (38 :: 35 :: 120 :: d :: 59 :: M) = (2, 5, r, []) := by
  have hr : runP hexB (d :: 59 :: M) = 1 := by unfold runP; rw [takeW_yes hd, takeW_no (by decide)]; rfl
  have ht : tokP (38 :: 35 :: 120 :: d :: 59 :: M) = (3, 5, true) := by
    unfold tokP refP refT
    simp [sw, sHo, sNo, sSc, hr]
  unfold pieceP
  rw [ht, run0]
  simp [hv]
theorem pc_cr (M : List Int) : pieceP (sg zCr ++ M) = (2, 5, 13, []) := pc_hex 68 13 (by decide) (by decide +kernel) M
theorem pc_tab (M : List Int) : pieceP (sg zTab ++ M) = (2, 5, 9, []) := pc_hex 57 9 (by decide) (by decide +kernel) M
theorem pc_lf (M : List Int) : pieceP (sg zLf ++ M) = (2, 5, 10, []) := pc_hex 65 10 (by decide) (by decide +kernel) M

/-- A reference, its kind, the rune by number, the name, and what it means. -/
structure Ref1 (s : List Int) (kd : Nat) (r : Int) (nm : List Int) (v : Int) : Prop where
  piece : ∀ M, pieceP (s ++ M) = (kd, s.length, r, nm)
  kind : kd = 2 ∧ r = v ∨ kd = 3 ∧ nm.length ≤ 1000
  pos : 0 < s.length
  amp : ∃ t, s = 38 :: t

/-- Texts made of runes that are no & and of references, with what they mean. -/
inductive Made : List Int → List Int → Prop
  | nil : Made [] []
  | one {c : Int} {M D : List Int} : c ≠ 38 → Made M D → Made (c :: M) (c :: D)
  | ref {s : List Int} {kd : Nat} {r : Int} {nm : List Int} {v : Int} {M D : List Int} : Ref1 s kd r nm v → Made M D → Made (s ++ M) (v :: D)

theorem Made.run {M D : List Int} (h : Made M D) : runP ampB M ≤ D.length ∧ Made (M.drop (runP ampB M)) (D.drop (runP ampB M)) ∧ M.take (runP ampB M) = D.take (runP ampB M) := by
  induction h with
  | nil => exact ⟨Nat.le_refl _, Made.nil, rfl⟩
  | @one c M D hc hM ih =>
    have e : runP ampB (c :: M) = runP ampB M + 1 := by
      unfold runP
      rw [takeW_yes (by unfold ampB; simpa using hc)]
      rfl
    rw [e]
    simp only [List.length_cons, List.drop_succ_cons, List.take_succ_cons]
    exact ⟨by omega, ih.2.1, by rw [ih.2.2]⟩
  | @ref s kd r nm v M D hr hM _ =>
    obtain ⟨t, ht⟩ := hr.amp
    have e : runP ampB (s ++ M) = 0 := by rw [ht]; exact run0 _
    rw [e]
    exact ⟨Nat.zero_le _, Made.ref hr hM, rfl⟩

theorem pcsF_kinds : ∀ (f k : Nat) (M D : List Int), Made M D → ∀ x ∈ pcsF f k M, x.1 ≠ 4
  | 0, _, _, _, _, x, hx => by simp [pcsF] at hx
  | f + 1, k, [], D, h, x, hx => by simp [pcsF] at hx
  | f + 1, k, c :: M, D, h, x, hx => by
    simp only [pcsF, List.mem_cons] at hx
    by_cases hq : 0 < runP ampB (c :: M)
    · have hp : pieceP (c :: M) = (1, runP ampB (c :: M), 0, []) := by unfold pieceP; rw [if_pos hq]
      rw [hp] at hx
      rcases hx with rfl | hx
      · simp [pcAt]
      · exact pcsF_kinds f _ _ _ h.run.2.1 x hx
    · generalize hL : c :: M = L at h hx hq
      cases h with
      | nil => cases hL
      | @one c' M' D' hc hM =>
        exfalso; apply hq
        unfold runP
        rw [takeW_yes (by unfold ampB; simpa using hc)]
        simp
      | @ref s kd r nm v M' D' hr hM =>
        rw [hr.piece M'] at hx
        rcases hx with rfl | hx
        · simp only [pcAt]
          rcases hr.kind with ⟨h1, _⟩ | ⟨h1, _⟩ <;> omega
        · simp only [List.drop_left] at hx
          exact pcsF_kinds f _ _ _ hM x hx

theorem ref_amp : Ref1 (sg zAmp) 3 0 (U8.encs [97, 109, 112]) 38 := ⟨pc_amp, .inr ⟨rfl, by decide⟩, by decide, _, rfl⟩
theorem ref_lt : Ref1 (sg zLt) 3 0 (U8.encs [108, 116]) 60 := ⟨pc_lt, .inr ⟨rfl, by decide⟩, by decide, _, rfl⟩
theorem ref_gt : Ref1 (sg zGt) 3 0 (U8.encs [103, 116]) 62 := ⟨pc_gt, .inr ⟨rfl, by decide⟩, by decide, _, rfl⟩
theorem ref_quot : Ref1 (sg zQuot) 3 0 (U8.encs [113, 117, 111, 116]) 34 := ⟨pc_quot, .inr ⟨rfl, by decide⟩, by decide, _, rfl⟩
theorem ref_apos : Ref1 (sg zApos) 3 0 (U8.encs [97, 112, 111, 115]) 39 := ⟨pc_apos, .inr ⟨rfl, by decide⟩, by decide, _, rfl⟩
theorem ref_cr : Ref1 (sg zCr) 2 13 [] 13 := ⟨pc_cr, .inl ⟨rfl, rfl⟩, by decide, _, rfl⟩
theorem ref_tab : Ref1 (sg zTab) 2 9 [] 9 := ⟨pc_tab, .inl ⟨rfl, rfl⟩, by decide, _, rfl⟩
theorem ref_lf : Ref1 (sg zLf) 2 10 [] 10 := ⟨pc_lf, .inl ⟨rfl, rfl⟩, by decide, _, rfl⟩

/-- What stands for a rune is the rune, or a reference that means it. -/
theorem insR_made (l : List Int) (q : Int) (i : Nat) : (insR l q i = [l.getD i 0] ∧ l.getD i 0 ≠ 38 ∧ insS l i q = zNo) ∨ (∃ kd r nm, Ref1 (insR l q i) kd r nm (l.getD i 0)) := by
  unfold insR
  by_cases h : insS l i q = zNo
  · refine .inl ⟨if_pos h, fun h38 => ?_, h⟩
    unfold insS at h
    rw [if_pos h38] at h
    cases h
  · right
    rw [if_neg h]
    unfold insS at h ⊢
    by_cases h1 : l.getD i 0 = 38
    · rw [if_pos h1, h1]; exact ⟨_, _, _, ref_amp⟩
    rw [if_neg h1] at h ⊢
    by_cases h2 : l.getD i 0 = 60
    · rw [if_pos h2, h2]; exact ⟨_, _, _, ref_lt⟩
    rw [if_neg h2] at h ⊢
    by_cases h3 : l.getD i 0 = 62
    · rw [if_pos h3] at h ⊢
      rw [h3]
      split at h
      · rename_i hg; rw [if_pos hg]; exact ⟨_, _, _, ref_gt⟩
      · exact absurd rfl h
    rw [if_neg h3] at h ⊢
    by_cases h4 : l.getD i 0 = 13
    · rw [if_pos h4, h4]; exact ⟨_, _, _, ref_cr⟩
    rw [if_neg h4] at h ⊢
    by_cases h5 : l.getD i 0 = 34 ∨ l.getD i 0 = 39 ∨ l.getD i 0 = 9 ∨ l.getD i 0 = 10
    · rw [if_pos h5] at h ⊢
      unfold quotS at h ⊢
      split at h
      · exact absurd rfl h
      rename_i hq; rw [if_neg hq]
      split at h
      · rename_i h9; rw [if_pos h9, h9]; exact ⟨_, _, _, ref_tab⟩
      rename_i h9; rw [if_neg h9]
      split at h
      · rename_i h10; rw [if_pos h10, h10]; exact ⟨_, _, _, ref_lf⟩
      rename_i h10; rw [if_neg h10]
      split at h
      · exact absurd rfl h
      rename_i hrq; rw [if_neg hrq]
      split at h
      · rename_i h34; rw [if_pos h34, h34]; exact ⟨_, _, _, ref_quot⟩
      · rename_i h34; rw [if_neg h34]
        have h39 : l.getD i 0 = 39 := by omega
        rw [h39]; exact ⟨_, _, _, ref_apos⟩
    · rw [if_neg h5] at h; exact absurd rfl h

theorem putP_made (l : List Int) (q : Int) : Made (putP l q) l := by
  have key : ∀ k, k ≤ l.length → ∀ M D, Made M D → Made (((List.range' (l.length - k) k).flatMap (insR l q)) ++ M) (l.drop (l.length - k) ++ D) := by
    intro k
    induction k with
    | zero => intro _ M D h; simpa using h
    | succ k ih =>
      intro hk M D h
      have hi : l.length - (k + 1) < l.length := by omega
      have e1 : List.range' (l.length - (k + 1)) (k + 1) = (l.length - (k + 1)) :: List.range' (l.length - k) k := by
        rw [List.range'_succ]; congr 2; omega
      have e2 : l.drop (l.length - (k + 1)) = l.getD (l.length - (k + 1)) 0 :: l.drop (l.length - k) := by
        rw [List.drop_eq_getElem_cons hi, List.getD_eq_getElem?_getD, List.getElem?_eq_getElem hi, show l.length - (k + 1) + 1 = l.length - k by omega]; rfl
      have h2 := ih (by omega) M D h
      rw [e1, e2, List.flatMap_cons, List.append_assoc]
      rcases insR_made l q (l.length - (k + 1)) with ⟨h3, h4, _⟩ | ⟨kd, r, nm, h3⟩
      · rw [h3]; exact Made.one h4 h2
      · exact Made.ref h3 h2
  have h := key l.length (Nat.le_refl _) [] [] Made.nil
  rw [Nat.sub_self, List.append_nil, List.drop_zero, List.append_nil, ← List.range_eq_range'] at h
  exact h

theorem pcs_put_kinds (l : List Int) (q : Int) : ∀ x ∈ pcs (putP l q), x.1 ≠ 4 := pcsF_kinds _ _ _ _ (putP_made l q)

theorem insS_mem (l : List Int) (i : Nat) (q : Int) : insS l i q = zNo ∨ insS l i q = zAmp ∨ insS l i q = zLt ∨ insS l i q = zGt ∨ insS l i q = zCr ∨ insS l i q = zTab ∨ insS l i q = zLf ∨ insS l i q = zQuot ∨ insS l i q = zApos := by
  unfold insS quotS
  repeat' split
  all_goals first
    | exact .inl rfl
    | exact .inr (.inl rfl)
    | exact .inr (.inr (.inl rfl))
    | exact .inr (.inr (.inr (.inl rfl)))
    | exact .inr (.inr (.inr (.inr (.inl rfl))))
    | exact .inr (.inr (.inr (.inr (.inr (.inl rfl)))))
    | exact .inr (.inr (.inr (.inr (.inr (.inr (.inl rfl))))))
    | exact .inr (.inr (.inr (.inr (.inr (.inr (.inr (.inl rfl)))))))
    | exact .inr (.inr (.inr (.inr (.inr (.inr (.inr (.inr rfl)))))))

/-- The runes that may not stand in what Put makes, within quotes. -/
def apB (q x : Int) : Prop := x ≠ 60 ∧ x ≠ q ∧ x ≠ 9 ∧ x ≠ 10 ∧ x ≠ 13
theorem putP_apart (l : List Int) (q : Int) (hq : q = 34 ∨ q = 39) : ∀ x ∈ putP l q, apB q x := by
  intro x hx
  obtain ⟨i, _, hi⟩ := List.mem_flatMap.1 hx
  unfold insR at hi
  by_cases h : insS l i q = zNo
  · rw [if_pos h] at hi
    simp at hi
    obtain ⟨z, hz⟩ : ∃ z, z = l.getD i 0 := ⟨_, rfl⟩
    have hxz : x = z := by rw [hz, List.getD_eq_getElem?_getD]; exact hi
    subst hxz
    unfold insS at h
    rw [← hz] at h
    by_cases h1 : x = 38
    · rw [if_pos h1] at h; cases h
    rw [if_neg h1] at h
    by_cases h2 : x = 60
    · rw [if_pos h2] at h; cases h
    rw [if_neg h2] at h
    by_cases h3 : x = 62
    · subst h3; unfold apB; rcases hq with rfl | rfl <;> decide
    rw [if_neg h3] at h
    by_cases h4 : x = 13
    · rw [if_pos h4] at h; cases h
    rw [if_neg h4] at h
    by_cases h5 : x = 34 ∨ x = 39 ∨ x = 9 ∨ x = 10
    · rw [if_pos h5] at h
      unfold quotS at h
      rw [if_neg (by rcases hq with rfl | rfl <;> simp)] at h
      by_cases h9 : x = 9
      · rw [if_pos h9] at h; cases h
      rw [if_neg h9] at h
      by_cases h10 : x = 10
      · rw [if_pos h10] at h; cases h
      rw [if_neg h10] at h
      by_cases hxq : x = q
      · rw [if_neg (by simpa using hxq)] at h
        split at h <;> cases h
      · exact ⟨h2, hxq, h9, h10, h4⟩
    · exact ⟨h2, by rcases hq with rfl | rfl <;> omega, by omega, by omega, h4⟩
  · rw [if_neg h] at hi
    have hall : ∀ s : ByteArray, s = zAmp ∨ s = zLt ∨ s = zGt ∨ s = zCr ∨ s = zTab ∨ s = zLf ∨ s = zQuot ∨ s = zApos → ∀ x ∈ sg s, x ≠ 60 ∧ x ≠ 34 ∧ x ≠ 39 ∧ x ≠ 9 ∧ x ≠ 10 ∧ x ≠ 13 := by
      intro s hs
      rcases hs with rfl | rfl | rfl | rfl | rfl | rfl | rfl | rfl <;> decide +kernel
    have hm := (insS_mem l i q).resolve_left h
    obtain ⟨g1, g2, g3, g4, g5, g6⟩ := hall _ hm x hi
    exact ⟨g1, by rcases hq with rfl | rfl <;> assumption, g4, g5, g6⟩

theorem putP_wf {l : List Int} (h : Runes l) (q : Int) : Runes (putP l q) := by
  intro x hx
  obtain ⟨i, hi, hx⟩ := List.mem_flatMap.1 hx
  rw [List.mem_range] at hi
  unfold insR at hx
  split at hx
  · simp at hx
    have := h.at hi
    rw [List.getD_eq_getElem?_getD, ← hx] at this
    exact this
  · unfold sg at hx
    obtain ⟨b, _, rfl⟩ := List.mem_map.1 hx
    have := b.toNat_lt
    omega

end Go.Proofs.Ytbljgoieieoamaa
