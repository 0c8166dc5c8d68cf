/-
  Contracts of the reference's layer 8: a part whole, Parts.
-/
import Derived.Test.YtblebkpnjeghoaaRefB
import Derived.Test.YtblebkpnjeghoaaRefC
import Derived.Test.YtblebkpnjeghoaaRefD
namespace Go.Proofs.Ytblebkpnjeghoaa
open Go.RowKit
set_option linter.unusedVariables false

/-- The part with which runes begin, at the first place or behind it. -/
def rprt (first : Prop) [Decidable first] (s : List Int) : Nat × Nat := if first ∧ s.getD 0 0 = 60 then (1, if sw sEo s then 2 else 1) else prt s

theorem sw_head {a : Int} {ar s : List Int} (h : sw (a :: ar) s = true) : s.getD 0 0 = a := by
  have := sw_get h 0 (by simp)
  simpa using this
theorem sw_two {x y : Int} {s : List Int} (h : s.length = 2) : sw [x, y] s = decide (s.getD 0 0 = x ∧ s.getD 1 0 = y) := by
  match s with
  | [a, b] => rw [Bool.eq_iff_iff]; simp [sw]
  | [] => simp at h
  | [a] => simp at h
  | a :: b :: c :: s => simp at h

theorem refPart_any {b off n cap : Nat} {l : List Int} {w : World} (R : RRow w b off n cap l) (hwf : ∀ j, -2147483648 ≤ l.getD j 0 ∧ l.getD j 0 ≤ 2147483647) (f k t : Nat) (hk : k < t) (ht : t ≤ n) (hn : n ≤ 1000) (hf : f ≤ 1000) {p : Nat × Nat} (hp : rprt (k = f) ((l.take t).drop k) = p) :
    Says 103 #[.slice (some ⟨b, off, none⟩) n cap, .int .i64 f, .int .i64 k, .int .i64 t] (parI p.1 k ((k : Int) + p.2)) w w := by
  obtain ⟨z, hz⟩ : ∃ z, l.getD k 0 = z := ⟨_, rfl⟩
  have hlm : ((l.take t).drop k).length = t - k := by rw [List.length_drop, List.length_take, R.len]; omega
  have hgd : ∀ x, k + x < t → ((l.take t).drop k).getD x 0 = l.getD (k + x) 0 := fun x hx => by
    rw [List.getD_eq_getElem?_getD, List.getD_eq_getElem?_getD, List.getElem?_drop, List.getElem?_take, if_pos hx]
  have h0 := hgd 0 (by omega)
  rw [Nat.add_zero, hz] at h0
  unfold rprt at hp
  rw [h0] at hp
  by_cases hA : k = f ∧ z = 60
  · rw [if_pos hA] at hp
    cases hs : sw sEo ((l.take t).drop k)
    · rw [hs] at hp
      subst hp
      exact refPart_o1 R hwf f k t hk ht hn hf z hz hA.1 hA.2 hs
    · rw [hs] at hp
      subst hp
      exact refPart_o2 R hwf f k t hk ht hn hf z hz hA.1 hA.2 hs
  rw [if_neg hA] at hp
  unfold prt at hp
  rw [h0] at hp
  have pick : ∀ {C : Prop}, (k ≠ f → C) → (k = f → z ≠ 60 → C) → C := fun h1 h2 => by
    by_cases h : k = f
    · exact h2 h (fun h6 => hA ⟨h, h6⟩)
    · exact h1 h
  cases hs : spaceB z
  case true =>
    rw [if_pos hs] at hp
    subst hp
    exact pick (fun h => refPart_spA R f k t hk ht hn hf z hz h hs _ rfl) (fun h h6 => refPart_spB R f k t hk ht hn hf z hz h h6 hs _ rfl)
  rw [if_neg (by rw [hs]; decide)] at hp
  have hlead : leadP ((l.take t).drop k) = if startB z then leadP ((l.take t).drop k) else 0 := by
    cases hq : (l.take t).drop k with
    | nil => rw [hq] at hlm; simp at hlm; omega
    | cons r s =>
      rw [hq] at h0
      simp at h0
      subst h0
      rw [leadP]
      split <;> simp_all
  cases hst : startB z
  case true =>
    rw [if_pos hst] at hp
    subst hp
    have hle := leadP_le ((l.take t).drop k)
    have hpos : 0 < leadP ((l.take t).drop k) := by
      cases hq : (l.take t).drop k with
      | nil => rw [hq] at hlm; simp at hlm; omega
      | cons r s =>
        rw [hq] at h0
        simp at h0
        subst h0
        rw [leadP, if_pos hst, run, List.takeWhile_cons, if_pos (start_is_name hst)]
        simp
    exact pick (fun h => refPart_nmA R hwf f k t hk ht hn hf z hz h hs _ rfl hpos (by omega)) (fun h h6 => refPart_nmB R hwf f k t hk ht hn hf z hz h h6 hs _ rfl hpos (by omega))
  rw [if_neg (by rw [hst]; decide)] at hp
  have hq0 : leadP ((l.take t).drop k) = 0 := by rw [hlead, hst]; rfl
  by_cases h61 : z = 61
  · rw [if_pos h61] at hp
    subst hp
    exact pick (fun h => refPart_eqA R hwf f k t hk ht hn hf z hz h hs hq0 h61) (fun h h6 => refPart_eqB R hwf f k t hk ht hn hf z hz h h6 hs hq0 h61)
  rw [if_neg h61] at hp
  have hd1 : ((l.take t).drop k).drop 1 = (l.take t).drop (k + 1) := dd ..
  have hql : ∀ q c, fnd [c] ((l.take t).drop (k + 1)) = some q → k + q + 2 ≤ t := fun q c h => by
    have := (fnd_le _ _ _ h).1
    rw [List.length_drop, List.length_take, R.len] at this
    simp at this
    omega
  by_cases h34 : z = 34
  · rw [if_pos (.inl h34), h34] at hp
    unfold quo at hp
    rw [hd1] at hp
    cases ho : fnd [34] ((l.take t).drop (k + 1)) with
    | none =>
      rw [ho] at hp
      subst hp
      exact pick (fun h => refPart_qd0A R hwf f k t hk ht hn hf z hz h hs hq0 h34 ho) (fun h h6 => refPart_qd0B R hwf f k t hk ht hn hf z hz h h6 hs hq0 h34 ho)
    | some q =>
      rw [ho] at hp
      subst hp
      have e : (k : Int) + ((q + 2 : Nat) : Int) = (k : Int) + q + 2 := by omega
      show Says _ _ (parI (5 : Nat) k ((k : Int) + ((q + 2 : Nat) : Int))) w w
      rw [e]
      exact pick (fun h => refPart_qd1A R hwf f k t hk ht hn hf z hz h hs hq0 h34 q ho (hql q _ ho)) (fun h h6 => refPart_qd1B R hwf f k t hk ht hn hf z hz h h6 hs hq0 h34 q ho (hql q _ ho))
  by_cases h39 : z = 39
  · rw [if_pos (.inr h39), h39] at hp
    unfold quo at hp
    rw [hd1] at hp
    cases ho : fnd [39] ((l.take t).drop (k + 1)) with
    | none =>
      rw [ho] at hp
      subst hp
      exact pick (fun h => refPart_qs0A R hwf f k t hk ht hn hf z hz h hs hq0 h39 ho) (fun h h6 => refPart_qs0B R hwf f k t hk ht hn hf z hz h h6 hs hq0 h39 ho)
    | some q =>
      rw [ho] at hp
      subst hp
      have e : (k : Int) + ((q + 2 : Nat) : Int) = (k : Int) + q + 2 := by omega
      show Says _ _ (parI (5 : Nat) k ((k : Int) + ((q + 2 : Nat) : Int))) w w
      rw [e]
      exact pick (fun h => refPart_qs1A R hwf f k t hk ht hn hf z hz h hs hq0 h39 q ho (hql q _ ho)) (fun h h6 => refPart_qs1B R hwf f k t hk ht hn hf z hz h h6 hs hq0 h39 q ho (hql q _ ho))
  rw [if_neg (by rintro (h | h); exact h34 h; exact h39 h)] at hp
  have hg : sw gt ((l.take t).drop k) = decide (z = 62) := by
    have : gt = [62] := rfl
    rw [this, sw_one (by rw [hlm]; omega), h0]
  by_cases h62 : z = 62
  · by_cases hkt : k + 1 = t
    · rw [if_pos (by unfold clsB; rw [hg, hlm, decide_eq_true h62, decide_eq_true (by omega : t - k = 1)]; rfl), hlm] at hp
      subst hp
      have e : (k : Int) + ((t - k : Nat) : Int) = (t : Int) := by omega
      show Says _ _ (parI (6 : Nat) k ((k : Int) + ((t - k : Nat) : Int))) w w
      rw [e]
      exact pick (fun h => refPart_c1A R hwf f k t hk ht hn hf z hz h hs hq0 h62 hkt) (fun h h6 => refPart_c1B R hwf f k t hk ht hn hf z hz h h6 hs hq0 h62 hkt)
    · have hc : clsB ((l.take t).drop k) = false := by
        unfold clsB
        rw [hlm, decide_eq_false (by omega : ¬ t - k = 1), Bool.false_and, Bool.false_or]
        by_cases h2 : t - k = 2
        · rw [show sEc = [47, 62] from rfl, sw_two (by rw [hlm]; exact h2), h0, Bool.and_eq_false_iff]
          exact .inr (decide_eq_false (by rintro ⟨h, _⟩; omega))
        · rw [decide_eq_false h2, Bool.false_and]
      rw [if_neg (by rw [hc]; decide)] at hp
      subst hp
      exact pick (fun h => refPart_jxA R hwf f k t hk ht hn hf z hz h hs hq0 h62 hkt) (fun h h6 => refPart_jxB R hwf f k t hk ht hn hf z hz h h6 hs hq0 h62 hkt)
  have hc1 : (decide (((l.take t).drop k).length = 1) && sw gt ((l.take t).drop k)) = false := by rw [hg, decide_eq_false h62, Bool.and_false]
  by_cases h47 : z = 47
  · by_cases hkt : k + 2 = t
    · obtain ⟨y, hy⟩ : ∃ y, l.getD (k + 1) 0 = y := ⟨_, rfl⟩
      have h1 := hgd 1 (by omega)
      rw [hy] at h1
      have he : sw sEc ((l.take t).drop k) = decide (y = 62) := by
        rw [show sEc = [47, 62] from rfl, sw_two (by rw [hlm]; omega), h0, h1, h47]
        simp
      by_cases h62' : y = 62
      · rw [if_pos (by unfold clsB; rw [hc1, he, hlm, decide_eq_true h62', decide_eq_true (by omega : t - k = 2)]; rfl), hlm] at hp
        subst hp
        have e : (k : Int) + ((t - k : Nat) : Int) = (t : Int) := by omega
        show Says _ _ (parI (6 : Nat) k ((k : Int) + ((t - k : Nat) : Int))) w w
        rw [e]
        exact pick (fun h => refPart_c2A R hwf f k t hk ht hn hf z hz h hs hq0 h47 hkt y hy h62') (fun h h6 => refPart_c2B R hwf f k t hk ht hn hf z hz h h6 hs hq0 h47 hkt y hy h62')
      · rw [if_neg (by unfold clsB; rw [hc1, he, decide_eq_false h62']; simp)] at hp
        subst hp
        exact pick (fun h => refPart_jzA R hwf f k t hk ht hn hf z hz h hs hq0 h47 hkt y hy h62') (fun h h6 => refPart_jzB R hwf f k t hk ht hn hf z hz h h6 hs hq0 h47 hkt y hy h62')
    · rw [if_neg (by unfold clsB; rw [hc1, hlm, decide_eq_false (by omega : ¬ t - k = 2)]; simp)] at hp
      subst hp
      exact pick (fun h => refPart_jyA R hwf f k t hk ht hn hf z hz h hs hq0 h47 hkt) (fun h h6 => refPart_jyB R hwf f k t hk ht hn hf z hz h h6 hs hq0 h47 hkt)
  have hc2 : (decide (((l.take t).drop k).length = 2) && sw sEc ((l.take t).drop k)) = false := by
    by_cases h2 : t - k = 2
    · rw [show sEc = [47, 62] from rfl, sw_two (by rw [hlm]; exact h2), h0, Bool.and_eq_false_iff]
      exact .inr (decide_eq_false (by rintro ⟨h, _⟩; exact h47 h))
    · rw [hlm, decide_eq_false h2, Bool.false_and]
  rw [if_neg (by unfold clsB; rw [hc1, hc2]; decide)] at hp
  subst hp
  exact pick (fun h => refPart_jA R hwf f k t hk ht hn hf z hz h hs hq0 h61 h34 h39 h62 h47) (fun h h6 => refPart_jB R hwf f k t hk ht hn hf z hz h h6 hs hq0 h61 h34 h39 h62 h47)

/-- What is left of the parts, from a place on. -/
def RestOk (f t : Nat) (m : List Int) (j : Nat) (R : List PartA) : Prop := (j = f → R = parS f (m.drop f)) ∧ (j ≠ f → ∃ fu, t - j ≤ fu ∧ R = parF fu j (m.drop j))

theorem rest_step {f t j : Nat} {m : List Int} {R : List PartA} (hm : m.length = t) (hj : j < t) (hf : f ≤ j) (h : RestOk f t m j R) :
    ∃ R', R = ((rprt (j = f) (m.drop j)).1, j, j + (rprt (j = f) (m.drop j)).2) :: R' ∧ RestOk f t m (j + (rprt (j = f) (m.drop j)).2) R' ∧ 0 < (rprt (j = f) (m.drop j)).2 ∧ j + (rprt (j = f) (m.drop j)).2 ≤ t := by
  have hl : (m.drop j).length = t - j := by rw [List.length_drop, hm]
  obtain ⟨k1, k2, k3, k4⟩ := prt_ok (m.drop j) (by omega)
  by_cases hjf : j = f
  · subst hjf
    have hR := h.1 rfl
    unfold rprt
    by_cases h60 : (m.drop j).getD 0 0 = 60
    · rw [if_pos ⟨rfl, h60⟩]
      cases hs : sw sEo (m.drop j)
      · have hlt : sw sLt (m.drop j) = true := by rw [show sLt = [60] from rfl, sw_one (by omega)]; exact decide_eq_true h60
        have ho : opn (m.drop j) = some 1 := by unfold opn; rw [if_neg (by rw [hs]; decide), if_pos hlt]
        unfold parS at hR
        rw [ho] at hR
        refine ⟨parF (m.drop j).length (j + 1) ((m.drop j).drop 1), hR, ⟨fun h => by simp at h, fun _ => ⟨(m.drop j).length, by rw [hl]; simp only [Bool.false_eq_true, if_false]; omega, by rw [dd]; rfl⟩⟩, by simp, by simp only [Bool.false_eq_true, if_false]; omega⟩
      · have ho : opn (m.drop j) = some 2 := by unfold opn; rw [if_pos hs]
        have hl2 := sw_length hs
        rw [hl] at hl2
        simp [sEo] at hl2
        unfold parS at hR
        rw [ho] at hR
        refine ⟨parF (m.drop j).length (j + 2) ((m.drop j).drop 2), hR, ⟨fun h => by simp at h, fun _ => ⟨(m.drop j).length, by rw [hl]; simp only [if_true]; omega, by rw [dd]; rfl⟩⟩, by simp, by simp only [if_true]; omega⟩
    · rw [if_neg (fun h => h60 h.2)]
      have ho : opn (m.drop j) = none := by
        unfold opn
        rw [if_neg (show ¬ sw sEo (m.drop j) = true from fun hs => h60 (sw_head (a := 60) (ar := [47]) hs)), if_neg (show ¬ sw sLt (m.drop j) = true from fun hs => h60 (sw_head (a := 60) (ar := []) hs))]
      unfold parS at hR
      rw [ho, hl] at hR
      obtain ⟨fu, hfu⟩ : ∃ fu, t - j = fu + 1 := ⟨t - j - 1, by omega⟩
      simp only [] at hR
      rw [hfu, parF_cons (by omega)] at hR
      exact ⟨_, hR, ⟨fun h => by omega, fun _ => ⟨fu, by omega, rfl⟩⟩, k1, by omega⟩
  · obtain ⟨fu, hfu, hR⟩ := h.2 hjf
    unfold rprt
    rw [if_neg (fun h => hjf h.1)]
    obtain ⟨fu, rfl⟩ : ∃ g, fu = g + 1 := ⟨fu - 1, by omega⟩
    rw [parF_cons (by omega)] at hR
    exact ⟨_, hR, ⟨fun h => by omega, fun _ => ⟨fu, by omega, rfl⟩⟩, k1, by omega⟩

end Go.Proofs.Ytblebkpnjeghoaa
