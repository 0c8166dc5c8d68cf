/-
  Layer 9, plainly: where a declaration ends; what declEnds tells.
-/
import Derived.Test.YtpjcheelafegbaaDxG
namespace Go.Proofs.Ytpjcheelafegbaa
open Go.RowKit
set_option linter.unusedVariables false

/-- How far it is behind the first > that stands in no quotes, if there is one; q: the quote that is open. -/
def dcl (q : Int) (s : List Int) : Option Nat := if bareP [62] q s < s.length then some (bareP [62] q s + 1) else none
theorem dcl_le {q : Int} {s : List Int} {m : Nat} (h : dcl q s = some m) : 0 < m ∧ m ≤ s.length := by
  unfold dcl at h
  split at h
  · cases h; omega
  · cases h
theorem dcl_nil (q : Int) : dcl q [] = none := by unfold dcl; rw [if_neg (by simp)]
theorem dcl_stop {q r : Int} {s : List Int} (h : qstop [62] q r = true) : dcl q (r :: s) = some 1 := by
  unfold dcl
  rw [bareP, if_pos h, if_pos (by simp)]
theorem dcl_go {q r : Int} {s : List Int} (h : qstop [62] q r = false) : dcl q (r :: s) = (dcl (qstep q r) s).map (· + 1) := by
  have e : bareP [62] q (r :: s) = 1 + bareP [62] (qstep q r) s := by rw [bareP, if_neg (by rw [h]; decide)]
  unfold dcl
  rw [e, List.length_cons]
  by_cases hl : bareP [62] (qstep q r) s < s.length
  · rw [if_pos (by omega), if_pos hl]; simp; omega
  · rw [if_neg (by omega), if_neg hl]; rfl

/-- What is told of a place: behind the first > in no quotes; 0: nowhere. -/
def nd (q : Int) (l : List Int) (k : Nat) : Int := match dcl q (l.drop k) with | some m => (k : Int) + m | none => 0
theorem nd_end (q : Int) (l : List Int) : nd q l l.length = 0 := by unfold nd; rw [List.drop_length, dcl_nil]
theorem nd_go {q r : Int} {l : List Int} {k : Nat} (hk : k < l.length) (hr : l.getD k 0 = r) (h : qstop [62] q r = false) : nd q l k = nd (qstep q r) l (k + 1) := by
  unfold nd
  rw [drop_cons hk, hr, dcl_go h]
  cases dcl (qstep q r) (l.drop (k + 1)) with
  | none => rfl
  | some m => simp; omega
theorem nd_stop {q r : Int} {l : List Int} {k : Nat} (hk : k < l.length) (hr : l.getD k 0 = r) (h : qstop [62] q r = true) : nd q l k = (k : Int) + 1 := by
  unfold nd
  rw [drop_cons hk, hr, dcl_stop h]
  rfl

theorem set_set_getD {E : List Int} {i j n : Nat} {u v : Int} (hl : E.length = n + 1) (hi : i < n + 1) : ((E.set i u).set i v).getD j 0 = if i = j then v else E.getD j 0 := by
  rw [List.set_set]
  by_cases h : i = j
  · subst h; rw [if_pos rfl]; simp [hl, hi]
  · rw [if_neg h]; simp [List.getElem?_set_ne h]
theorem set_getD {E : List Int} {i j n : Nat} {v : Int} (hl : E.length = n + 1) (hi : i < n + 1) : (E.set i v).getD j 0 = if i = j then v else E.getD j 0 := by
  by_cases h : i = j
  · subst h; rw [if_pos rfl]; simp [hl, hi]
  · rw [if_neg h]; simp [List.getElem?_set_ne h]

theorem stps_down (zs : List Int) : ∀ (m k : Nat) (hk : k ≤ zs.length), zs.length - k = m →
    (∀ j, k ≤ j → j ≤ zs.length → (stps zs.length (downR zs k hk)).1.getD j 0 = nd 0 zs j) ∧ (stps zs.length (downR zs k hk)).2.1 = nd 39 zs k ∧ (stps zs.length (downR zs k hk)).2.2 = nd 34 zs k := by
  intro m
  induction m with
  | zero =>
    intro k hk hm
    obtain rfl : k = zs.length := by omega
    have e : downR zs zs.length hk = [] := List.eq_nil_of_length_eq_zero (by rw [downR_length]; omega)
    rw [e]
    refine ⟨fun j h1 h2 => ?_, (nd_end 39 zs).symm, (nd_end 34 zs).symm⟩
    obtain rfl : j = zs.length := by omega
    rw [nd_end]
    simp only [stps, List.foldl_nil]
    rw [List.getD_eq_getElem?_getD, List.getElem?_replicate, if_pos (by omega)]
    rfl
  | succ m ih =>
    intro k hk hm
    have hlt : k < zs.length := by omega
    obtain ⟨h1, h2, h3⟩ := ih (k + 1) (by omega) (by omega)
    have hl := stps_length zs.length (downR zs (k + 1) (by omega))
    have e0 := h1 (k + 1) (Nat.le_refl _) (by omega)
    rw [downR_succ zs k hlt, stps_snoc]
    generalize hst : stps zs.length (downR zs (k + 1) (by omega)) = st at h1 h2 h3 hl e0 ⊢
    obtain ⟨E, s, d⟩ := st
    simp only at h1 h2 h3 hl e0
    simp only [atR]
    obtain ⟨r, hr⟩ : ∃ r, zs.getD k 0 = r := ⟨_, rfl⟩
    have hr' : zs[k]?.getD 0 = r := by rw [← hr, List.getD_eq_getElem?_getD]
    rw [hr']
    have hcont : ∀ x : Int, ([62] : List Int).contains x = decide (x = 62) := fun x => by simp [List.contains, List.elem]; split <;> simp_all
    have stop_iff : ∀ q, qstop [62] q r = (decide (q = 0) && !(decide (r = 34) || decide (r = 39)) && decide (r = 62)) := fun q => by unfold qstop; rw [hcont]
    unfold stp
    by_cases h62 : r = 62
    · rw [if_pos h62]
      have a0 : nd 0 zs k = (k : Int) + 1 := nd_stop hlt hr (by rw [stop_iff, h62]; decide)
      have a1 : nd 39 zs k = nd 39 zs (k + 1) := by rw [nd_go hlt hr (by rw [stop_iff]; simp)]; unfold qstep; rw [if_pos (by decide), if_neg (by omega)]
      have a2 : nd 34 zs k = nd 34 zs (k + 1) := by rw [nd_go hlt hr (by rw [stop_iff]; simp)]; unfold qstep; rw [if_pos (by decide), if_neg (by omega)]
      refine ⟨fun j j1 j2 => ?_, by rw [a1]; exact h2, by rw [a2]; exact h3⟩
      rw [set_set_getD hl (by omega)]
      split
      · rename_i h; rw [← h, a0]
      · exact h1 j (by omega) j2
    rw [if_neg h62]
    have ns : ∀ q, qstop [62] q r = false := fun q => by rw [stop_iff]; simp [h62]
    by_cases h39 : r = 39
    · rw [if_pos h39]
      have a0 : nd 0 zs k = nd 39 zs (k + 1) := by rw [nd_go hlt hr (ns _)]; unfold qstep; rw [if_neg (by decide), if_pos (.inr h39), h39]
      have a1 : nd 39 zs k = nd 0 zs (k + 1) := by rw [nd_go hlt hr (ns _)]; unfold qstep; rw [if_pos (by decide), if_pos h39]
      have a2 : nd 34 zs k = nd 34 zs (k + 1) := by rw [nd_go hlt hr (ns _)]; unfold qstep; rw [if_pos (by decide), if_neg (by omega)]
      refine ⟨fun j j1 j2 => ?_, by rw [a1]; exact e0, by rw [a2]; exact h3⟩
      rw [set_set_getD hl (by omega)]
      split
      · rename_i h; rw [← h, a0]; exact h2
      · exact h1 j (by omega) j2
    rw [if_neg h39]
    by_cases h34 : r = 34
    · rw [if_pos h34]
      have a0 : nd 0 zs k = nd 34 zs (k + 1) := by rw [nd_go hlt hr (ns _)]; unfold qstep; rw [if_neg (by decide), if_pos (.inl h34), h34]
      have a1 : nd 39 zs k = nd 39 zs (k + 1) := by rw [nd_go hlt hr (ns _)]; unfold qstep; rw [if_pos (by decide), if_neg (by omega)]
      have a2 : nd 34 zs k = nd 0 zs (k + 1) := by rw [nd_go hlt hr (ns _)]; unfold qstep; rw [if_pos (by decide), if_pos h34]
      refine ⟨fun j j1 j2 => ?_, by rw [a1]; exact h2, by rw [a2]; exact e0⟩
      rw [set_set_getD hl (by omega)]
      split
      · rename_i h; rw [← h, a0]; exact h3
      · exact h1 j (by omega) j2
    rw [if_neg h34]
    have a0 : nd 0 zs k = nd 0 zs (k + 1) := by rw [nd_go hlt hr (ns _)]; unfold qstep; rw [if_neg (by decide), if_neg (by omega)]
    have a1 : nd 39 zs k = nd 39 zs (k + 1) := by rw [nd_go hlt hr (ns _)]; unfold qstep; rw [if_pos (by decide), if_neg (by omega)]
    have a2 : nd 34 zs k = nd 34 zs (k + 1) := by rw [nd_go hlt hr (ns _)]; unfold qstep; rw [if_pos (by decide), if_neg (by omega)]
    refine ⟨fun j j1 j2 => ?_, by rw [a1]; exact h2, by rw [a2]; exact h3⟩
    rw [set_getD hl (by omega)]
    split
    · rename_i h; rw [← h, a0]; exact e0
    · exact h1 j (by omega) j2

/-- **declEnds, for any row: at each place behind the first > from there on that stands in no quotes; 0: nowhere.** -/
theorem declEnds_any {a : Option Addr} {n cap : Nat} {l : List Int} {w : World} (hl : l.length = n) (hn : n ≤ 1000) (hat : AtCells w a (l.map (.int .i32))) :
    Calls Try.prog 85 #[.slice a n cap] w fun e w' => (∃ ga, e = .returned (.slice (some ⟨ga, 0, none⟩) (n + 1) (n + 1)) ∧ w.heap.size ≤ ga ∧ (∀ j, j < n + 1 → w'.cell? ⟨ga, j, none⟩ = some (.int .i64 (nd 0 l j)))) ∧ Below w.heap.size w w' := by
  subst hl
  refine ((callsIn_wide (n := 3)).1 (declEnds_in Fence.wide 3 trivial trivial trivial rfl (Nat.le_refl _) a cap l hn w (LiesR.of_at hat))).mono ?_
  rintro e w' ⟨⟨ga, he, hga, hc⟩, hb⟩
  exact ⟨⟨ga, he, hga, fun j hj => by rw [hc j hj, (stps_down l l.length 0 (Nat.zero_le _) (by omega)).1 j (Nat.zero_le _) (by omega)]⟩, hb⟩

end Go.Proofs.Ytpjcheelafegbaa
