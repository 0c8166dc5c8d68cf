/-
  Contracts of layer 6, the small ones: ours, none, Has, Meets, Joined, Len.
-/
import Derived.Test.YtlkcnfkfccfhmaaRows0
import Derived.Test.YtlkcnfkfccfhmaaProg
import Derived.BigQuiet
import Derived.Outline
import Derived.WalkLawsBesides
namespace Go.Proofs.Ytlkcnfkfccfhmaa
open Go.RowKit
set_option linter.unusedVariables false

theorem bl1 (w : World) (o : Obj) : Below w.heap.size w (w.alloc o) := (Below.refl _ _).alloc (Nat.le_refl _) _
theorem bl2 (w : World) (o o' : Obj) : Below w.heap.size w ((w.alloc o).alloc o') := (bl1 w o).alloc (by simp) _
theorem bl3 (w : World) (o o' o'' : Obj) : Below w.heap.size w (((w.alloc o).alloc o').alloc o'') := (bl2 w o o').alloc (by simp; omega) _

/-- A span as a value. -/
abbrev spanV (f t : Int) : Value := .agg #[.int .i64 f, .int .i64 t]

set_option maxHeartbeats 400000 in
theorem ours_any (f t : Int) (w : World) :
    Calls Try.prog 9 #[.agg #[.int .i64 f, .int .i64 t]] w fun e w' => e = .returned (.agg #[.int .i64 f, .int .i64 t]) ∧ Below w.heap.size w w' := by
  go_enter Try.func9, Try.ntmps9
  go_wp2
  exact bodyPost_ret (v := .agg #[.int .i64 f, .int .i64 t]) (by simp [results, Try.results9, go_sem]) rfl ⟨rfl, bl2 _ _ _⟩

theorem bcell {W w1 : World} (hb : Below W.heap.size W w1) : (∀ b o, b < W.heap.size → w1.cell? ⟨b, o, none⟩ = W.cell? ⟨b, o, none⟩) ∧ (∀ b o, b < W.heap.size → w1.frozen? ⟨b, o, none⟩ = W.frozen? ⟨b, o, none⟩) :=
  ⟨fun b o h => hb.cell (p := ⟨b, o, none⟩) h, fun b o h => hb.frozen (p := ⟨b, o, none⟩) h⟩

set_option maxHeartbeats 400000 in
theorem none_any (f t : Int) (w : World) :
    Calls Try.prog 21 #[.agg #[.int .i64 f, .int .i64 t]] w fun e w' => e = .returned (.bool (decide (t ≤ f))) ∧ Below w.heap.size w w' := by
  go_enter Try.func21, Try.ntmps21
  go_wp2
  go_ret
  exact ⟨rfl, bl1 _ _⟩

theorem ret_b {a b : Bool} (h : a = b) : Ending.returned (.bool a) = .returned (.bool b) := by rw [h]
theorem ret_i {a b : Int} (h : a = b) : Ending.returned (.int .i64 a) = .returned (.int .i64 b) := by rw [h]

def hasB (f t k : Int) : Bool := decide (f ≤ k ∧ k < t)
def meetsB (f t f' t' : Int) : Bool := decide (max f f' < min t t')
def lenF (f t : Int) : Int := if t ≤ f then 0 else min (t - f) 2147483647
def joinF (f t f' t' : Int) : Int × Int := if t ≤ f ∧ t' ≤ f' then (0, 0) else if t ≤ f then (f', t') else if t' ≤ f' then (f, t) else (min f f', max t t')

set_option maxHeartbeats 400000 in
theorem has_any (f t k : Int) (w : World) :
    Calls Try.prog 11 #[.agg #[.int .i64 f, .int .i64 t], .int .i64 k] w fun e w' => e = .returned (.bool (hasB f t k)) ∧ Below w.heap.size w w' := by
  by_cases h : f ≤ k
  · go_enter Try.func11, Try.ntmps11
    go_wp2
    go_ret
    exact ⟨ret_b (by unfold hasB; first | (rw [Bool.eq_iff_iff]; simp; omega)), bl1 _ _⟩
  · go_enter Try.func11, Try.ntmps11
    go_wp2
    go_ret
    exact ⟨ret_b (by unfold hasB; first | (rw [Bool.eq_iff_iff]; simp; omega)), bl1 _ _⟩

set_option maxHeartbeats 400000 in
theorem meets_any (f t f' t' : Int) (w : World) :
    Calls Try.prog 12 #[.agg #[.int .i64 f, .int .i64 t], .agg #[.int .i64 f', .int .i64 t']] w fun e w' => e = .returned (.bool (meetsB f t f' t')) ∧ Below w.heap.size w w' := by
  go_enter Try.func12, Try.ntmps12
  go_wp2
  all_goals
    go_ret
    exact ⟨ret_b (by unfold meetsB; rw [decide_eq_decide]; omega), bl2 _ _ _⟩

theorem none_yes (f t : Int) (w : World) (h : t ≤ f) :
    Calls Try.prog 21 #[.agg #[.int .i64 f, .int .i64 t]] w fun e w' => e = .returned (.bool true) ∧ Below w.heap.size w w' :=
  (none_any f t w).mono fun _ _ ⟨he, hb⟩ => ⟨by rw [he, decide_eq_true h], hb⟩
theorem none_no (f t : Int) (w : World) (h : f < t) :
    Calls Try.prog 21 #[.agg #[.int .i64 f, .int .i64 t]] w fun e w' => e = .returned (.bool false) ∧ Below w.heap.size w w' :=
  (none_any f t w).mono fun _ _ ⟨he, hb⟩ => ⟨by rw [he, decide_eq_false (by omega)], hb⟩

theorem u64_diff (f t : Int) (hf : -9223372036854775808 ≤ f) (ht : t ≤ 9223372036854775807) (h : f < t) : IntKind.u64.wrap (IntKind.u64.wrap t - IntKind.u64.wrap f) = t - f := by
  simp [IntKind.wrap, IntKind.signed, IntKind.bits]
  omega

set_option maxHeartbeats 400000 in
theorem len_any (f t : Int) (w : World) (hf : -9223372036854775808 ≤ f) (hf' : f ≤ 9223372036854775807) (ht : -9223372036854775808 ≤ t) (ht' : t ≤ 9223372036854775807) :
    Calls Try.prog 14 #[.agg #[.int .i64 f, .int .i64 t]] w fun e w' => e = .returned (.int .i64 (lenF f t)) ∧ Below w.heap.size w w' := by
  by_cases h : t ≤ f
  · go_enter Try.func14, Try.ntmps14
    go_wp2_with (go_at_call 21; (with_reducible refine (none_yes _ _ _ (by assumption)).mono ?_); rintro e w1 ⟨rfl, hb1⟩)
    go_ret
    exact ⟨ret_i (by unfold lenF; simp [h]), (bl1 _ _).trans (hb1.mono (by simp))⟩
  · have HU := Lib.hid (u64_diff f t hf ht' (by omega))
    have h' : f < t := by omega
    clear h
    go_enter Try.func14, Try.ntmps14
    go_wp2_with (go_at_call 21; (with_reducible refine (none_no _ _ _ (by assumption)).mono ?_); rintro e w1 ⟨rfl, hb1⟩; obtain ⟨c1, c2⟩ := bcell hb1)
    all_goals
      have HB := (bl1 _ _).trans (hb1.mono (by simp))
      rw [HU.out] at *
      first
        | (go_ret; exact ⟨ret_i (by unfold lenF; rw [if_neg (by omega)]; first | (rw [IntWalk.wrap64_in _ ⟨by omega, by omega⟩]; omega)), HB⟩)

/-- One call more, behind those that were. -/
theorem Below.more {W w1 w2 : World} (h : Below W.heap.size W w1) (h' : Below w1.heap.size w1 w2) : Below W.heap.size W w2 := h.trans (h'.mono h.size)

set_option maxHeartbeats 1000000 in
theorem joined_any (f t f' t' : Int) (w : World) :
    Calls Try.prog 10 #[.agg #[.int .i64 f, .int .i64 t], .agg #[.int .i64 f', .int .i64 t']] w fun e w' => e = .returned (.agg #[.int .i64 (joinF f t f' t').1, .int .i64 (joinF f t f' t').2]) ∧ Below w.heap.size w w' := by
  have hb0 := Below.refl (((w.alloc (.cells #[.int .i64 f, .int .i64 t] 24)).alloc (.cells #[.int .i64 f', .int .i64 t'] 24)).alloc (.cells #[.int .i64 0, .int .i64 0] 24)).heap.size (((w.alloc (.cells #[.int .i64 f, .int .i64 t] 24)).alloc (.cells #[.int .i64 f', .int .i64 t'] 24)).alloc (.cells #[.int .i64 0, .int .i64 0] 24))
  by_cases h : t ≤ f
  · by_cases h' : t' ≤ f'
    · have HE := Lib.hid (show joinF f t f' t' = (0, 0) by unfold joinF; rw [if_pos ⟨h, h'⟩])
      go_enter Try.func10, Try.ntmps10
      go_wp2_with (go_at_call 21; first | ((with_reducible refine (none_yes _ _ _ (by assumption)).mono ?_); rintro e w1 ⟨rfl, hb1⟩; replace hb0 := Below.more hb0 hb1; clear hb1; obtain ⟨c1, c2⟩ := bcell hb0; have hz := hb0.size; simp at hz) | ((with_reducible refine (none_no _ _ _ (by assumption)).mono ?_); rintro e w1 ⟨rfl, hb1⟩; replace hb0 := Below.more hb0 hb1; clear hb1; obtain ⟨c1, c2⟩ := bcell hb0; have hz := hb0.size; simp at hz))
      have HB := (bl3 _ _ _ _).trans (hb0.mono (by simp; omega))
      rw [HE.out]
      exact bodyPost_ret (v := .agg #[.int .i64 0, .int .i64 0]) (by simp [results, Try.results10, go_sem, c1]) rfl ⟨rfl, (HB.setCell (by simp; omega) _).setCell (by simp; omega) _⟩
    · have h2 : f' < t' := by omega
      have HE := Lib.hid (show joinF f t f' t' = (f', t') by unfold joinF; rw [if_neg (fun x => h' x.2), if_pos h])
      go_enter Try.func10, Try.ntmps10
      go_wp2_with (go_at_call 21; first | ((with_reducible refine (none_yes _ _ _ (by assumption)).mono ?_); rintro e w1 ⟨rfl, hb1⟩; replace hb0 := Below.more hb0 hb1; clear hb1; obtain ⟨c1, c2⟩ := bcell hb0; have hz := hb0.size; simp at hz) | ((with_reducible refine (none_no _ _ _ (by assumption)).mono ?_); rintro e w1 ⟨rfl, hb1⟩; replace hb0 := Below.more hb0 hb1; clear hb1; obtain ⟨c1, c2⟩ := bcell hb0; have hz := hb0.size; simp at hz))
      have HB := (bl3 _ _ _ _).trans (hb0.mono (by simp; omega))
      rw [HE.out]
      exact bodyPost_ret (v := .agg #[.int .i64 f', .int .i64 t']) (by simp [results, Try.results10, go_sem, c1]) rfl ⟨rfl, (HB.setCell (by simp; omega) _).setCell (by simp; omega) _⟩
  · have h1 : f < t := by omega
    by_cases h' : t' ≤ f'
    · have HE := Lib.hid (show joinF f t f' t' = (f, t) by unfold joinF; rw [if_neg (fun x => h x.1), if_neg h, if_pos h'])
      go_enter Try.func10, Try.ntmps10
      go_wp2_with (go_at_call 21; first | ((with_reducible refine (none_yes _ _ _ (by assumption)).mono ?_); rintro e w1 ⟨rfl, hb1⟩; replace hb0 := Below.more hb0 hb1; clear hb1; obtain ⟨c1, c2⟩ := bcell hb0; have hz := hb0.size; simp at hz) | ((with_reducible refine (none_no _ _ _ (by assumption)).mono ?_); rintro e w1 ⟨rfl, hb1⟩; replace hb0 := Below.more hb0 hb1; clear hb1; obtain ⟨c1, c2⟩ := bcell hb0; have hz := hb0.size; simp at hz))
      have HB := (bl3 _ _ _ _).trans (hb0.mono (by simp; omega))
      rw [HE.out]
      exact bodyPost_ret (v := .agg #[.int .i64 f, .int .i64 t]) (by simp [results, Try.results10, go_sem, c1]) rfl ⟨rfl, (HB.setCell (by simp; omega) _).setCell (by simp; omega) _⟩
    · have h2 : f' < t' := by omega
      by_cases hm : f' < f <;> by_cases hx : t < t'
      · have HE := Lib.hid (show joinF f t f' t' = (f', t') by unfold joinF; rw [if_neg (fun x => h x.1), if_neg h, if_neg h']; exact Prod.ext (by simp only []; omega) (by simp only []; omega))
        go_enter Try.func10, Try.ntmps10
        go_wp2_with (go_at_call 21; first | ((with_reducible refine (none_yes _ _ _ (by assumption)).mono ?_); rintro e w1 ⟨rfl, hb1⟩; replace hb0 := Below.more hb0 hb1; clear hb1; obtain ⟨c1, c2⟩ := bcell hb0; have hz := hb0.size; simp at hz) | ((with_reducible refine (none_no _ _ _ (by assumption)).mono ?_); rintro e w1 ⟨rfl, hb1⟩; replace hb0 := Below.more hb0 hb1; clear hb1; obtain ⟨c1, c2⟩ := bcell hb0; have hz := hb0.size; simp at hz))
        have HB := (bl3 _ _ _ _).trans (hb0.mono (by simp; omega))
        rw [HE.out]
        exact bodyPost_ret (v := .agg #[.int .i64 f', .int .i64 t']) (by simp [results, Try.results10, go_sem, c1]) rfl ⟨rfl, (HB.setCell (by simp; omega) _).setCell (by simp; omega) _⟩
      · have HE := Lib.hid (show joinF f t f' t' = (f', t) by unfold joinF; rw [if_neg (fun x => h x.1), if_neg h, if_neg h']; exact Prod.ext (by simp only []; omega) (by simp only []; omega))
        go_enter Try.func10, Try.ntmps10
        go_wp2_with (go_at_call 21; first | ((with_reducible refine (none_yes _ _ _ (by assumption)).mono ?_); rintro e w1 ⟨rfl, hb1⟩; replace hb0 := Below.more hb0 hb1; clear hb1; obtain ⟨c1, c2⟩ := bcell hb0; have hz := hb0.size; simp at hz) | ((with_reducible refine (none_no _ _ _ (by assumption)).mono ?_); rintro e w1 ⟨rfl, hb1⟩; replace hb0 := Below.more hb0 hb1; clear hb1; obtain ⟨c1, c2⟩ := bcell hb0; have hz := hb0.size; simp at hz))
        have HB := (bl3 _ _ _ _).trans (hb0.mono (by simp; omega))
        rw [HE.out]
        exact bodyPost_ret (v := .agg #[.int .i64 f', .int .i64 t]) (by simp [results, Try.results10, go_sem, c1]) rfl ⟨rfl, (HB.setCell (by simp; omega) _).setCell (by simp; omega) _⟩
      · have HE := Lib.hid (show joinF f t f' t' = (f, t') by unfold joinF; rw [if_neg (fun x => h x.1), if_neg h, if_neg h']; exact Prod.ext (by simp only []; omega) (by simp only []; omega))
        go_enter Try.func10, Try.ntmps10
        go_wp2_with (go_at_call 21; first | ((with_reducible refine (none_yes _ _ _ (by assumption)).mono ?_); rintro e w1 ⟨rfl, hb1⟩; replace hb0 := Below.more hb0 hb1; clear hb1; obtain ⟨c1, c2⟩ := bcell hb0; have hz := hb0.size; simp at hz) | ((with_reducible refine (none_no _ _ _ (by assumption)).mono ?_); rintro e w1 ⟨rfl, hb1⟩; replace hb0 := Below.more hb0 hb1; clear hb1; obtain ⟨c1, c2⟩ := bcell hb0; have hz := hb0.size; simp at hz))
        have HB := (bl3 _ _ _ _).trans (hb0.mono (by simp; omega))
        rw [HE.out]
        exact bodyPost_ret (v := .agg #[.int .i64 f, .int .i64 t']) (by simp [results, Try.results10, go_sem, c1]) rfl ⟨rfl, (HB.setCell (by simp; omega) _).setCell (by simp; omega) _⟩
      · have HE := Lib.hid (show joinF f t f' t' = (f, t) by unfold joinF; rw [if_neg (fun x => h x.1), if_neg h, if_neg h']; exact Prod.ext (by simp only []; omega) (by simp only []; omega))
        go_enter Try.func10, Try.ntmps10
        go_wp2_with (go_at_call 21; first | ((with_reducible refine (none_yes _ _ _ (by assumption)).mono ?_); rintro e w1 ⟨rfl, hb1⟩; replace hb0 := Below.more hb0 hb1; clear hb1; obtain ⟨c1, c2⟩ := bcell hb0; have hz := hb0.size; simp at hz) | ((with_reducible refine (none_no _ _ _ (by assumption)).mono ?_); rintro e w1 ⟨rfl, hb1⟩; replace hb0 := Below.more hb0 hb1; clear hb1; obtain ⟨c1, c2⟩ := bcell hb0; have hz := hb0.size; simp at hz))
        have HB := (bl3 _ _ _ _).trans (hb0.mono (by simp; omega))
        rw [HE.out]
        exact bodyPost_ret (v := .agg #[.int .i64 f, .int .i64 t]) (by simp [results, Try.results10, go_sem, c1]) rfl ⟨rfl, (HB.setCell (by simp; omega) _).setCell (by simp; omega) _⟩

end Go.Proofs.Ytlkcnfkfccfhmaa
