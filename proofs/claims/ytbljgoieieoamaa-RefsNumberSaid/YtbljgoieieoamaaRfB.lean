/-
  refs: what a reference by number means; Number.
-/
import Derived.Test.YtbljgoieieoamaaRfA
namespace Go.Proofs.Ytbljgoieieoamaa
open Go.RowKit
set_option linter.unusedVariables false

def numIn (l : List Int) : Int := if sw sHo l then worthP 16 ((l.take (l.length - 1)).drop 3) else worthP 10 ((l.take (l.length - 1)).drop 2)
def isNum (l : List Int) : Bool := decide (0 < l.length) && decide ((tokP l).1 = 3) && decide ((tokP l).2.1 = l.length)
def numV (l : List Int) : Option Int := if isNum l && charB (numIn l) then some (numIn l) else none

theorem tok3 {l : List Int} (h : (tokP l).1 = 3) : l.getD 0 0 = 38 ∧ tokP l = refP l := by
  unfold tokP at h ⊢
  by_cases h60 : l.getD 0 0 = 60
  · exfalso
    rw [if_pos h60] at h
    unfold mupP kTok tagT at h
    repeat' split at h
    all_goals simp at h
    all_goals (split at h <;> simp at h)
  · rw [if_neg h60] at h ⊢
    by_cases h38 : l.getD 0 0 = 38
    · rw [if_pos h38]; exact ⟨h38, rfl⟩
    · exfalso
      rw [if_neg h38] at h
      split at h <;> simp at h

theorem num_len {l : List Int} (h : isNum l = true) : 4 ≤ l.length ∧ (sw sHo l = true → 5 ≤ l.length) := by
  unfold isNum at h
  simp only [Bool.and_eq_true, decide_eq_true_eq] at h
  obtain ⟨⟨h0, h1⟩, h2⟩ := h
  obtain ⟨_, h3⟩ := tok3 h1
  rw [h3] at h1 h2
  unfold refP refT at h1 h2
  split at h1
  · rename_i hs
    rw [if_pos hs] at h2
    split at h1
    · simp at h1
    · rename_i hk
      rw [if_neg hk] at h2
      simp only [Bool.or_eq_true, decide_eq_true_eq, not_or] at hk
      simp only at h2
      omega
  · rename_i hs
    rw [if_neg hs] at h2
    split at h1
    · rename_i hs2
      rw [if_pos hs2] at h2
      split at h1
      · simp at h1
      · rename_i hk
        rw [if_neg hk] at h2
        simp only [Bool.or_eq_true, decide_eq_true_eq, not_or] at hk
        simp only at h2
        exact ⟨by omega, fun h => absurd h hs⟩
    · rename_i hs2
      split at h1 <;> simp at h1

set_option maxHeartbeats 400000 in
theorem within_any (b off m cap q : Nat) (s : ByteArray) (hs : s.size = q) (hq : q < m) (hc : m ≤ cap) (hm : cap ≤ maxLen) (w : World) :
    Calls Try.prog 45 #[.slice (some ⟨b, off, none⟩) m cap, .string s] w fun e w' => e = .returned (.slice (some ⟨b, off + q, none⟩) (m - 1 - q) (cap - q)) ∧ w' = w := by
  unfold maxLen at hm
  obtain ⟨p, rfl⟩ : ∃ p, m = p + 1 := ⟨m - 1, by omega⟩
  have h1 : ¬ cap = q := by omega
  have h2 : (q : Int) ≤ (p : Int) := by omega
  have h3 : (p : Int) ≤ (cap : Int) := by omega
  have h4 : IntKind.i64.wrap (p : Int) = (p : Int) := by rw [IntKind.wrap_i64]; omega
  have h5 : q ≤ p := by omega
  have h6 : p ≤ cap := by omega
  clear hc hm hq
  go_enter Try.func45, Try.ntmps45
  go_wp2
  go_ret
  exact ⟨by simp, rfl⟩

theorem ret_rb {a b : Int} {c d : Bool} (h : a = b) (h' : c = d) : Ending.returned (.tuple #[.int .i32 a, .bool c]) = .returned (.tuple #[.int .i32 b, .bool d]) := by rw [h, h']

/-- What Number answers. -/
def numR (o : Option Int) : Value := match o with | some r => .tuple #[.int .i32 r, .bool true] | none => .tuple #[.int .i32 0, .bool false]

set_option maxHeartbeats 1000000 in
theorem number_nil (a : Option Addr) (cap : Nat) (w : World) : Says 24 #[.slice a 0 cap] (numR (numV [])) w w := by
  have HN := Lib.hid (fun (W : World) => show Says 43 #[.slice a 0 cap, .int .i64 0] (.tuple #[tokI 0 0 0 false, .bool false]) W W from by simpa using next_end a 0 cap 0 (Nat.le_refl _) (by omega) W)
  go_enter Try.func24, Try.ntmps24
  go_wp2_with (go_at_call 43; (with_reducible refine (HN.out _).mono ?_); rintro e w1 ⟨rfl, hb1⟩; have HB := Lib.hid hb1; clear hb1)
  go_ret2
  exact ⟨rfl, Below.more HB.out (one_ok _ _)⟩

set_option maxHeartbeats 1000000 in
theorem number_no {b off n cap : Nat} {l : List Int} {w : World} (R : RRow w b off n cap l) (h0 : 0 < n) (h : isNum l = false) : Says 24 #[.slice (some ⟨b, off, none⟩) n cap] (numR (numV l)) w w := by
  have hv : numV l = none := by unfold numV; rw [h]; rfl
  rw [hv]
  obtain ⟨t, ht⟩ : ∃ t, tokP l = t := ⟨_, rfl⟩
  have HN := Lib.hid (fun (W : World) (hb : Below w.heap.size w W) => show Says 43 #[.slice (some ⟨b, off, none⟩) n cap, .int .i64 0] (.tuple #[tokI t.1 0 t.2.1 t.2.2, .bool true]) w W from by
    have h := nextB R 0 h0 (t := t) (by rw [List.drop_zero]; exact ht) W hb
    simpa using h)
  have hcs : ¬ t.1 = 3 ∨ (t.1 = 3 ∧ ¬ t.2.1 = n) := by
    unfold isNum at h
    rw [ht, R.len] at h
    simp only [Bool.and_eq_false_iff, decide_eq_false_iff_not] at h
    omega
  obtain ⟨t1, t2, t3⟩ := t
  simp only at hcs HN
  clear h hv ht R
  rcases hcs with h1 | ⟨h1, h2⟩
  · have h1' : ¬ (t1 : Int) = 3 := by omega
    go_enter Try.func24, Try.ntmps24
    go_wp2_with (go_at_call 43; (with_reducible refine (HN.out _ (Below.refl _ _)).mono ?_); rintro e w1 ⟨rfl, hb1⟩; have HB := Lib.hid hb1; clear hb1)
    go_ret2
    exact ⟨rfl, Below.more HB.out (one_ok _ _)⟩
  · subst h1
    have h2' : ¬ (t2 : Int) = (n : Int) := by omega
    go_enter Try.func24, Try.ntmps24
    go_wp2_with (go_at_call 43; (with_reducible refine (HN.out _ (Below.refl _ _)).mono ?_); rintro e w1 ⟨rfl, hb1⟩; have HB := Lib.hid hb1; clear hb1)
    go_ret2
    exact ⟨rfl, Below.more HB.out (one_ok _ _)⟩

set_option maxRecDepth 20000 in
set_option maxHeartbeats 2000000 in
theorem number_yes {b off n cap : Nat} {l : List Int} {w : World} (R : RRow w b off n cap l) (hn : n ≤ 1000) (h : isNum l = true) : Says 24 #[.slice (some ⟨b, off, none⟩) n cap] (numR (numV l)) w w := by
  obtain ⟨h4, h5⟩ := num_len h
  rw [R.len] at h4 h5
  have hv : numV l = if charB (numIn l) then some (numIn l) else none := by unfold numV; rw [h, Bool.true_and]
  rw [hv]
  have ht : tokP l = (3, n, (tokP l).2.2) := by
    unfold isNum at h
    simp only [Bool.and_eq_true, decide_eq_true_eq] at h
    rw [R.len] at h
    rw [← h.1.2, ← h.2]
  obtain ⟨wh, hwh⟩ : ∃ x, x = (tokP l).2.2 := ⟨_, rfl⟩
  rw [← hwh] at ht
  have HN := Lib.hid (show Says 43 #[.slice (some ⟨b, off, none⟩) n cap, .int .i64 0] (.tuple #[tokI 3 0 n wh, .bool true]) w w from by
    have h := nextB R 0 (by omega) (t := (3, n, wh)) (by rw [List.drop_zero]; exact ht) w (Below.refl _ _)
    simpa using h)
  have hsub : ∀ (W : World) (q : Nat) (base : Int), Below w.heap.size w W → q < n → 0 ≤ base ∧ base ≤ 16 → Calls Try.prog 44 #[.slice (some ⟨b, off + q, none⟩) (n - 1 - q) (cap - q), .int .i32 base] W fun e w' => e = .returned (.int .i32 (worthP base ((l.take (l.length - 1)).drop q))) ∧ Below W.heap.size W w' := fun W q base hb hq hbase => by
    refine worth_any _ _ _ _ base W ?_ (by omega) hbase ?_
    · rw [List.length_drop, List.length_take, R.len]; omega
    · have h9 := ((R.cells.below hb).take (l.length - 1)).drop q
      rw [List.map_drop, List.map_take]; exact h9
  have HW := Lib.hid hsub
  have HI1 := Lib.hid (fun (W : World) => within_any b off n cap 2 ⟨#[38, 35]⟩ rfl (by omega) R.le R.max W)
  cases hx : sw sHo l with
  | false =>
    have hnum : numIn l = worthP 10 ((l.take (l.length - 1)).drop 2) := by unfold numIn; rw [hx]; rfl
    have HST := Lib.hid (fun (W : World) (hb : Below w.heap.size w W) => show Says 46 #[.slice (some ⟨b, off, none⟩) n cap, .int .i64 0, .string ⟨#[38, 35, 120]⟩] (.bool false) w W from by
      have h := startsB R sHoS 0 (by omega) (v := false) (by rw [List.drop_zero]; exact hx) W hb
      simpa using h)
    rw [hnum]
    obtain ⟨v, hvv⟩ : ∃ v, v = worthP 10 ((l.take (l.length - 1)).drop 2) := ⟨_, rfl⟩
    have HW1 := Lib.hid (fun (W : World) (hb : Below w.heap.size w W) => show Calls Try.prog 44 #[.slice (some ⟨b, off + 2, none⟩) (n - 1 - 2) (cap - 2), .int .i32 10] W fun e w' => e = .returned (.int .i32 v) ∧ Below W.heap.size W w' from hvv ▸ hsub W 2 10 hb (by omega) (by omega))
    rw [← hvv]
    cases hc : charB v
    all_goals
      have HC := Lib.hid (fun (W : World) => char_at hc W)
      clear hv hx hnum hvv hc ht hwh h h5 HW hsub R
      go_enter Try.func24, Try.ntmps24
      go_wp2_with (first
        | (go_at_call 43; (with_reducible refine HN.out.mono ?_); rintro e w1 ⟨rfl, hb1⟩; have HB1 := Lib.hid (fun o => Below.more hb1 (one_ok w1 o)); clear hb1)
        | (go_at_call 45; (with_reducible refine (HI1.out _).mono ?_); rintro e w2 ⟨rfl, rfl⟩)
        | (go_at_call 44; (with_reducible refine (HW1.out _ (HB1.out _)).mono ?_); rintro e w3 ⟨rfl, hb3⟩; have HB3 := Lib.hid (Below.more (HB1.out _) hb3); clear hb3)
        | (go_at_call 46; (with_reducible refine (HST.out _ HB3.out).mono ?_); rintro e w4 ⟨rfl, hb4⟩; have HB4 := Lib.hid hb4; clear hb4)
        | (go_at_call 47; (with_reducible refine (HC.out _).mono ?_); rintro e w5 ⟨rfl, hb5⟩; have HB5 := Lib.hid (Below.more HB4.out hb5); clear hb5))
      go_ret2
      exact ⟨rfl, HB5.out⟩
  | true =>
    have hnum : numIn l = worthP 16 ((l.take (l.length - 1)).drop 3) := by unfold numIn; rw [hx]; rfl
    have h5' := h5 hx
    have HI3 := Lib.hid (fun (W : World) => within_any b off n cap 3 ⟨#[38, 35, 120]⟩ rfl (by omega) R.le R.max W)
    have HW0 := Lib.hid (fun (W : World) (hb : Below w.heap.size w W) => hsub W 2 10 hb (by omega) (by omega))
    have HST := Lib.hid (fun (W : World) (hb : Below w.heap.size w W) => show Says 46 #[.slice (some ⟨b, off, none⟩) n cap, .int .i64 0, .string ⟨#[38, 35, 120]⟩] (.bool true) w W from by
      have h := startsB R sHoS 0 (by omega) (v := true) (by rw [List.drop_zero]; exact hx) W hb
      simpa using h)
    rw [hnum]
    obtain ⟨v, hvv⟩ : ∃ v, v = worthP 16 ((l.take (l.length - 1)).drop 3) := ⟨_, rfl⟩
    have HW1 := Lib.hid (fun (W : World) (hb : Below w.heap.size w W) => show Calls Try.prog 44 #[.slice (some ⟨b, off + 3, none⟩) (n - 1 - 3) (cap - 3), .int .i32 16] W fun e w' => e = .returned (.int .i32 v) ∧ Below W.heap.size W w' from hvv ▸ hsub W 3 16 hb (by omega) (by omega))
    rw [← hvv]
    cases hc : charB v
    all_goals
      have HC := Lib.hid (fun (W : World) => char_at hc W)
      clear hv hx hnum hvv hc ht hwh h h5 HW hsub R
      go_enter Try.func24, Try.ntmps24
      go_wp2_with (first
        | (go_at_call 43; (with_reducible refine HN.out.mono ?_); rintro e w1 ⟨rfl, hb1⟩; have HB1 := Lib.hid (fun o => Below.more hb1 (one_ok w1 o)); clear hb1)
        | (go_at_call 45; (with_reducible refine (HI1.out _).mono ?_); rintro e w2 ⟨rfl, rfl⟩)
        | (go_at_call 45; (with_reducible refine (HI3.out _).mono ?_); rintro e w2 ⟨rfl, rfl⟩)
        | (go_at_call 44; (with_reducible refine (HW0.out _ (HB1.out _)).mono ?_); rintro e w3 ⟨rfl, hb3⟩; have HB3 := Lib.hid (Below.more (HB1.out _) hb3); clear hb3)
        | (go_at_call 44; (with_reducible refine (HW1.out _ HB4.out).mono ?_); rintro e w3 ⟨rfl, hb3⟩; have HB6 := Lib.hid (Below.more HB4.out hb3); clear hb3)
        | (go_at_call 46; (with_reducible refine (HST.out _ HB3.out).mono ?_); rintro e w4 ⟨rfl, hb4⟩; have HB4 := Lib.hid hb4; clear hb4)
        | (go_at_call 47; (with_reducible refine (HC.out _).mono ?_); rintro e w5 ⟨rfl, hb5⟩; have HB5 := Lib.hid (Below.more HB6.out hb5); clear hb5))
      go_ret2
      exact ⟨rfl, HB5.out⟩


end Go.Proofs.Ytbljgoieieoamaa
