/-
  ClassDigit: for every rune it returns true.
-/
import Derived.Test.YtmibajofbagphaaClsC
namespace Go.Proofs.Ytmibajofbagphaa
open Go.RowKit

/-- What a digit is worth, as a call that answers it. -/
def Worth (v : Int) (ok : Bool) (w : World) (e : Ending) (w' : World) : Prop := e = .returned (.tuple #[.int .i64 v, .bool ok]) ∧ w = w'

theorem hex_low (r : Int) (w : World) (h0 : 97 ≤ r) (h1 : r ≤ 102) :
    Calls Try.prog 19 #[.int .i32 r] w (Worth (r - 87) true w) := by
  go_enter Try.func19, Try.ntmps19
  go_wp2
  go_ret2
  exact ⟨by rw [show r - 97 + 10 = r - 87 by omega]; rfl, rfl⟩
theorem hex_great (r : Int) (w : World) (h0 : 65 ≤ r) (h1 : r ≤ 70) :
    Calls Try.prog 19 #[.int .i32 r] w (Worth (r - 55) true w) := by
  have h2 : ¬ 97 ≤ r := by omega
  go_enter Try.func19, Try.ntmps19
  go_wp2
  go_ret2
  exact ⟨by rw [show r - 65 + 10 = r - 55 by omega]; rfl, rfl⟩
theorem hex_else (r : Int) (v : Int) (ok : Bool) (w : World) (h0 : r < 65 ∨ 70 < r) (h1 : r < 97 ∨ 102 < r) (H : ∀ w, Calls Try.prog 18 #[.int .i32 r] w (Worth v ok w)) :
    Calls Try.prog 19 #[.int .i32 r] w (Worth v ok w) := by
  have HH := Lib.hid H
  clear H
  go_enter Try.func19, Try.ntmps19
  rcases h0 with h0 | h0
  · have h2 : ¬ 97 ≤ r := by omega
    have h3 : ¬ 65 ≤ r := by omega
    clear h1 h0
    go_wp2_with (go_at_call 18; refine (HH.out _).mono ?_; rintro e w' ⟨rfl, rfl⟩)
    go_ret2
    exact ⟨rfl, rfl⟩
  · have h2 : 65 ≤ r := by omega
    have h3 : ¬ r ≤ 70 := by omega
    rcases h1 with h1 | h1
    · have h4 : ¬ 97 ≤ r := by omega
      clear h1 h0
      go_wp2_with (go_at_call 18; refine (HH.out _).mono ?_; rintro e w' ⟨rfl, rfl⟩)
      go_ret2
      exact ⟨rfl, rfl⟩
    · have h4 : 97 ≤ r := by omega
      have h5 : ¬ r ≤ 102 := by omega
      clear h1 h0
      go_wp2_with (go_at_call 18; refine (HH.out _).mono ?_; rintro e w' ⟨rfl, rfl⟩)
      go_ret2
      exact ⟨rfl, rfl⟩

/-- What the reference says a digit is worth. -/
def refWorth (r base : Int) : Int :=
  let v := if 48 ≤ r ∧ r ≤ 57 then r - 48 else if 97 ≤ r ∧ r ≤ 102 then r - 87 else if 65 ≤ r ∧ r ≤ 70 then r - 55 else -1
  if base ≤ v then -1 else v

theorem ret_int {k : IntKind} {a b : Int} (h : a = b) : Ending.returned (.int k a) = .returned (.int k b) := by rw [h]

set_option maxHeartbeats 1000000 in
theorem refDigit_any (r base : Int) (w : World) :
    Calls Try.prog 20 #[.int .i32 r, .int .i64 base] w fun e w' => e = .returned (.int .i64 (refWorth r base)) ∧ w = w' := by
  go_enter Try.func20, Try.ntmps20
  go_wp2_with (go_at_call 22; refine (is_dec _ _ _ _).mono ?_; rintro e w' ⟨rfl, rfl⟩)
  all_goals
    go_ret
    refine ⟨ret_int ?_, rfl⟩
    simp only [refWorth]
    repeat' split
    all_goals first | rfl | omega | (simp; omega)

theorem refDigit_at {r base v : Int} (h : refWorth r base = v) (w : World) :
    Calls Try.prog 20 #[.int .i32 r, .int .i64 base] w fun e w' => e = .returned (.int .i64 v) ∧ w = w' := h ▸ refDigit_any r base w

/-- The law, where it is known what is told. -/
theorem classDigit_of (r d h a b : Int) (ok is : Bool) (w : World)
    (HD : ∀ w, Calls Try.prog 18 #[.int .i32 r] w (Worth d ok w)) (HH : ∀ w, Calls Try.prog 19 #[.int .i32 r] w (Worth h is w))
    (HA : refWorth r 10 = a) (HB : refWorth r 16 = b) (ha : (ok = true ∧ d = a ∧ 0 ≤ a) ∨ (ok = false ∧ d = 0 ∧ a = -1)) (hb : (is = true ∧ h = b ∧ 0 ≤ b) ∨ (is = false ∧ h = 0 ∧ b = -1)) :
    Calls Try.prog 5 #[.int .i32 r] w fun e w' => e = .returned (.bool true) ∧ Below w.heap.size w w' := by
  have HD' := Lib.hid HD
  have HH' := Lib.hid HH
  have HA' := Lib.hid (refDigit_at HA)
  have HB' := Lib.hid (refDigit_at HB)
  clear HD HH HA HB
  rcases ha with ⟨rfl, rfl, ha⟩ | ⟨rfl, rfl, rfl⟩ <;> rcases hb with ⟨rfl, rfl, hb⟩ | ⟨rfl, rfl, rfl⟩
  all_goals
    go_enter Try.func5, Try.ntmps5
    go_wp2_with fail
    refine (HD'.out _).mono ?_
    rintro e w' ⟨rfl, rfl⟩
    go_wp2_with fail
    refine (HH'.out _).mono ?_
    rintro e w' ⟨rfl, rfl⟩
    go_wp2_with fail
    refine (HA'.out _).mono ?_
    rintro e w' ⟨rfl, rfl⟩
    go_wp2_with fail
    refine (HB'.out _).mono ?_
    rintro e w' ⟨rfl, rfl⟩
    go_wp2_with (go_at_call 13; refine (awake_any _).mono ?_; rintro e w3 ⟨rfl, hb3⟩)
    go_ret
    exact ⟨rfl, hb3⟩

theorem classDigit_walk (r : Int) (w : World) :
    Calls Try.prog 5 #[.int .i32 r] w fun e w' => e = .returned (.bool true) ∧ Below w.heap.size w w' := by
  have e : ∀ base, refWorth r base = refWorth r base := fun _ => rfl
  by_cases h1 : 48 ≤ r ∧ r ≤ 57
  · exact classDigit_of r (r - 48) (r - 48) (r - 48) (r - 48) true true w (fun w => digit_yes r w h1.1 h1.2) (fun w => hex_else r _ _ w (by omega) (by omega) fun w => digit_yes r w h1.1 h1.2)
      (by unfold refWorth; simp only [if_pos h1]; rw [if_neg (by omega)]) (by unfold refWorth; simp only [if_pos h1]; rw [if_neg (by omega)]) (.inl ⟨rfl, rfl, by omega⟩) (.inl ⟨rfl, rfl, by omega⟩)
  · by_cases h2 : 97 ≤ r ∧ r ≤ 102
    · exact classDigit_of r 0 (r - 87) (-1) (r - 87) false true w (fun w => digit_no r w (by omega)) (fun w => hex_low r w h2.1 h2.2)
        (by unfold refWorth; simp only [if_neg h1, if_pos h2]; rw [if_pos (by omega)]) (by unfold refWorth; simp only [if_neg h1, if_pos h2]; rw [if_neg (by omega)]) (.inr ⟨rfl, rfl, rfl⟩) (.inl ⟨rfl, rfl, by omega⟩)
    · by_cases h3 : 65 ≤ r ∧ r ≤ 70
      · exact classDigit_of r 0 (r - 55) (-1) (r - 55) false true w (fun w => digit_no r w (by omega)) (fun w => hex_great r w h3.1 h3.2)
          (by unfold refWorth; simp only [if_neg h1, if_neg h2, if_pos h3]; rw [if_pos (by omega)]) (by unfold refWorth; simp only [if_neg h1, if_neg h2, if_pos h3]; rw [if_neg (by omega)]) (.inr ⟨rfl, rfl, rfl⟩) (.inl ⟨rfl, rfl, by omega⟩)
      · exact classDigit_of r 0 0 (-1) (-1) false false w (fun w => digit_no r w (by omega)) (fun w => hex_else r _ _ w (by omega) (by omega) fun w => digit_no r w (by omega))
          (by unfold refWorth; simp only [if_neg h1, if_neg h2, if_neg h3]; rfl) (by unfold refWorth; simp only [if_neg h1, if_neg h2, if_neg h3]; rfl) (.inr ⟨rfl, rfl, rfl⟩) (.inr ⟨rfl, rfl, rfl⟩)

end Go.Proofs.Ytmibajofbagphaa
