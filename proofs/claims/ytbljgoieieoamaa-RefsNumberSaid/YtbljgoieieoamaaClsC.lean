/-
  Contracts of layer 4: the reference's Char, NameStart, NameChar; the example of the chapter.
-/
import Derived.Test.YtbljgoieieoamaaClsB
namespace Go.Proofs.Ytbljgoieieoamaa
open Go.RowKit

theorem ret_bool {a b : Bool} (h : a = b) : Ending.returned (.bool a) = .returned (.bool b) := by rw [h]

theorem is_dec (r lo hi : Int) (w : World) :
    Calls Try.prog 75 #[.int .i32 r, .int .i32 lo, .int .i32 hi] w fun e w' => e = .returned (.bool (decide (lo ≤ r ∧ r ≤ hi))) ∧ w = w' := by
  have := is_any r lo hi w
  rwa [show isB r lo hi = decide (lo ≤ r ∧ r ≤ hi) by rw [Bool.eq_iff_iff]; simp [isB]] at this

set_option maxHeartbeats 1000000 in
theorem refChar_any (r : Int) (w : World) :
    Calls Try.prog 49 #[.int .i32 r] w fun e w' => e = .returned (.bool (charB r)) ∧ w = w' := by
  go_enter Try.func49, Try.ntmps49
  go_wp2_with (go_at_call 75; refine (is_dec _ _ _ _).mono ?_; rintro e w' ⟨rfl, rfl⟩)
  all_goals
    go_ret
    refine ⟨ret_bool ?_, rfl⟩
    rw [Bool.eq_iff_iff]; simp [charB, amongB, charT]; omega

set_option maxHeartbeats 1000000 in
theorem letter_any (r : Int) (w : World) :
    Calls Try.prog 84 #[.int .i32 r] w fun e w' => e = .returned (.bool (decide ((97 ≤ r ∧ r ≤ 122) ∨ (65 ≤ r ∧ r ≤ 90)))) ∧ w = w' := by
  go_enter Try.func84, Try.ntmps84
  go_wp2_with (go_at_call 75; refine (is_dec _ _ _ _).mono ?_; rintro e w' ⟨rfl, rfl⟩)
  all_goals
    go_ret
    refine ⟨ret_bool ?_, rfl⟩
    rw [Bool.eq_iff_iff]; simp <;> omega

set_option maxHeartbeats 4000000 in
theorem refStart_any (r : Int) (w : World) :
    Calls Try.prog 65 #[.int .i32 r] w fun e w' => e = .returned (.bool (startB r)) ∧ w = w' := by
  go_enter Try.func65, Try.ntmps65
  go_wp2_with (first
    | (go_at_call 84; refine (letter_any _ _).mono ?_; rintro e w' ⟨rfl, rfl⟩)
    | (go_at_call 75; refine (is_dec _ _ _ _).mono ?_; rintro e w' ⟨rfl, rfl⟩))
  all_goals
    go_ret
    refine ⟨ret_bool ?_, rfl⟩
    rw [Bool.eq_iff_iff]; simp [startB, amongB, startT]; first | omega | (simp only [beq_iff_eq, beq_eq_false_iff_ne, ne_eq] at *; omega)

set_option maxHeartbeats 2000000 in
theorem refName_any (r : Int) (w : World) :
    Calls Try.prog 103 #[.int .i32 r] w fun e w' => e = .returned (.bool (nameB r)) ∧ w = w' := by
  cases hs : startB r
  · have HS := Lib.hid (show ∀ w, Calls Try.prog 65 #[.int .i32 r] w fun e w' => e = .returned (.bool false) ∧ w = w' from fun w => hs ▸ refStart_any r w)
    have HF := Lib.hid (show nameB r = amongB r moreT by simp [nameB, hs])
    clear hs
    go_enter Try.func103, Try.ntmps103
    go_wp2_with (first
      | (go_at_call 65; refine (HS.out _).mono ?_; rintro e w1 ⟨rfl, rfl⟩)
      | (go_at_call 75; refine (is_dec _ _ _ _).mono ?_; rintro e w' ⟨rfl, rfl⟩))
    all_goals
      go_ret
      refine ⟨ret_bool ?_, rfl⟩
      rw [HF.out, Bool.eq_iff_iff]; simp [amongB, moreT]; omega
  · have HS := Lib.hid (show ∀ w, Calls Try.prog 65 #[.int .i32 r] w fun e w' => e = .returned (.bool true) ∧ w = w' from fun w => hs ▸ refStart_any r w)
    have HF := Lib.hid (show nameB r = true by simp [nameB, hs])
    clear hs
    go_enter Try.func103, Try.ntmps103
    go_wp2_with (go_at_call 65; refine (HS.out _).mono ?_; rintro e w1 ⟨rfl, rfl⟩)
    go_ret
    exact ⟨by rw [HF.out]; rfl, rfl⟩

theorem start_at {r : Int} {b : Bool} (h : startB r = b) (w : World) :
    Calls Try.prog 92 #[.int .i32 r] w fun e w' => e = .returned (.bool b) ∧ Below w.heap.size w w' := h ▸ start_any r w
theorem name_at {r : Int} {b : Bool} (h : nameB r = b) (w : World) :
    Calls Try.prog 107 #[.int .i32 r] w fun e w' => e = .returned (.bool b) ∧ Below w.heap.size w w' := h ▸ name_any r w
theorem char_at {r : Int} {b : Bool} (h : charB r = b) (w : World) :
    Calls Try.prog 47 #[.int .i32 r] w fun e w' => e = .returned (.bool b) ∧ Below w.heap.size w w' := h ▸ char_any r w


end Go.Proofs.Ytbljgoieieoamaa
