/-
  Contracts of layer 4: the reference's Char, NameStart, NameChar; the example of the chapter.
-/
import Derived.Test.YtmibajofbagphaaClsB
namespace Go.Proofs.Ytmibajofbagphaa
open Go.RowKit

theorem ret_bool {a b : Bool} (h : a = b) : Ending.returned (.bool a) = .returned (.bool b) := by rw [h]

theorem is_dec (r lo hi : Int) (w : World) :
    Calls Try.prog 22 #[.int .i32 r, .int .i32 lo, .int .i32 hi] w fun e w' => e = .returned (.bool (decide (lo ≤ r ∧ r ≤ hi))) ∧ w = w' := by
  have := is_any r lo hi w
  rwa [show isB r lo hi = decide (lo ≤ r ∧ r ≤ hi) by rw [Bool.eq_iff_iff]; simp [isB]] at this

set_option maxHeartbeats 1000000 in
theorem refChar_any (r : Int) (w : World) :
    Calls Try.prog 8 #[.int .i32 r] w fun e w' => e = .returned (.bool (charB r)) ∧ w = w' := by
  go_enter Try.func8, Try.ntmps8
  go_wp2_with (go_at_call 22; refine (is_dec _ _ _ _).mono ?_; rintro e w' ⟨rfl, rfl⟩)
  all_goals
    go_ret
    refine ⟨ret_bool ?_, rfl⟩
    rw [Bool.eq_iff_iff]; simp [charB, amongB, charT]; omega

set_option maxHeartbeats 1000000 in
theorem letter_any (r : Int) (w : World) :
    Calls Try.prog 24 #[.int .i32 r] w fun e w' => e = .returned (.bool (decide ((97 ≤ r ∧ r ≤ 122) ∨ (65 ≤ r ∧ r ≤ 90)))) ∧ w = w' := by
  go_enter Try.func24, Try.ntmps24
  go_wp2_with (go_at_call 22; refine (is_dec _ _ _ _).mono ?_; rintro e w' ⟨rfl, rfl⟩)
  all_goals
    go_ret
    refine ⟨ret_bool ?_, rfl⟩
    rw [Bool.eq_iff_iff]; simp <;> omega

set_option maxHeartbeats 4000000 in
theorem refStart_any (r : Int) (w : World) :
    Calls Try.prog 15 #[.int .i32 r] w fun e w' => e = .returned (.bool (startB r)) ∧ w = w' := by
  go_enter Try.func15, Try.ntmps15
  go_wp2_with (first
    | (go_at_call 24; refine (letter_any _ _).mono ?_; rintro e w' ⟨rfl, rfl⟩)
    | (go_at_call 22; refine (is_dec _ _ _ _).mono ?_; rintro e w' ⟨rfl, rfl⟩))
  all_goals
    go_ret
    refine ⟨ret_bool ?_, rfl⟩
    rw [Bool.eq_iff_iff]; simp [startB, amongB, startT]; first | omega | (simp only [beq_iff_eq, beq_eq_false_iff_ne, ne_eq, not_or] at *; omega)

set_option maxHeartbeats 2000000 in
theorem refName_any (r : Int) (w : World) :
    Calls Try.prog 17 #[.int .i32 r] w fun e w' => e = .returned (.bool (nameB r)) ∧ w = w' := by
  cases hs : startB r
  · have HS := Lib.hid (show ∀ w, Calls Try.prog 15 #[.int .i32 r] w fun e w' => e = .returned (.bool false) ∧ w = w' from fun w => hs ▸ refStart_any r w)
    have HF := Lib.hid (show nameB r = amongB r moreT by simp [nameB, hs])
    clear hs
    go_enter Try.func17, Try.ntmps17
    go_wp2_with (first
      | (go_at_call 15; refine (HS.out _).mono ?_; rintro e w1 ⟨rfl, rfl⟩)
      | (go_at_call 22; refine (is_dec _ _ _ _).mono ?_; rintro e w' ⟨rfl, rfl⟩))
    all_goals
      go_ret
      refine ⟨ret_bool ?_, rfl⟩
      rw [HF.out, Bool.eq_iff_iff]; simp [amongB, moreT]; omega
  · have HS := Lib.hid (show ∀ w, Calls Try.prog 15 #[.int .i32 r] w fun e w' => e = .returned (.bool true) ∧ w = w' from fun w => hs ▸ refStart_any r w)
    have HF := Lib.hid (show nameB r = true by simp [nameB, hs])
    clear hs
    go_enter Try.func17, Try.ntmps17
    go_wp2_with (go_at_call 15; refine (HS.out _).mono ?_; rintro e w1 ⟨rfl, rfl⟩)
    go_ret
    exact ⟨by rw [HF.out]; rfl, rfl⟩

theorem start_at {r : Int} {b : Bool} (h : startB r = b) (w : World) :
    Calls Try.prog 14 #[.int .i32 r] w fun e w' => e = .returned (.bool b) ∧ Below w.heap.size w w' := h ▸ start_any r w
theorem name_at {r : Int} {b : Bool} (h : nameB r = b) (w : World) :
    Calls Try.prog 16 #[.int .i32 r] w fun e w' => e = .returned (.bool b) ∧ Below w.heap.size w w' := h ▸ name_any r w
theorem char_at {r : Int} {b : Bool} (h : charB r = b) (w : World) :
    Calls Try.prog 7 #[.int .i32 r] w fun e w' => e = .returned (.bool b) ∧ Below w.heap.size w w' := h ▸ char_any r w
theorem space_at {r : Int} {b : Bool} (h : spaceB r = b) (w : World) :
    Calls Try.prog 9 #[.int .i32 r] w fun e w' => e = .returned (.bool b) ∧ w = w' := h ▸ space_any r w

set_option maxHeartbeats 1000000 in
theorem awake_any (w : World) :
    Calls Try.prog 13 #[] w fun e w' => e = .returned (.bool true) ∧ Below w.heap.size w w' := by
  have H1 := Lib.hid (start_at (r := 58) (b := true) (by decide +kernel))
  have H2 := Lib.hid (name_at (r := 45) (b := true) (by decide +kernel))
  have H3 := Lib.hid (start_at (r := 45) (b := false) (by decide +kernel))
  have H4 := Lib.hid (char_at (r := 65534) (b := false) (by decide +kernel))
  have H5 := Lib.hid (char_at (r := 65533) (b := true) (by decide +kernel))
  go_enter Try.func13, Try.ntmps13
  go_wp2_with fail
  refine (H1.out _).mono ?_
  rintro e w1 ⟨rfl, hb1⟩
  go_wp2_with fail
  refine (H2.out _).mono ?_
  rintro e w2 ⟨rfl, hb2⟩
  go_wp2_with fail
  refine (H3.out _).mono ?_
  rintro e w3 ⟨rfl, hb3⟩
  go_wp2_with fail
  refine (H4.out _).mono ?_
  rintro e w4 ⟨rfl, hb4⟩
  go_wp2_with fail
  refine (H5.out _).mono ?_
  rintro e w5 ⟨rfl, hb5⟩
  go_wp2
  go_ret
  have h2 := hb1.trans (hb2.mono hb1.size)
  have h3 := h2.trans (hb3.mono h2.size)
  have h4 := h3.trans (hb4.mono h3.size)
  exact ⟨rfl, h4.trans (hb5.mono h4.size)⟩

end Go.Proofs.Ytmibajofbagphaa
