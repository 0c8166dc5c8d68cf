/-
  Contracts of layer 4: Char, NameStart, NameChar, Space, Digit, Hex, and the reference's.
-/
import Derived.Test.YtpjcheelafegbaaClsA
namespace Go.Proofs.Ytpjcheelafegbaa
open Go.RowKit

def charT : List (Int × Int) := [(32, 55295), (9, 10), (13, 13), (57344, 65533), (65536, 1114111)]
def startT : List (Int × Int) := [(97, 122), (65, 90), (95, 95), (58, 58), (192, 214), (216, 246), (248, 767), (880, 893), (895, 8191), (8204, 8205), (8304, 8591), (11264, 12271), (12289, 55295), (63744, 64975), (65008, 65533), (65536, 983039)]
def moreT : List (Int × Int) := [(48, 57), (45, 46), (183, 183), (768, 879), (8255, 8256)]
def charB (r : Int) : Bool := amongB r charT
def startB (r : Int) : Bool := amongB r startT
def nameB (r : Int) : Bool := startB r || amongB r moreT
def spaceB (r : Int) : Bool := decide (r = 9) || decide (r = 10) || decide (r = 13) || decide (r = 32)


set_option maxHeartbeats 400000 in
theorem start_any (r : Int) (w : World) :
    Calls Try.prog 80 #[.int .i32 r] w fun e w' => e = .returned (.bool (startB r)) ∧ Below w.heap.size w w' := by
  have H := Lib.hid (among_lit r startT 16)
  go_enter Try.func80, Try.ntmps80
  go_wp2_with (go_at_call 94; refine (H.out _ rfl (by omega)).mono ?_; rintro e w' ⟨rfl, hb⟩)
  go_ret
  exact ⟨rfl, hb⟩

set_option maxHeartbeats 400000 in
theorem name_any (r : Int) (w : World) :
    Calls Try.prog 95 #[.int .i32 r] w fun e w' => e = .returned (.bool (nameB r)) ∧ Below w.heap.size w w' := by
  have H := Lib.hid (among_lit r moreT 5)
  cases hs : startB r
  · have HS := Lib.hid (show ∀ w, Calls Try.prog 80 #[.int .i32 r] w fun e w' => e = .returned (.bool false) ∧ Below w.heap.size w w' from fun w => hs ▸ start_any r w)
    have HF := Lib.hid (show nameB r = amongB r moreT by simp [nameB, hs])
    clear hs
    go_enter Try.func95, Try.ntmps95
    go_wp2_with (first
      | (go_at_call 80; refine (HS.out _).mono ?_; rintro e w1 ⟨rfl, hb1⟩)
      | (go_at_call 94; refine (H.out _ rfl (by omega)).mono ?_; rintro e w' ⟨rfl, hb⟩))
    go_ret
    exact ⟨by rw [HF.out]; rfl, hb1.trans (hb.mono hb1.size)⟩
  · have HS := Lib.hid (show ∀ w, Calls Try.prog 80 #[.int .i32 r] w fun e w' => e = .returned (.bool true) ∧ Below w.heap.size w w' from fun w => hs ▸ start_any r w)
    have HF := Lib.hid (show nameB r = true by simp [nameB, hs])
    clear hs
    go_enter Try.func95, Try.ntmps95
    go_wp2_with (go_at_call 80; refine (HS.out _).mono ?_; rintro e w1 ⟨rfl, hb1⟩)
    go_ret
    exact ⟨by rw [HF.out]; rfl, hb1⟩

set_option maxHeartbeats 400000 in
theorem space_any (r : Int) (w : World) :
    Calls Try.prog 78 #[.int .i32 r] w fun e w' => e = .returned (.bool (spaceB r)) ∧ w = w' := by
  by_cases h : r = 9 ∨ r = 10 ∨ r = 13 ∨ r = 32
  · have HF := Lib.hid (show spaceB r = true by unfold spaceB; simp; omega)
    rcases h with rfl | rfl | rfl | rfl
    all_goals
      go_enter Try.func78, Try.ntmps78
      go_wp2
      go_ret
      exact ⟨by rw [HF.out]; rfl, rfl⟩
  · have HF := Lib.hid (show spaceB r = false by unfold spaceB; simp; omega)
    have e1 : (r == 9) = false := by simp; omega
    have e2 : (r == 10) = false := by simp; omega
    have e3 : (r == 13) = false := by simp; omega
    have e4 : (r == 32) = false := by simp; omega
    clear h
    go_enter Try.func78, Try.ntmps78
    go_wp2
    go_ret
    exact ⟨by rw [HF.out]; rfl, rfl⟩

set_option maxHeartbeats 400000 in
theorem refSpace_any (r : Int) (w : World) :
    Calls Try.prog 62 #[.int .i32 r] w fun e w' => e = .returned (.bool (spaceB r)) ∧ w = w' := by
  by_cases h : r = 9 ∨ r = 10 ∨ r = 13 ∨ r = 32
  · have HF := Lib.hid (show spaceB r = true by unfold spaceB; simp; omega)
    rcases h with rfl | rfl | rfl | rfl
    all_goals
      go_enter Try.func62, Try.ntmps62
      go_wp2
      go_ret
      exact ⟨by rw [HF.out]; rfl, rfl⟩
  · have HF := Lib.hid (show spaceB r = false by unfold spaceB; simp; omega)
    have e1 : (r == 9) = false := by simp; omega
    have e2 : (r == 10) = false := by simp; omega
    have e3 : (r == 13) = false := by simp; omega
    have e4 : (r == 32) = false := by simp; omega
    clear h
    go_enter Try.func62, Try.ntmps62
    go_wp2
    go_ret
    exact ⟨by rw [HF.out]; rfl, rfl⟩

/-- What a contract for a range says, where it is known whether the number is in it. -/
theorem is_yes {r lo hi : Int} (h : lo ≤ r ∧ r ≤ hi) (w : World) :
    Calls Try.prog 91 #[.int .i32 r, .int .i32 lo, .int .i32 hi] w fun e w' => e = .returned (.bool true) ∧ w = w' := by
  have := is_any r lo hi w
  rwa [show isB r lo hi = true by simp [isB, h.1, h.2]] at this
theorem is_no {r lo hi : Int} (h : r < lo ∨ hi < r) (w : World) :
    Calls Try.prog 91 #[.int .i32 r, .int .i32 lo, .int .i32 hi] w fun e w' => e = .returned (.bool false) ∧ w = w' := by
  have := is_any r lo hi w
  rwa [show isB r lo hi = false by simp [isB]; omega] at this


end Go.Proofs.Ytpjcheelafegbaa
