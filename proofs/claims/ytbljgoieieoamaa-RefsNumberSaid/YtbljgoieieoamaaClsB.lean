/-
  Contracts of layer 4: Char, NameStart, NameChar, Space, Digit, Hex, and the reference's.
-/
import Derived.Test.YtbljgoieieoamaaClsA
namespace Go.Proofs.Ytbljgoieieoamaa
open Go.RowKit

def charT : List (Int × Int) := [(32, 55295), (9, 10), (13, 13), (57344, 65533), (65536, 1114111)]
def startT : List (Int × Int) := [(97, 122), (65, 90), (95, 95), (58, 58), (192, 214), (216, 246), (248, 767), (880, 893), (895, 8191), (8204, 8205), (8304, 8591), (11264, 12271), (12289, 55295), (63744, 64975), (65008, 65533), (65536, 983039)]
def moreT : List (Int × Int) := [(48, 57), (45, 46), (183, 183), (768, 879), (8255, 8256)]
def charB (r : Int) : Bool := amongB r charT
def startB (r : Int) : Bool := amongB r startT
def nameB (r : Int) : Bool := startB r || amongB r moreT
def spaceB (r : Int) : Bool := decide (r = 9) || decide (r = 10) || decide (r = 13) || decide (r = 32)

set_option maxHeartbeats 400000 in
theorem char_any (r : Int) (w : World) :
    Calls Try.prog 47 #[.int .i32 r] w fun e w' => e = .returned (.bool (charB r)) ∧ Below w.heap.size w w' := by
  have H := Lib.hid (among_lit r charT 5)
  go_enter Try.func47, Try.ntmps47
  go_wp2_with (go_at_call 74; refine (H.out _ rfl (by omega)).mono ?_; rintro e w' ⟨rfl, hb⟩)
  go_ret
  exact ⟨rfl, hb⟩

set_option maxHeartbeats 400000 in
theorem start_any (r : Int) (w : World) :
    Calls Try.prog 92 #[.int .i32 r] w fun e w' => e = .returned (.bool (startB r)) ∧ Below w.heap.size w w' := by
  have H := Lib.hid (among_lit r startT 16)
  go_enter Try.func92, Try.ntmps92
  go_wp2_with (go_at_call 74; refine (H.out _ rfl (by omega)).mono ?_; rintro e w' ⟨rfl, hb⟩)
  go_ret
  exact ⟨rfl, hb⟩

set_option maxHeartbeats 400000 in
theorem name_any (r : Int) (w : World) :
    Calls Try.prog 107 #[.int .i32 r] w fun e w' => e = .returned (.bool (nameB r)) ∧ Below w.heap.size w w' := by
  have H := Lib.hid (among_lit r moreT 5)
  cases hs : startB r
  · have HS := Lib.hid (show ∀ w, Calls Try.prog 92 #[.int .i32 r] w fun e w' => e = .returned (.bool false) ∧ Below w.heap.size w w' from fun w => hs ▸ start_any r w)
    have HF := Lib.hid (show nameB r = amongB r moreT by simp [nameB, hs])
    clear hs
    go_enter Try.func107, Try.ntmps107
    go_wp2_with (first
      | (go_at_call 92; refine (HS.out _).mono ?_; rintro e w1 ⟨rfl, hb1⟩)
      | (go_at_call 74; refine (H.out _ rfl (by omega)).mono ?_; rintro e w' ⟨rfl, hb⟩))
    go_ret
    exact ⟨by rw [HF.out]; rfl, hb1.trans (hb.mono hb1.size)⟩
  · have HS := Lib.hid (show ∀ w, Calls Try.prog 92 #[.int .i32 r] w fun e w' => e = .returned (.bool true) ∧ Below w.heap.size w w' from fun w => hs ▸ start_any r w)
    have HF := Lib.hid (show nameB r = true by simp [nameB, hs])
    clear hs
    go_enter Try.func107, Try.ntmps107
    go_wp2_with (go_at_call 92; refine (HS.out _).mono ?_; rintro e w1 ⟨rfl, hb1⟩)
    go_ret
    exact ⟨by rw [HF.out]; rfl, hb1⟩



/-- What a contract for a range says, where it is known whether the number is in it. -/
theorem is_yes {r lo hi : Int} (h : lo ≤ r ∧ r ≤ hi) (w : World) :
    Calls Try.prog 75 #[.int .i32 r, .int .i32 lo, .int .i32 hi] w fun e w' => e = .returned (.bool true) ∧ w = w' := by
  have := is_any r lo hi w
  rwa [show isB r lo hi = true by simp [isB, h.1, h.2]] at this
theorem is_no {r lo hi : Int} (h : r < lo ∨ hi < r) (w : World) :
    Calls Try.prog 75 #[.int .i32 r, .int .i32 lo, .int .i32 hi] w fun e w' => e = .returned (.bool false) ∧ w = w' := by
  have := is_any r lo hi w
  rwa [show isB r lo hi = false by simp [isB]; omega] at this

theorem digit_yes (r : Int) (w : World) (h0 : 48 ≤ r) (h1 : r ≤ 57) :
    Calls Try.prog 97 #[.int .i32 r] w fun e w' => e = .returned (.tuple #[.int .i64 (r - 48), .bool true]) ∧ w = w' := by
  go_enter Try.func97, Try.ntmps97
  go_wp2
  go_ret2
  exact ⟨rfl, rfl⟩
theorem digit_low (r : Int) (w : World) (h0 : r < 48) :
    Calls Try.prog 97 #[.int .i32 r] w fun e w' => e = .returned (.tuple #[.int .i64 0, .bool false]) ∧ w = w' := by
  go_enter Try.func97, Try.ntmps97
  go_wp2
  go_ret2
  exact ⟨rfl, rfl⟩
theorem digit_high (r : Int) (w : World) (h0 : 57 < r) :
    Calls Try.prog 97 #[.int .i32 r] w fun e w' => e = .returned (.tuple #[.int .i64 0, .bool false]) ∧ w = w' := by
  have h1 : 48 ≤ r := by omega
  go_enter Try.func97, Try.ntmps97
  go_wp2
  go_ret2
  exact ⟨rfl, rfl⟩
theorem digit_no (r : Int) (w : World) (h0 : r < 48 ∨ 57 < r) :
    Calls Try.prog 97 #[.int .i32 r] w fun e w' => e = .returned (.tuple #[.int .i64 0, .bool false]) ∧ w = w' := by
  rcases h0 with h | h
  · exact digit_low r w h
  · exact digit_high r w h

end Go.Proofs.Ytbljgoieieoamaa
