/-
  ClassChar: for every rune it returns true.
-/
import Derived.Test.YtmibajofbagphaaClsE
namespace Go.Proofs.Ytmibajofbagphaa
open Go.RowKit

set_option maxHeartbeats 1000000 in
theorem classChar_walk (r : Int) (w : World) :
    Calls Try.prog 3 #[.int .i32 r] w fun e w' => e = .returned (.bool true) ∧ Below w.heap.size w w' := by
  go_enter Try.func3, Try.ntmps3
  go_wp2_with (first
    | (go_at_call 7; refine (char_any _ _).mono ?_; rintro e w1 ⟨rfl, hb1⟩)
    | (go_at_call 8; refine (refChar_any _ _).mono ?_; rintro e w' ⟨rfl, rfl⟩)
    | (go_at_call 9; refine (space_any _ _).mono ?_; rintro e w' ⟨rfl, rfl⟩)
    | (go_at_call 10; refine (refSpace_any _ _).mono ?_; rintro e w' ⟨rfl, rfl⟩)
    | (go_at_call 11; refine (pubid_any _ _).mono ?_; rintro e w2 ⟨rfl, hb2⟩)
    | (go_at_call 12; refine (refPubid_any _ _).mono ?_; rintro e w4 ⟨rfl, hb4⟩)
    | (go_at_call 13; refine (awake_any _).mono ?_; rintro e w3 ⟨rfl, hb3⟩))
  go_ret
  have h2 := hb1.trans (hb2.mono hb1.size)
  have h4 := h2.trans (hb4.mono h2.size)
  exact ⟨rfl, h4.trans (hb3.mono h4.size)⟩

end Go.Proofs.Ytmibajofbagphaa
