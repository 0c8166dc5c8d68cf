/-
  RefsKnown: for every name it returns true.
-/
import Derived.Test.YtbljgoieieoamaaRfK
namespace Go.Proofs.Ytbljgoieieoamaa
open Go.RowKit
set_option linter.unusedVariables false

set_option maxHeartbeats 2000000 in
theorem refsKnown_any (s : ByteArray) (w : World) : Says 7 #[.string s] (.bool true) w w := by
  have HK := Lib.hid (fun (W : World) => known_any s W)
  have HR := Lib.hid (fun (W : World) => refKnown_any s W)
  have hbd := knI_bd s
  obtain ⟨k, hk⟩ : ∃ k, k = knI s := ⟨_, rfl⟩
  rw [← hk] at HK HR hbd
  clear hk
  rcases hbd with rfl | ⟨h1, h2⟩
  · have hv : knV (-1) = .tuple #[.int .i32 0, .bool false] := rfl
    rw [hv] at HK
    clear hv
    go_enter Try.func7, Try.ntmps7
    go_wp2_with (first
      | (go_at_call 26; (with_reducible refine (HK.out _).mono ?_); rintro e w1 ⟨rfl, rfl⟩)
      | (go_at_call 27; (with_reducible refine (HR.out _).mono ?_); rintro e w2 ⟨rfl, hb2⟩; have HB2 := Lib.hid hb2; clear hb2)
      | (go_at_call 23; (with_reducible refine (awake14_any _).mono ?_); rintro e w3 ⟨rfl, hb3⟩; have HB3 := Lib.hid (Below.more HB2.out hb3); clear hb3))
    go_ret
    exact ⟨rfl, HB3.out⟩
  · have hv : knV k = .tuple #[.int .i32 k, .bool true] := by unfold knV; rw [if_neg (by omega)]
    rw [hv] at HK
    have h3 : (0 : Int) ≤ k := by omega
    clear hv h1 h2
    go_enter Try.func7, Try.ntmps7
    go_wp2_with (first
      | (go_at_call 26; (with_reducible refine (HK.out _).mono ?_); rintro e w1 ⟨rfl, rfl⟩)
      | (go_at_call 27; (with_reducible refine (HR.out _).mono ?_); rintro e w2 ⟨rfl, hb2⟩; have HB2 := Lib.hid hb2; clear hb2)
      | (go_at_call 23; (with_reducible refine (awake14_any _).mono ?_); rintro e w3 ⟨rfl, hb3⟩; have HB3 := Lib.hid (Below.more HB2.out hb3); clear hb3))
    go_ret
    exact ⟨rfl, HB3.out⟩

end Go.Proofs.Ytbljgoieieoamaa
