/-
  RefsNumber: for every row of runes it returns true.
-/
import Derived.Test.YtbljgoieieoamaaRfW
import Derived.Test.YtbljgoieieoamaaRefsLines
import Derived.Test.YtbljgoieieoamaaArgs
namespace Go.Proofs.Ytbljgoieieoamaa
open Go.RowKit
set_option linter.unusedVariables false

set_option maxRecDepth 20000 in
set_option maxHeartbeats 4000000 in
theorem refsNumber_any (a : Option Addr) (len cap : Nat) (zs : List Int) (w : World) (w0 : Arg .i32 w a len cap zs) :
    Says 6 #[.slice a len cap] (.bool true) w w := by
  have R := row100 w0
  obtain ⟨m, hm⟩ : ∃ m, m = min len 100 := ⟨_, rfl⟩
  obtain ⟨l, hl⟩ : ∃ l, l = zs.take 100 := ⟨_, rfl⟩
  rw [← hm, ← hl] at R
  have hm100 : m ≤ 100 := by omega
  have HS := Lib.hid (fun (W : World) => hm ▸ few14_any a len cap W w0.le w0.max)
  have H1 := Lib.hid (fun (W : World) (hb : Below w.heap.size w W) => number_gen (R.below hb) (by omega))
  have H2 := Lib.hid (fun (W : World) (hb : Below w.heap.size w W) => rnum_any (R.below hb) (by omega))
  clear hm hl w0
  have hpos : ∀ v, numV l = some v → 0 ≤ v := fun v hv => by
    unfold numV at hv
    split at hv
    · rename_i h
      rw [Bool.and_eq_true] at h
      cases hv
      have h9 := h.2
      simp [charB, amongB, charT] at h9
      omega
    · cases hv
  cases hv : numV l with
  | none =>
    rw [hv] at H1 H2
    unfold numR at H1
    unfold numI at H2
    clear hv hpos R
    go_enter Try.func6, Try.ntmps6
    go_wp2_with (first
      | (go_at_call 20; (with_reducible refine (HS.out _).mono ?_); rintro e w' ⟨rfl, rfl⟩)
      | (go_at_call 24; (with_reducible refine (H1.out _ (Below.refl _ _)).mono ?_); rintro e w1 ⟨rfl, hb1⟩; have HB1 := Lib.hid hb1; clear hb1)
      | (go_at_call 25; (with_reducible refine (H2.out _ HB1.out).mono ?_); rintro e w2 ⟨rfl, hb2⟩; have HB2 := Lib.hid (Below.more HB1.out hb2); clear hb2)
      | (go_at_call 23; (with_reducible refine (awake14_any _).mono ?_); rintro e w3 ⟨rfl, hb3⟩; have HB3 := Lib.hid (Below.more HB2.out hb3); clear hb3))
    go_ret
    exact ⟨rfl, HB3.out⟩
  | some v =>
    have hv0 := hpos v hv
    rw [hv] at H1 H2
    unfold numR at H1
    unfold numI at H2
    clear hv hpos R
    go_enter Try.func6, Try.ntmps6
    go_wp2_with (first
      | (go_at_call 20; (with_reducible refine (HS.out _).mono ?_); rintro e w' ⟨rfl, rfl⟩)
      | (go_at_call 24; (with_reducible refine (H1.out _ (Below.refl _ _)).mono ?_); rintro e w1 ⟨rfl, hb1⟩; have HB1 := Lib.hid hb1; clear hb1)
      | (go_at_call 25; (with_reducible refine (H2.out _ HB1.out).mono ?_); rintro e w2 ⟨rfl, hb2⟩; have HB2 := Lib.hid (Below.more HB1.out hb2); clear hb2)
      | (go_at_call 23; (with_reducible refine (awake14_any _).mono ?_); rintro e w3 ⟨rfl, hb3⟩; have HB3 := Lib.hid (Below.more HB2.out hb3); clear hb3))
    go_ret
    exact ⟨rfl, HB3.out⟩

end Go.Proofs.Ytbljgoieieoamaa
