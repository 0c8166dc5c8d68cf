/-
  ClassWithin: for every rune it returns true.
-/
import Derived.Test.YtmibajofbagphaaClsE
namespace Go.Proofs.Ytmibajofbagphaa
open Go.RowKit

theorem pubid_at {r : Int} {b : Bool} (h : pubidB r = b) (w : World) :
    Calls Try.prog 11 #[.int .i32 r] w fun e w' => e = .returned (.bool b) ∧ Below w.heap.size w w' := h ▸ pubid_any r w

/-- A call that answers a bool and makes new memory, behind a world that lies behind another one. -/
theorem behind {P : Program} {f : FuncId} {args : Array Value} {b : Bool} {w W : World} (H : ∀ w, Calls P f args w fun e w' => e = .returned (.bool b) ∧ Below w.heap.size w w') (hb : Below w.heap.size w W) :
    Calls P f args W fun e w' => e = .returned (.bool b) ∧ Below w.heap.size w w' :=
  (H W).mono fun _ _ h => ⟨h.1, hb.trans (h.2.mono hb.size)⟩

set_option maxHeartbeats 4000000 in
theorem classWithin_of (r : Int) (s n c p b : Bool) (w : World) (hs : startB r = s) (hn : nameB r = n) (hc : charB r = c) (hp : pubidB r = p) (hb : spaceB r = b)
    (h1 : s = true → n = true) (h2 : n = true → c = true) (h3 : b = true → c = true ∧ n = false) (h4 : p = true → c = true) :
    Calls Try.prog 6 #[.int .i32 r] w fun e w' => e = .returned (.bool true) ∧ Below w.heap.size w w' := by
  have HS := Lib.hid (fun w => start_at hs w)
  have HN := Lib.hid (fun w => name_at hn w)
  have HC := Lib.hid (fun w => char_at hc w)
  have HP := Lib.hid (fun w => pubid_at hp w)
  have HB := Lib.hid (fun w => space_at hb w)
  have HA := Lib.hid (fun w => awake_any w)
  clear hs hn hc hp hb
  cases s <;> cases n <;> cases c <;> cases p <;> cases b <;> simp at h1 h2 h3 h4
  all_goals
    have hb0 := Below.refl w.heap.size w
    go_enter Try.func6, Try.ntmps6
    go_wp2_with (first
      | (go_at_call 14; refine (behind HS.out (by assumption)).mono ?_; rintro e wk ⟨rfl, hbk⟩)
      | (go_at_call 16; refine (behind HN.out (by assumption)).mono ?_; rintro e wk ⟨rfl, hbk⟩)
      | (go_at_call 7; refine (behind HC.out (by assumption)).mono ?_; rintro e wk ⟨rfl, hbk⟩)
      | (go_at_call 11; refine (behind HP.out (by assumption)).mono ?_; rintro e wk ⟨rfl, hbk⟩)
      | (go_at_call 9; refine (HB.out _).mono ?_; rintro e wk ⟨rfl, rfl⟩)
      | (go_at_call 13; refine (behind HA.out (by assumption)).mono ?_; rintro e wk ⟨rfl, hbk⟩))
    go_ret
    exact ⟨rfl, by assumption⟩

theorem classWithin_walk (r : Int) (w : World) :
    Calls Try.prog 6 #[.int .i32 r] w fun e w' => e = .returned (.bool true) ∧ Below w.heap.size w w' :=
  classWithin_of r _ _ _ _ _ w rfl rfl rfl rfl rfl start_name name_char space_char pubid_char

end Go.Proofs.Ytmibajofbagphaa
