/-
  Contract of layer 8: Parts of any row, from any place up to any place.
-/
import Derived.Test.YtblebkpnjeghoaaTagH
namespace Go.Proofs.Ytblebkpnjeghoaa
open Go.RowKit
set_option linter.unusedVariables false

set_option maxHeartbeats 1000000 in
theorem starts0 (a : Option Addr) (cap : Nat) (s : ByteArray) (hs : 0 < s.size) (hs2 : s.size ≤ 20) (w : World) :
    Calls Try.prog 83 #[.slice a 0 cap, .int .i64 0, .string s] w fun e w' => e = .returned (.bool false) ∧ w' = w := by
  have h1 : (0 : Int) - 0 < s.size := by omega
  have h2 : decide ((0 : Int) < (s.size : Int)) = true := decide_eq_true (by omega)
  go_enter Try.func83, Try.ntmps83
  go_wp2
  go_ret
  exact ⟨rfl, rfl⟩

set_option maxHeartbeats 1000000 in
theorem opening0 (a : Option Addr) (cap : Nat) (w : World) :
    Says 100 #[.slice a 0 cap, .int .i64 0] (.tuple #[parI 0 0 0, .bool false]) w w := by
  have HS1 := Lib.hid (fun w => starts0 a cap ⟨#[60, 47]⟩ (by decide) (by decide) w)
  have HS2 := Lib.hid (fun w => starts0 a cap ⟨#[60]⟩ (by decide) (by decide) w)
  go_enter Try.func100, Try.ntmps100
  go_wp2
  go_loop [7, 10] (fun _s i => ∃ j : Nat, j ≤ 2 ∧ i = .int .i64 j) (fun _ i => 2 - (intOf i).toNat)
  case atStart => exact ⟨0, by omega, rfl⟩
  case round =>
    obtain ⟨j, hj, rfl⟩ := hrel
    rcases (show j = 0 ∨ j = 1 ∨ j = 2 by omega) with rfl | rfl | rfl
    · go_wp2_with (go_at_call 83; (with_reducible refine (HS1.out _).mono ?_); rintro e w1 ⟨rfl, rfl⟩)
      go_round
      case rel => exact ⟨1, by omega, by go_num⟩
      case measure => simp [intOf]
    · go_wp2_with (go_at_call 83; (with_reducible refine (HS2.out _).mono ?_); rintro e w1 ⟨rfl, rfl⟩)
      go_round
      case rel => exact ⟨2, by omega, by go_num⟩
      case measure => simp [intOf]
    · go_wp2
      refine bodyPost_ret (v := .tuple #[parI 0 0 0, .bool false]) ?_ rfl ⟨rfl, ?_⟩
      · simp [results, Try.results100, go_sem, parI]
      · have HB2 := two_ok w parB (.cells #[.string ⟨#[60, 47]⟩, .string ⟨#[60]⟩] 9)
        exact HB2

set_option maxHeartbeats 1000000 in
theorem parts0 (a : Option Addr) (cap : Nat) (w : World) :
    Calls Try.prog 75 #[.slice a 0 cap, .int .i64 0, .int .i64 0] w (OwnPars w []) := by
  have HN := Lib.hid (opening0 a cap w)
  go_enter Try.func75, Try.ntmps75
  go_wp2_with (go_at_call 100; (with_reducible refine HN.out.mono ?_); rintro e w1 ⟨rfl, hb1⟩)
  go_loop [1, 7, 10] (fun fv v _p => fv = .int .i64 0 ∧ v = .slice none 0 0) (fun _ _ _ => 0)
  case atStart => exact ⟨rfl, rfl⟩
  case round =>
    obtain ⟨rfl, rfl⟩ := hrel
    go_wp2
    go_ret
    exact ⟨_, rfl, World.ownsRow_nil _ _ _ _, hb1.alloc hb1.size _⟩

set_option maxHeartbeats 1000000 in
theorem partsBad (a : Option Addr) (n cap : Nat) (f t : Int) (h : f < 0 ∨ t < f ∨ (n : Int) < t) (w : World) :
    Calls Try.prog 75 #[.slice a n cap, .int .i64 f, .int .i64 t] w (OwnPars w []) := by
  by_cases h1 : f < 0
  · go_enter Try.func75, Try.ntmps75
    go_wp2
    go_ret
    exact ⟨_, rfl, World.ownsRow_nil _ _ _ _, Below.refl _ _⟩
  · by_cases h2 : t < f
    · have h1' : 0 ≤ f := by omega
      go_enter Try.func75, Try.ntmps75
      go_wp2
      go_ret
      exact ⟨_, rfl, World.ownsRow_nil _ _ _ _, Below.refl _ _⟩
    · have h3 : (n : Int) < t := by omega
      have h1' : 0 ≤ f := by omega
      have h2' : f ≤ t := by omega
      clear h
      go_enter Try.func75, Try.ntmps75
      go_wp2
      go_ret
      exact ⟨_, rfl, World.ownsRow_nil _ _ _ _, Below.refl _ _⟩

theorem parts_row (a : Option Addr) (n cap : Nat) (l : List Int) (w : World) (hl : l.length = n) (hc : n ≤ cap) (hm : cap ≤ maxLen) (hn : n ≤ 1000) (hat : AtCells w a (l.map (.int .i32))) (f t : Int) :
    Calls Try.prog 75 #[.slice a n cap, .int .i64 f, .int .i64 t] w (OwnPars w (parts l f t)) := by
  by_cases h : f < 0 ∨ t < f ∨ (n : Int) < t
  · have : parts l f t = [] := by unfold parts; rw [if_pos (by rw [hl]; exact h)]
    rw [this]
    exact partsBad a n cap f t h w
  · have hp : parts l f t = parS f.toNat ((l.take t.toNat).drop f.toNat) := by unfold parts; rw [if_neg (by rw [hl]; exact h)]
    rw [hp]
    obtain ⟨f, rfl⟩ : ∃ k : Nat, f = k := ⟨f.toNat, by omega⟩
    obtain ⟨t, rfl⟩ : ∃ k : Nat, t = k := ⟨t.toNat, by omega⟩
    simp only [Int.toNat_natCast]
    cases n with
    | zero =>
      obtain rfl : f = 0 := by omega
      obtain rfl : t = 0 := by omega
      have : l = [] := List.length_eq_zero_iff.1 hl
      subst this
      exact parts0 a cap w
    | succ n =>
      obtain ⟨b, off, rfl, _⟩ := hat.int (k := 0) (by omega)
      have R : RRow w b off (n + 1) cap l := ⟨hl, hc, hm, hat⟩
      cases ho : opn ((l.take t).drop f) with
      | none => exact parts_none R f t (by omega) (by omega) (by omega) ho
      | some o => exact parts_some R f t (by omega) (by omega) (by omega) o ho

end Go.Proofs.Ytblebkpnjeghoaa
