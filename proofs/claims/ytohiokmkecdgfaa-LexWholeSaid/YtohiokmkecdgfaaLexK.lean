/-
  Contracts of layer 7: no runes, the chapter's example; the cut.
-/
import Derived.Test.YtohiokmkecdgfaaLexJ
namespace Go.Proofs.Ytohiokmkecdgfaa
open Go.RowKit
set_option linter.unusedVariables false

set_option maxHeartbeats 1000000 in
theorem tokens_none (a : Option Addr) (cap : Nat) (w : World) :
    Calls Try.prog 8 #[.slice a 0 cap] w (OwnToks w []) := by
  have HNX := Lib.hid (fun w' => next_end a 0 cap 0 (by omega) (by omega) w')
  simp only [Int.cast_ofNat_Int] at HNX
  go_enter Try.func8, Try.ntmps8
  go_wp2_with (go_at_call 9; (with_reducible refine (HNX.out _).mono ?_); rintro e w1 ⟨rfl, hb1⟩)
  go_loop [3, 4, 5] (fun v p o => v = .slice none 0 0 ∧ o = .bool false) (fun _ _ _ => 0)
  case atStart => exact ⟨rfl, rfl⟩
  case round =>
    obtain ⟨rfl, rfl⟩ := hrel
    go_wp2
    go_ret
    exact ⟨_, rfl, World.ownsRow_nil _ _ _ _, hb1.alloc hb1.size _⟩

def awakeL : List Int := [97, 60, 98, 62, 38, 120, 59]
def awakeM : List Int := [60, 97, 32, 98, 61, 34, 62]
theorem awake_toks : toks awakeL = [(1, 0, 1, true), (8, 1, 4, true), (2, 4, 7, true)] := by decide +kernel
theorem awake_next : tokP awakeM = (8, 7, false) := by decide +kernel

/-- Runes that were just laid, as a row. -/
theorem laid_row (w : World) (S : List Int) (n : Nat) (hn : S.length = n) (hb : n ≤ 1000) : RRow (w.alloc (.cells (S.map (Value.int .i32)).toArray 21)) w.heap.size 0 n n S :=
  ⟨hn, Nat.le_refl _, by unfold maxLen; omega, laid_at w S⟩

set_option maxHeartbeats 2000000 in
theorem awake_any (w : World) : Calls Try.prog 10 #[] w fun e w' => e = .returned (.bool true) ∧ Below w.heap.size w w' := by
  have HT := Lib.hid (show ∀ w : World, Calls Try.prog 8 #[.slice (some ⟨w.heap.size, 0, none⟩) 7 7] (w.alloc (.cells #[.int .i32 97, .int .i32 60, .int .i32 98, .int .i32 62, .int .i32 38, .int .i32 120, .int .i32 59] 21)) (fun e w' => ∃ a c, e = .returned (.slice a 3 c) ∧ AtCells w' a (toksCells [(1, 0, 1, true), (8, 1, 4, true), (2, 4, 7, true)]) ∧ Below w.heap.size w w') from fun w => by
    have h := tokens_any (laid_row w awakeL 7 rfl (by omega)) (by omega) (by omega)
    rw [awake_toks] at h
    refine h.mono ?_
    rintro e w' ⟨v, rfl, hown, hb⟩
    obtain ⟨a, c, rfl, _⟩ := owns_slice hown
    exact ⟨a, c, rfl, AtCells.of_owns hown, (one_ok w _).trans (hb.mono (by simp))⟩)
  have HN := Lib.hid (show ∀ w : World, Calls Try.prog 9 #[.slice (some ⟨w.heap.size, 0, none⟩) 7 7, .int .i64 0] (w.alloc (.cells #[.int .i32 60, .int .i32 97, .int .i32 32, .int .i32 98, .int .i32 61, .int .i32 34, .int .i32 62] 21)) (fun e w' => e = .returned (.tuple #[tokI 8 0 7 false, .bool true]) ∧ Below w.heap.size w w') from fun w => by
    have h := next_any (laid_row w awakeM 7 rfl (by omega)) 0 (by omega) (t := (8, 7, false)) (by rw [List.drop_zero]; exact awake_next)
    refine h.mono ?_
    rintro e w' ⟨rfl, hb⟩
    exact ⟨rfl, (one_ok w _).trans (hb.mono (by simp))⟩)
  go_enter Try.func10, Try.ntmps10
  go_wp2_with (first
    | (go_at_call 8; (refine (HT.out _).mono ?_); rintro e w1 ⟨a, c, rfl, hat, hb1⟩)
    | (go_at_call 9; (refine (HN.out _).mono ?_); rintro e w2 ⟨rfl, hb2⟩; obtain ⟨b0, o0, rfl, d0⟩ := (hat.below hb2) 0 _ rfl; obtain ⟨b1, o1, hy1, d1⟩ := (hat.below hb2) 4 _ rfl; obtain ⟨b2, o2, hy2, d2⟩ := (hat.below hb2) 8 _ rfl; simp only [Option.some.injEq, Addr.mk.injEq] at hy1 hy2; obtain ⟨rfl, rfl, _⟩ := hy1; obtain ⟨rfl, rfl, _⟩ := hy2; have hlt := cell_lt d0; rw [Nat.add_zero] at d0))
  go_ret
  exact ⟨rfl, (Below.more hb1 hb2).alloc (Below.more hb1 hb2).size _⟩

set_option maxHeartbeats 400000 in
theorem few_any (a : Option Addr) (n cap : Nat) (w : World) (hc : n ≤ cap) (hm : cap ≤ maxLen) :
    Calls Try.prog 7 #[.slice a n cap] w fun e w' => e = .returned (.slice a (min n 160) cap) ∧ w = w' := by
  unfold maxLen at hm
  by_cases h : 160 < n
  · have HM := Lib.hid (show min n 160 = 160 by omega)
    go_enter Try.func7, Try.ntmps7
    go_wp2
    go_ret
    rw [HM.out]
    exact ⟨rfl, rfl⟩
  · have HM := Lib.hid (show min n 160 = n by omega)
    go_enter Try.func7, Try.ntmps7
    go_wp2
    go_ret
    rw [HM.out]
    exact ⟨rfl, rfl⟩

end Go.Proofs.Ytohiokmkecdgfaa
