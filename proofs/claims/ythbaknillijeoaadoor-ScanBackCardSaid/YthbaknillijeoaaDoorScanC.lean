/-
  The example of chapter 1, as the statements ask it: awake.
-/
import Derived.Test.YthbaknillijeoaaDoorScanB
namespace Go.Proofs.YthbaknillijeoaaDoor
open Go.RowKit

theorem awake_items : itemsOf (strOfNums [195, 169, 255]) = [(233, 0, 2), (-1, 2, 1)] := by decide +kernel

theorem two_items {w : World} {B : Nat} {v : Value} {a0 a1 a2 b0 b1 b2 : Value} (h : w.ownsRow B 30 3 v 2 [a0, a1, a2, b0, b1, b2]) :
    ∃ g cap, v = .slice (some ⟨g, 0, none⟩) 2 cap ∧ w.cell? ⟨g, 0, none⟩ = some a0 ∧ w.cell? ⟨g, 1, none⟩ = some a1 ∧ w.cell? ⟨g, 2, none⟩ = some a2 ∧ w.cell? ⟨g, 3, none⟩ = some b0 ∧ w.cell? ⟨g, 4, none⟩ = some b1 ∧ w.cell? ⟨g, 5, none⟩ = some b2 := by
  obtain ⟨a, cap, rfl, _⟩ := owns_slice h
  have hat := AtCells.of_owns h
  obtain ⟨g, off, rfl, h0⟩ := hat 0 a0 rfl
  have hg : off = 0 := by
    obtain ⟨_, ⟨h1, _⟩ | ⟨g', c, cur, h1, _⟩⟩ := h
    · simp at h1
    · simp at h1; omega
  subst hg
  have hh : ∀ (j : Nat) (u : Value), [a0, a1, a2, b0, b1, b2][j]? = some u → w.cell? ⟨g, 0 + j, none⟩ = some u := fun j u hj => by
    obtain ⟨b', o', he, hc⟩ := hat j u hj
    simp only [Option.some.injEq, Addr.mk.injEq] at he
    obtain ⟨rfl, rfl, _⟩ := he
    exact hc
  exact ⟨g, cap, rfl, by simpa using hh 0 a0 rfl, by simpa using hh 1 a1 rfl, by simpa using hh 2 a2 rfl, by simpa using hh 3 b0 rfl, by simpa using hh 4 b1 rfl, by simpa using hh 5 b2 rfl⟩

/-- Two pieces that were just answered. -/
def TwoItems (w : World) (a0 a1 a2 b0 b1 b2 : Value) (e : Ending) (w' : World) : Prop :=
  ∃ g cap, e = .returned (.slice (some ⟨g, 0, none⟩) 2 cap) ∧ w'.cell? ⟨g, 0, none⟩ = some a0 ∧ w'.cell? ⟨g, 1, none⟩ = some a1 ∧ w'.cell? ⟨g, 2, none⟩ = some a2 ∧ w'.cell? ⟨g, 3, none⟩ = some b0 ∧ w'.cell? ⟨g, 4, none⟩ = some b1 ∧ w'.cell? ⟨g, 5, none⟩ = some b2 ∧ Below w.heap.size w w'

theorem awake_call (w : World) :
    Calls Tryd.prog 7 #[.slice (some ⟨w.heap.size, 0, none⟩) 3 3] (w.alloc (.cells #[.int .u8 195, .int .u8 169, .int .u8 255] 5))
      (TwoItems w (.int .i32 233) (.int .i64 0) (.int .i64 2) (.int .i32 (-1)) (.int .i64 2) (.int .i64 1)) := by
  have HC : AtCells (w.alloc (.cells #[.int .u8 195, .int .u8 169, .int .u8 255] 5)) (some ⟨w.heap.size, 0, none⟩) ([195, 169, 255].map (Value.int .u8)) :=
    AtCells.of_owns (World.ownsRow_lit (base := w.heap.size) (e := 5) (size := 1) w #[.int .u8 195, .int .u8 169, .int .u8 255] 3 (Nat.le_refl _) (by unfold maxLen; omega) rfl)
  refine (items_any _ 3 3 [195, 169, 255] _ rfl (by omega) HC).mono ?_
  rw [awake_items]
  rintro e w' ⟨v, rfl, hown, hb⟩
  obtain ⟨g, cap, rfl, h0, h1, h2, h3, h4, h5⟩ := two_items hown
  exact ⟨g, cap, rfl, h0, h1, h2, h3, h4, h5, ((Below.refl _ _).alloc (Nat.le_refl _) _).trans (hb.mono (by simp))⟩

set_option maxHeartbeats 1000000 in
theorem awake_any (w : World) :
    Calls Tryd.prog 10 #[] w fun e w' => e = .returned (.bool true) ∧ Below w.heap.size w w' := by
  go_enter Tryd.func10, Tryd.ntmps10
  go_wp2_with (go_at_call 7; refine (awake_call _).mono ?_; rintro e w' ⟨g, cap, rfl, h0, h1, h2, h3, h4, h5, hb⟩)
  go_ret
  exact ⟨rfl, hb⟩

end Go.Proofs.YthbaknillijeoaaDoor
