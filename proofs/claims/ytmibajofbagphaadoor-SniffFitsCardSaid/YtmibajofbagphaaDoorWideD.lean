/-
  What the pieces of layer 2 are like, and its example: awake.
-/
import Derived.Test.YtmibajofbagphaaDoorWideB
import Derived.Test.YtmibajofbagphaaDoorScanD
namespace Go.Proofs.YtmibajofbagphaaDoor
open Go.RowKit

theorem wfrom_spec (zs : List Int) (big : Bool) (n : Nat) : ∀ fuel pos, n ≤ pos + fuel → pos ≤ n →
    atOff (U16.itemsFrom zs big n fuel pos) n 0 = pos ∧ ∀ k x, (U16.itemsFrom zs big n fuel pos)[k]? = some x →
      (1 ≤ x.2.2 ∧ 0 ≤ x.2.1 ∧ x.2.1 + x.2.2 ≤ (n : Int)) ∧ atOff (U16.itemsFrom zs big n fuel pos) n (k + 1) = x.2.1 + x.2.2 := by
  intro fuel
  induction fuel with
  | zero =>
    intro pos h1 h2
    refine ⟨by simp [U16.itemsFrom, atOff]; omega, fun k x h => by simp [U16.itemsFrom] at h⟩
  | succ f ih =>
    intro pos h1 h2
    by_cases hp : pos < n
    · obtain ⟨hk1, hk4, hkn⟩ := U16.piece_n zs big n pos hp
      have ho : (U16.itemAt zs big n pos).2.1 = (pos : Int) := rfl
      have ho2 : (U16.itemAt zs big n pos).2.2 = (U16.piece zs big n pos).2 := rfl
      have hstep : U16.itemsFrom zs big n (f + 1) pos = U16.itemAt zs big n pos :: U16.itemsFrom zs big n f (pos + (U16.piece zs big n pos).2.toNat) := by simp [U16.itemsFrom, hp]
      obtain ⟨i1, i2⟩ := ih (pos + (U16.piece zs big n pos).2.toNat) (by omega) (by omega)
      rw [hstep]
      refine ⟨by simp [atOff, ho], fun k x h => ?_⟩
      cases k with
      | zero =>
        simp at h; subst h
        refine ⟨by rw [ho, ho2]; omega, ?_⟩
        rw [atOff_cons_succ, i1, ho, ho2]; omega
      | succ k =>
        simp at h
        obtain ⟨g, e⟩ := i2 k x h
        exact ⟨g, by rw [atOff_cons_succ]; exact e⟩
    · rw [U16.itemsFrom_end zs big n _ pos hp]
      exact ⟨by simp [atOff]; omega, fun k x h => by simp at h⟩

theorem witems_spec (zs : List Int) (big : Bool) (n : Nat) : atOff (U16.items zs big n) n 0 = 0 ∧ ∀ k x, (U16.items zs big n)[k]? = some x →
    (1 ≤ x.2.2 ∧ 0 ≤ x.2.1 ∧ x.2.1 + x.2.2 ≤ (n : Int)) ∧ atOff (U16.items zs big n) n k = x.2.1 ∧ atOff (U16.items zs big n) n (k + 1) = x.2.1 + x.2.2 := by
  obtain ⟨h1, h2⟩ := wfrom_spec zs big n n 0 (by omega) (by omega)
  exact ⟨by simpa [U16.items] using h1, fun k x h => ⟨(h2 k x h).1, atOff_some h, (h2 k x h).2⟩⟩

theorem wawake_items : U16.items [0, 65, 216, 0, 0] true 5 = [(65, 0, 2), (-1, 2, 2), (-1, 4, 1)] := by decide +kernel

/-- Three pieces that were just answered. -/
def ThreeItems (w : World) (l : List (Int × Int × Int)) (e : Ending) (w' : World) : Prop :=
  ∃ g cap, e = .returned (.slice (some ⟨g, 0, none⟩) 3 cap) ∧ (∀ j u, (itemsCells l)[j]? = some u → w'.cell? ⟨g, j, none⟩ = some u) ∧ Below w.heap.size w w'

theorem wawake_call (w : World) :
    Calls Tryd.prog 42 #[.slice (some ⟨w.heap.size, 0, none⟩) 5 5, .bool true] (w.alloc (.cells #[.int .u8 0, .int .u8 65, .int .u8 216, .int .u8 0, .int .u8 0] 5))
      (ThreeItems w [(65, 0, 2), (-1, 2, 2), (-1, 4, 1)]) := by
  have HC : AtCells (w.alloc (.cells #[.int .u8 0, .int .u8 65, .int .u8 216, .int .u8 0, .int .u8 0] 5)) (some ⟨w.heap.size, 0, none⟩) ([0, 65, 216, 0, 0].map (Value.int .u8)) :=
    AtCells.of_owns (World.ownsRow_lit (base := w.heap.size) (e := 5) (size := 1) w #[.int .u8 0, .int .u8 65, .int .u8 216, .int .u8 0, .int .u8 0] 5 (Nat.le_refl _) (by unfold maxLen; omega) rfl)
  refine (witems_any true _ 5 5 [0, 65, 216, 0, 0] _ rfl (Nat.le_refl _) (by omega) HC (by unfold U16.Byte; decide)).mono ?_
  rw [wawake_items]
  rintro e w' ⟨v, rfl, hown, hb⟩
  obtain ⟨a, cap, rfl, _⟩ := owns_slice hown
  have hat := AtCells.of_owns hown
  obtain ⟨g, off, rfl, h0⟩ := hat 0 (.int .i32 65) rfl
  have hg : off = 0 := by
    obtain ⟨_, ⟨h1, _⟩ | ⟨g', c, cur, h1, _⟩⟩ := hown
    · simp at h1
    · simp at h1; omega
  subst hg
  refine ⟨g, cap, rfl, fun j u hj => ?_, ((Below.refl _ _).alloc (Nat.le_refl _) _).trans (hb.mono (by simp))⟩
  obtain ⟨b', o', he, hc⟩ := hat j u hj
  simp only [Option.some.injEq, Addr.mk.injEq] at he
  obtain ⟨rfl, rfl, _⟩ := he
  simpa using hc

end Go.Proofs.YtmibajofbagphaaDoor
