/-
  unicode.asciiFold, what it holds where the row lists it; SimpleFold of an ASCII rune.
-/
import Derived.Test.YtmibajofbagphaaDoorSnI
namespace Go.Proofs.YtmibajofbagphaaDoor
open Go.RowKit Go.Lib Go.Shelf

/-- The next rune of an ASCII rune's ring of letters. -/
def foldOf (r : Int) : Int := if r = 107 then 8490 else if r = 115 then 383 else if 65 ≤ r ∧ r ≤ 90 then r + 32 else if 97 ≤ r ∧ r ≤ 122 then r - 32 else r
def foldL : List Int := (List.range 128).map fun c => foldOf (c : Nat)
def foldData : DataW Unit := tabData .u16 foldL
/-- The variable holds the table. -/
def FoldTab (w : World) : Prop := ∀ k : Nat, k < 128 → w.cell? ⟨1, k, none⟩ = some (.int .u16 (foldOf k))

theorem FoldTab.below {w w' : World} (h : FoldTab w) (hb : Below w.heap.size w w') : FoldTab w' := fun k hk => by
  have hc := h k hk
  rw [← hc]
  exact hb.cell (p := ⟨1, k, none⟩) (cell_lt hc)

theorem foldTab_of_reads {w : World} (h : VarReads Tryd.prog w "unicode.asciiFold" foldData) : FoldTab w := by
  intro c hc
  obtain ⟨g, t, cs, fuel, p, hg, hty, hvar, hd⟩ := h
  obtain rfl := Option.some.inj ((show Tryd.prog.globalNamed "unicode.asciiFold" = some 1 by kernel_rfl).symm.trans hg)
  obtain rfl := Option.some.inj ((show (Tryd.prog.globals[1]?).map (·.type) = some 91 by kernel_rfl).symm.trans hty)
  have hcs := cells_of_tab Tryd.underlying91 Tryd.underlying90 (by kernel_rfl) (by kernel_rfl) hd
  have := World.var?_cell hg hvar c
  rw [this, ← Array.getElem?_toList, hcs]
  simp [foldL, hc]

theorem foldOf_bd (k : Nat) (hk : k < 128) : 0 ≤ foldOf k ∧ foldOf k ≤ 65535 := by
  unfold foldOf
  repeat' split
  all_goals omega

set_option maxRecDepth 100000 in
set_option maxHeartbeats 1000000 in
theorem sfold (k : Nat) (hk : k < 128) (w : World) (hT : FoldTab w) : Calls Tryd.prog 54 #[.int .i32 (k : Nat)] w fun e w' => e = .returned (.int .i32 (foldOf k)) ∧ w' = w := by
  have hc := hT k hk
  have hb := foldOf_bd k hk
  have h0 : (0 : Int) ≤ (k : Int) := by omega
  have h1 : (k : Int) ≤ 1114111 := by omega
  have h2 : (k : Int) < 128 := by omega
  generalize foldOf k = F at hc hb ⊢
  clear hT
  go_enter Tryd.func54, Tryd.ntmps54
  go_wp2
  go_ret
  first | exact ⟨rfl, rfl⟩ | exact ⟨by simp; omega, rfl⟩

end Go.Proofs.YtmibajofbagphaaDoor
