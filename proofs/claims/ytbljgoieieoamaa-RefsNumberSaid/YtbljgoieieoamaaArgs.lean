/-
  From how a slice that came in is told (open_ints) to what the walks ask.
-/
import Derived.Test.YtbljgoieieoamaaRows0
import Derived.OpenShut
import Derived.ProofKit
namespace Go.Proofs.Ytbljgoieieoamaa
open Go.RowKit

theorem at_of_cells {w : World} {x : Addr} {k : IntKind} {zs : List Int} (h : ∀ i, i < zs.length → w.cell? (x.add i) = some (.int k (zs.getD i 0))) : AtCells w (some x) (zs.map (Value.int k)) := by
  intro j u hj
  have hlt : j < zs.length := by
    by_cases hj' : j < zs.length
    · exact hj'
    · rw [List.getElem?_eq_none (by simp; omega)] at hj; simp at hj
  obtain ⟨b, off, spot⟩ := x
  have h0 := h 0 (by omega)
  have hs : spot = none := by simpa [Addr.add] using World.cell?_spot h0
  subst hs
  refine ⟨b, off, rfl, ?_⟩
  have h1 := h j hlt
  have hu : u = .int k (zs.getD j 0) := by simp [hlt] at hj; simp [hlt, hj]
  rw [hu]
  by_cases hz : j = 0
  · subst hz; simpa [Addr.add] using h1
  · simpa [Addr.add, hz] using h1

/-- What the walks ask of a slice of integers that came in. -/
structure Arg (k : IntKind) (w : World) (a : Option Addr) (len cap : Nat) (zs : List Int) : Prop where
  le : len ≤ cap
  max : cap ≤ maxLen
  length : zs.length = len
  cells : AtCells w a (zs.map (Value.int k))
  wf : ∀ z ∈ zs, (Lit.int k z).wf = true
  nil : a = .none → cap = 0
  spot : ∀ x, a = .some x → 0 < cap → x.spot = .none

theorem Arg.none (k : IntKind) (w : World) : Arg k w .none 0 0 [] := ⟨Nat.le_refl _, by unfold maxLen; omega, rfl, AtCells.nil _ _, by simp, fun _ => rfl, fun _ h => by cases h⟩
theorem Arg.some {k : IntKind} {w : World} {x : Addr} {len cap : Nat} {zs : List Int} (hl : len ≤ cap) (hm : cap ≤ maxLen) (hz : zs.length = cap)
    (hc : ∀ i, i < zs.length → w.cell? (x.add i) = .some (.int k (zs.getD i 0))) (hw : ∀ n ∈ zs, (Lit.int k n).wf = true) : Arg k w (.some x) len cap (zs.take len) :=
  ⟨hl, hm, by simp; omega, by rw [List.map_take]; exact (at_of_cells hc).take len, fun z h => hw z (List.mem_of_mem_take h), (fun h => by cases h), fun y hy h0 => by
    cases hy
    have h1 := hc 0 (by omega)
    have := World.cell?_spot h1
    simpa [Addr.add] using this⟩

theorem i64_lo {z : Int} (h : (Lit.int .i64 z).wf = true) : -9223372036854775808 ≤ z := by
  simp [Lit.wf, IntKind.min, IntKind.max, IntKind.signed, IntKind.bits] at h; omega
theorem i64_hi {z : Int} (h : (Lit.int .i64 z).wf = true) : z ≤ 9223372036854775807 := by
  simp [Lit.wf, IntKind.min, IntKind.max, IntKind.signed, IntKind.bits] at h; omega

end Go.Proofs.Ytbljgoieieoamaa
