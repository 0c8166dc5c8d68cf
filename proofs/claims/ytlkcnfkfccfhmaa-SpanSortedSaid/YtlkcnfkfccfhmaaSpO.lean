/-
  An argument that is a row of things that are wrong: opened to its cells.
-/
import Derived.Test.YtlkcnfkfccfhmaaSrR
import Derived.Deep.Slices
import Derived.ChangeSame
import Derived.ChangeArms
namespace Go.Proofs.Ytlkcnfkfccfhmaa
open Go.RowKit Go.ChangeShapes Go.WideShapes Go.Deep
set_option linter.unusedVariables false

structure ArgD (w : World) (a : Option Addr) (n cap : Nat) (zs : List Tri) : Prop where
  len : zs.length = n
  le : n ≤ cap
  max : cap ≤ maxLen
  nil : a = none → n = 0 ∧ cap = 0
  at_ : AtCells w a (cellsD zs)

section
variable {H : Type} {enc : TypeId × Value → H} {w : World} {base : Nat} {spare : Nat → Bool} {held : Bool}

theorem three_of {cs : List Value} (h : cs.length = 3) : ∃ v0 v1 v2, cs = [v0, v1, v2] := by
  match cs, h with
  | [v0, v1, v2], _ => exact ⟨v0, v1, v2, rfl⟩
theorem two_of {β : Type} {cs : List β} (h : cs.length = 2) : ∃ v0 v1, cs = [v0, v1] := by
  match cs, h with
  | [v0, v1], _ => exact ⟨v0, v1, rfl⟩

theorem trod_D {fuel : Nat} {cs : List Value} {x : DataW H × List MemPlace} (h : DataW.trod enc Try.prog w base spare held fuel 43 cs = some x) : ∃ y : Tri, cs = encD y := by
  obtain ⟨xs, n, rfl, -, hl, hxl, hf⟩ := DataW.trod_struct Try.underlying43 h
  have hc3 : Try.prog.cellsOf 43 = 3 := by kernel_rfl
  have hc2 : Try.prog.cellsOf 23 = 2 := by kernel_rfl
  have hc1 : Try.prog.cellsOf 3 = 1 := by kernel_rfl
  rw [hc3] at hl
  obtain ⟨v0, v1, v2, rfl⟩ := three_of hl
  obtain ⟨y0, y1, rfl⟩ := two_of hxl
  have h0 := hf 0 _ rfl
  have h1 := hf 1 _ rfl
  simp only [hc2, hc1, List.drop_zero, List.take_succ_cons, List.take_zero, List.drop_succ_cons, List.getElem?_cons_zero, List.getElem?_cons_succ] at h0 h1
  obtain ⟨c, hcc, -, -⟩ := DataW.trod_int Try.underlying3 h1
  obtain ⟨xs', n', -, -, -, hxl', hf'⟩ := DataW.trod_struct Try.underlying23 h0
  obtain ⟨z0, z1, rfl⟩ := two_of hxl'
  have g0 := hf' 0 _ rfl
  have g1 := hf' 1 _ rfl
  simp only [hc1, List.drop_zero, List.take_succ_cons, List.take_zero, List.drop_succ_cons, List.getElem?_cons_zero, List.getElem?_cons_succ] at g0 g1
  obtain ⟨f, hff, -, -⟩ := DataW.trod_int Try.underlying3 g0
  obtain ⟨t, htt, -, -⟩ := DataW.trod_int Try.underlying3 g1
  obtain rfl := (List.cons.inj hcc).1
  obtain rfl := (List.cons.inj hff).1
  obtain rfl := (List.cons.inj htt).1
  exact ⟨(f, t, c), rfl⟩

theorem openD {a : Option Addr} {len cap : Nat} {d : DataW H} {ps : List MemPlace} (h : DataW.Trod enc Try.prog w base spare held 40 (.slice a len cap) d ps) : ∃ zs, ArgD w a len cap zs := by
  obtain ⟨fuel, hf⟩ := h
  have hc3 : Try.prog.cellsOf 43 = 3 := by kernel_rfl
  rcases open_slice Try.underlying40 hf with ⟨hcs, _⟩ | ⟨x, l, c, m, n, D, Pl, hcs, _, hl, hm, hmm, _, hi⟩
  · simp [Value.cells] at hcs
    obtain ⟨rfl, rfl, rfl⟩ := hcs
    exact ⟨[], rfl, Nat.le_refl _, Nat.zero_le _, fun _ => ⟨rfl, rfl⟩, AtCells.nil _ _⟩
  · simp [Value.cells] at hcs
    obtain ⟨rfl, rfl, rfl⟩ := hcs
    have hle : len ≤ m := by rw [hmm]; split <;> omega
    have key : ∀ i, ∃ y : Tri, i < len → ∀ j, j < 3 → w.cell? (x.add (i * 3 + j)) = (encD y)[j]? := fun i => by
      by_cases c : i < len
      · obtain ⟨cs', h1, h2⟩ := hi i (by omega)
        rw [hc3] at h1
        obtain ⟨y, rfl⟩ := trod_D h2
        obtain ⟨_, _, hat⟩ := World.cells?_some h1
        exact ⟨y, fun _ j hj => by rw [← Go.Deep.add_add]; exact hat j hj⟩
      · exact ⟨default, fun h => absurd h c⟩
    obtain ⟨f, hf⟩ := Classical.axiomOfChoice key
    refine ⟨(List.range len).map f, by simp, hl, hm, fun h => by (cases h), ?_⟩
    intro t u ht
    by_cases c : t < len * 3
    · have h3 : t / 3 < len := by omega
      have hk := hf (t / 3) h3 (t % 3) (by omega)
      rw [show t / 3 * 3 + t % 3 = t by omega] at hk
      rw [cellsD_get _ t (by simpa using c)] at ht
      have e : ((List.range len).map f).getD (t / 3) default = f (t / 3) := by
        rw [List.getD_eq_getElem?_getD, List.getElem?_map, List.getElem?_range h3]; rfl
      rw [e] at ht
      have hlt : t % 3 < (encD (f (t / 3))).length := by rw [encD_length]; omega
      rw [List.getElem?_eq_getElem hlt, ← getElem!_pos (encD (f (t / 3))) (t % 3) hlt, ht] at hk
      obtain ⟨b, off, spot⟩ := x
      have hk0 : w.cell? ⟨b, off, spot⟩ = some (.int .i64 (f 0).1) := hf 0 (by omega) 0 (by omega)
      obtain rfl : spot = none := World.cell?_spot hk0
      rw [Addr.add_lit] at hk
      exact ⟨b, off, rfl, hk⟩
    · rw [List.getElem?_eq_none (by rw [cellsD_length]; simpa using (by omega : len * 3 ≤ t))] at ht
      cases ht
end
end Go.Proofs.Ytlkcnfkfccfhmaa
