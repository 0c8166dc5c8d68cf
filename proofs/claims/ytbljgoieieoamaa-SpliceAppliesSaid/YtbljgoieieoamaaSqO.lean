/-
  An argument that is a row of changes: opened to its cells.
-/
import Derived.Test.YtbljgoieieoamaaSqJ
import Derived.Test.YtbljgoieieoamaaArgs
import Derived.Deep.Slices
import Derived.ChangeSame
import Derived.ChangeArms
namespace Go.Proofs.Ytbljgoieieoamaa
open Go.RowKit Go.ChangeShapes Go.WideShapes Go.Deep
set_option linter.unusedVariables false

structure BytesN (w : World) (x : Chg) : Prop where
  at_ : AtCells w x.2.2.1 (x.2.2.2.2.map (Value.int .u8))
  le : x.2.2.2.2.length ≤ x.2.2.2.1
  max : x.2.2.2.1 ≤ maxLen
  nil : x.2.2.1 = none → x.2.2.2.1 = 0
structure ArgC (w : World) (a : Option Addr) (n cap : Nat) (zs : List Chg) : Prop where
  len : zs.length = n
  le : n ≤ cap
  max : cap ≤ maxLen
  nil : a = none → n = 0 ∧ cap = 0
  at_ : AtCells w a (cellsC zs)
  held : ∀ x ∈ zs, BytesN w x

section
variable {H : Type} {enc : TypeId × Value → H} {w : World} {base : Nat} {spare : Nat → Bool} {held : Bool}

theorem three_ofC {β : Type} {cs : List β} (h : cs.length = 3) : ∃ v0 v1 v2, cs = [v0, v1, v2] := by
  match cs, h with
  | [v0, v1, v2], _ => exact ⟨v0, v1, v2, rfl⟩

set_option maxRecDepth 20000 in
theorem trod_C {fuel : Nat} {cs : List Value} {x : DataW H × List MemPlace} (h : DataW.trod enc Try.prog w base spare held fuel 66 cs = some x) : ∃ y : Chg, cs = encC y ∧ BytesN w y := by
  obtain ⟨xs, n, rfl, -, hl, hxl, hf⟩ := DataW.trod_struct Try.underlying66 h
  have hc3 : Try.prog.cellsOf 66 = 3 := by kernel_rfl
  have hc1 : Try.prog.cellsOf 3 = 1 := by kernel_rfl
  have hc2 : Try.prog.cellsOf 22 = 1 := by kernel_rfl
  rw [hc3] at hl
  obtain ⟨v0, v1, v2, rfl⟩ := three_ofC hl
  obtain ⟨y0, y1, y2, rfl⟩ := three_ofC hxl
  have h0 := hf 0 _ rfl
  have h1 := hf 1 _ rfl
  have h2 := hf 2 _ rfl
  simp only [List.getElem?_cons_zero, List.getElem?_cons_succ] at h0 h1 h2
  obtain ⟨f, hff, -, -⟩ := DataW.trod_int Try.underlying3 h0
  obtain ⟨t, htt, -, -⟩ := DataW.trod_int Try.underlying3 h1
  simp [hc1] at hff htt
  obtain rfl := hff
  obtain rfl := htt
  simp [hc2] at h2
  clear hl hxl hf h0 h1 h
  rcases open_ints Try.underlying22 Try.underlying5 (by kernel_rfl) h2 with ⟨hcs, _⟩ | ⟨x, l, c, zs, hcs, _, hl, hm, hz, _, hcell, hwz⟩
  · obtain rfl := (List.cons.inj hcs).1
    exact ⟨(f, t, none, 0, []), rfl, AtCells.nil _ _, by simp, by simp, fun _ => rfl⟩
  · obtain rfl := (List.cons.inj hcs).1
    have hzl : (zs.take l).length = l := by
      rw [List.length_take, hz]
      split <;> omega
    refine ⟨(f, t, some x, c, zs.take l), ?_, by simpa only [List.map_take] using (at_of_cells hcell).take l, by rw [hzl]; exact hl, hm, fun h => by cases h⟩
    simp only [encC, hzl]

theorem openC {a : Option Addr} {len cap : Nat} {d : DataW H} {ps : List MemPlace} (h : DataW.Trod enc Try.prog w base spare held 23 (.slice a len cap) d ps) : ∃ zs, ArgC w a len cap zs := by
  obtain ⟨fuel, hf⟩ := h
  have hc3 : Try.prog.cellsOf 66 = 3 := by kernel_rfl
  rcases open_slice Try.underlying23 hf with ⟨hcs, _⟩ | ⟨x, l, c, m, n, D, Pl, hcs, _, hl, hm, hmm, _, hi⟩
  · simp [Value.cells] at hcs
    obtain ⟨rfl, rfl, rfl⟩ := hcs
    exact ⟨[], rfl, Nat.le_refl _, Nat.zero_le _, fun _ => ⟨rfl, rfl⟩, fun j u hj => by simp [cellsC] at hj, fun x hx => by simp at hx⟩
  · simp [Value.cells] at hcs
    obtain ⟨rfl, rfl, rfl⟩ := hcs
    have hle : len ≤ m := by rw [hmm]; split <;> omega
    have key : ∀ i, ∃ y : Chg, i < len → BytesN w y ∧ ∀ j, j < 3 → w.cell? (x.add (i * 3 + j)) = (encC y)[j]? := fun i => by
      by_cases c : i < len
      · obtain ⟨cs', h1, h2⟩ := hi i (by omega)
        rw [hc3] at h1
        obtain ⟨y, rfl, hy⟩ := trod_C h2
        obtain ⟨_, _, hat⟩ := World.cells?_some h1
        exact ⟨y, fun _ => ⟨hy, fun j hj => by rw [← Go.Deep.add_add]; exact hat j hj⟩⟩
      · exact ⟨default, fun h => absurd h c⟩
    obtain ⟨f, hf⟩ := Classical.axiomOfChoice key
    refine ⟨(List.range len).map f, by simp, hl, hm, fun h => by (cases h), ?_, fun y hy => ?_⟩
    · intro t u ht
      by_cases c : t < len * 3
      · have h3 : t / 3 < len := by omega
        have hk := (hf (t / 3) h3).2 (t % 3) (by omega)
        rw [show t / 3 * 3 + t % 3 = t by omega] at hk
        rw [cellsC_get _ t (by simpa using c)] at ht
        have e : ((List.range len).map f).getD (t / 3) default = f (t / 3) := by
          rw [List.getD_eq_getElem?_getD, List.getElem?_map, List.getElem?_range h3]; rfl
        rw [e] at ht
        have hlt : t % 3 < (encC (f (t / 3))).length := by rw [encC_length]; omega
        rw [List.getElem?_eq_getElem hlt, ← getElem!_pos (encC (f (t / 3))) (t % 3) hlt, ht] at hk
        obtain ⟨b, off, spot⟩ := x
        have hk0 : w.cell? ⟨b, off, spot⟩ = some (.int .i64 (f 0).1) := (hf 0 (by omega)).2 0 (by omega)
        obtain rfl : spot = none := World.cell?_spot hk0
        rw [Addr.add_lit] at hk
        exact ⟨b, off, rfl, hk⟩
      · rw [List.getElem?_eq_none (by rw [cellsC_length]; simpa using (by omega : len * 3 ≤ t))] at ht
        cases ht
    · obtain ⟨i, hi', rfl⟩ := List.mem_map.1 hy
      exact (hf i (List.mem_range.1 hi')).1
end
end Go.Proofs.Ytbljgoieieoamaa
