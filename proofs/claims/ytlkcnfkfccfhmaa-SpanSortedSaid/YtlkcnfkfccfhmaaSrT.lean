/-
  What the program bears of the sort; slices.Clone at three cells; span.Sorted.
-/
import Derived.Test.YtlkcnfkfccfhmaaSrS
import Derived.Test.YtlkcnfkfccfhmaaSrE
import Derived.Deep.LoopGhost
import Derived.Lib.Walk
import Derived.Lib.SliceRun
namespace Go.Proofs.Ytlkcnfkfccfhmaa
open Go.Shelf Go.RowKit Go.Lib Go.Sort
set_option linter.unusedVariables false

theorem srtA : Srt Try.prog 3 where
  mixed := by kernel_rfl
  f32 := Try.func32
  f33 := Try.func33
  f35 := Try.func35
  f36 := Try.func36
  t3 := Try.underlying3
  a3 := Try.isAgg3
  z3 := Try.sizeOf3
  v3 := Try.zeroValue3
  t4 := Try.underlying4
  a4 := Try.isAgg4
  z4 := Try.sizeOf4
  v4 := Try.zeroValue4
  t41 := Try.underlying41
  a41 := Try.isAgg41
  z41 := Try.sizeOf41
  v41 := Try.zeroValue41
  aE := Try.isAgg45
  zE := Try.sizeOf45

theorem srtU : SrtU Try.prog where
  t56 := Try.underlying56
  a56 := Try.isAgg56
  z56 := Try.sizeOf56
  v56 := Try.zeroValue56

theorem egD : ∀ args w, (callFunc 25 args).run Try.prog w = .ok (.enter 25 args) w := enters_of Try.func25 (by kernel_rfl) rfl

/-! ### Rows of three numbers, as cells -/
def cellsD (zs : List Tri) : List Value := zs.flatMap encD
theorem encD_length (x : Tri) : (encD x).length = 3 := rfl
theorem cellsD_length : ∀ zs : List Tri, (cellsD zs).length = zs.length * 3
  | [] => rfl
  | x :: r => by
    have := cellsD_length r
    simp only [cellsD] at this ⊢
    rw [List.flatMap_cons, List.length_append, this, encD_length, List.length_cons]; omega
theorem encD_one (x : Tri) : ∀ v ∈ encD x, v.oneCell' = true := by
  intro v hv
  simp only [encD, List.mem_cons, List.not_mem_nil, or_false] at hv
  rcases hv with rfl | rfl | rfl <;> rfl
theorem cellsD_one (zs : List Tri) : ∀ v ∈ cellsD zs, v.oneCell' = true := by
  intro v hv
  obtain ⟨x, _, hx⟩ := List.mem_flatMap.1 hv
  exact encD_one x v hx
theorem cellsD_get : ∀ (zs : List Tri) (t : Nat), t < zs.length * 3 → (cellsD zs)[t]? = some ((encD (zs.getD (t / 3) default))[t % 3]!)
  | [], t, h => by simp at h
  | x :: r, t, h => by
    unfold cellsD
    rw [List.flatMap_cons]
    by_cases c : t < 3
    · rw [List.getElem?_append_left (by rw [encD_length]; exact c)]
      have : t = 0 ∨ t = 1 ∨ t = 2 := by omega
      rcases this with rfl | rfl | rfl <;> rfl
    · obtain ⟨u, rfl⟩ : ∃ u, t = u + 3 := ⟨t - 3, by omega⟩
      rw [List.getElem?_append_right (by rw [encD_length]; omega), encD_length, Nat.add_sub_cancel]
      have ih := cellsD_get r u (by rw [List.length_cons] at h; omega)
      have e1 : (u + 3) / 3 = u / 3 + 1 := by omega
      have e2 : (u + 3) % 3 = u % 3 := by omega
      rw [e1, e2]
      exact ih
theorem cellsD_append (a b : List Tri) : cellsD (a ++ b) = cellsD a ++ cellsD b := by simp [cellsD]

theorem flat_cells (zs : List Tri) : (flatK encD 3 zs.toArray).toList = cellsD zs := by
  apply List.ext_getElem?
  intro t
  by_cases h : t < zs.length * 3
  · have hs : t < (flatK encD 3 zs.toArray).size := by rw [size_flatK]; simpa using h
    rw [cellsD_get zs t h, Array.getElem?_toList, Array.getElem?_eq_getElem hs, ← getElem!_pos (flatK encD 3 zs.toArray) t hs, get_flatK _ _ _ _ (by simpa using h)]
    have h3 : t / 3 < zs.length := by omega
    rw [getElem!_pos zs.toArray (t / 3) (by simpa using h3), List.getD_eq_getElem?_getD, List.getElem?_eq_getElem h3]
    simp
  · rw [List.getElem?_eq_none (by rw [Array.length_toList, size_flatK]; simpa using (by omega : zs.length * 3 ≤ t)), List.getElem?_eq_none (by rw [cellsD_length]; omega)]

/-! ### A row that the call owns, sorted -/
theorem holdsK_owned {w : World} {g : Nat} {cur : Array Value} {e : TypeId} {zs : List Tri} (hb : w.heap[g]? = some (.cells cur e (0, 0))) (ht : cur.toList.take (zs.length * 3) = cellsD zs) : HoldsK encD 3 w g 0 zs.toArray := by
  intro j hj
  have hj' : j < zs.length * 3 := by rw [size_flatK] at hj; simpa using hj
  refine ⟨?_, by simp [World.frozen?, hb]⟩
  have h1 : (cur.toList.take (zs.length * 3))[j]? = (flatK encD 3 zs.toArray).toList[j]? := by rw [ht, flat_cells]
  rw [List.getElem?_take_of_lt hj'] at h1
  simp only [World.cell?, hb, Nat.zero_add]
  simp only [Option.isSome_none, Bool.false_eq_true, if_false]
  rw [← Array.getElem?_toList, h1, Array.getElem?_toList, Array.getElem?_eq_getElem hj, getElem!_pos _ j hj]
  rfl

theorem heap_sortedV {w : World} {g n : Nat} {os : Array Obj} {cur : Array Value} {e : TypeId} {fr : Nat × Nat} (F : Array Value) (hb : w.heap[g]? = some (.cells cur e fr)) :
    (grow (putRow id (Sort.ahead w n) g 0 F) os).heap[g]? = some (.cells (putCells id 0 F cur) e fr) := by
  have hg : g < w.heap.size := (Array.getElem?_eq_some_iff.1 hb).1
  rw [heap_grow_old _ _ (by simpa using hg)]
  simp [putRow, mapBlock, Sort.ahead, Array.getElem?_modify, hb, onCells]

theorem grownBy_sortedV {w : World} {g n : Nat} {os : Array Obj} (F : Array Value) : w.grownBy (grow (putRow id (Sort.ahead w n) g 0 F) os) (some g) := by
  refine ⟨rfl, rfl, rfl, by simp, fun k hk hne => ?_⟩
  rw [heap_grow_old _ _ (by simpa using hk)]
  have : g ≠ k := fun e => hne (by rw [e])
  simp [putRow, mapBlock, Sort.ahead, Array.getElem?_modify, this]

theorem take_putCellsV (cur F : Array Value) (h : F.size ≤ cur.size) : (putCells id 0 F cur).toList.take F.size = F.toList := by
  apply List.ext_getElem?
  intro j
  by_cases hj : j < F.size
  · rw [List.getElem?_take_of_lt hj, Array.getElem?_toList]
    simp [putCells, hj, show j < cur.size by omega]
  · rw [List.getElem?_take_eq_none (by omega), List.getElem?_eq_none (by simp; omega)]

theorem owns_sortedK {w w' : World} {base g cap n : Nat} {e : TypeId} {cur : Array Value} {ds : List Tri} (hl : ds.length = n) (hbase : base ≤ g) (hb : w.heap[g]? = some (.cells cur e (0, 0)))
    (h1 : n ≤ cap) (h2 : cap ≤ maxLen) (h3 : cur.size = cap * 3) (h : SWK encD 3 w g 0 ds.toArray w') :
    w'.ownsRow base e 3 (.slice (some ⟨g, 0, none⟩) n cap) n (cellsD ds) ∧ w.grownBy w' (some g) := by
  obtain ⟨m, os, rfl⟩ := h
  refine ⟨⟨by rw [cellsD_length, hl], .inr ⟨g, cap, _, rfl, hbase, heap_sortedV _ hb, h1, h2, by simp [putCells, h3], ?_⟩⟩, grownBy_sortedV _⟩
  have hs : (flatK encD 3 ds.toArray).size = n * 3 := by rw [size_flatK]; simp [hl]
  rw [← hs, take_putCellsV _ _ (by rw [hs, h3]; omega), flat_cells]

/-! ### Clone -/
theorem Try.infoDiag : (Try.prog.info? 45).map (fun i => (i.zero, i.size, i.bytes)) = some (some (.agg #[.int .i64 0, .int .i64 0, .int .i64 0]), 3, 24) := by kernel_rfl

set_option maxHeartbeats 2000000 in
theorem clone_any (b off n c : Nat) (zs : List Tri) (w : World) (hl : zs.length = n) (hn : n ≤ 1000) (hc : ∀ j u, (cellsD zs)[j]? = some u → w.cell? ⟨b, off + j, none⟩ = some u) :
    Calls Try.prog 23 #[.slice (some ⟨b, off, none⟩) n c] w fun e w' => ∃ v', e = .returned v' ∧ w'.ownsRow w.heap.size 45 3 v' n (cellsD zs) ∧ v' ≠ .slice none 0 0 ∧ Below w.heap.size w w' := by
  obtain ⟨i0, hi, hz0, hz1, hz2⟩ := info_parts Try.infoDiag
  have HI := Lib.hid (And.intro hi (And.intro hz0 (And.intro hz1 hz2)))
  have HC := Lib.hid hc
  have HL := Lib.hid hl
  have HN := Lib.hid hn
  clear hc hl hi hz0 hz1 hz2 hn
  have q41 : ∀ (w : World) (a : Option Addr) (n c n' c' : Nat), (binOp .eql 41 (.slice a n c) (.slice none n' c')).run Try.prog w = .ok (.bool a.isNone) w := fun w a n c n' c' => Lib.run_eql_slice_nil w _ _ a n c n' c' Try.underlying41
  go_enter Try.func23, Try.ntmps23
  go_wp2_with (at_builtin; refine wpList_append_own _ rfl _ _ 41 rfl w.heap.size 45 i0 _ 3 24 Try.underlying41 HI.out.1 HI.out.2.1 HI.out.2.2.1 HI.out.2.2.2 rfl (by decide) _ _ _ rfl (World.ownsRow_made w #[] 0 (Nat.le_refl _) (Nat.zero_le _) (by simp)) ⟨b, off, none⟩ n c (cellsD zs) rfl ?qc1 ?qc2 ?qc3 ?qc4 ?qc5 ?qc6 ?_)
  case qc1 => rw [cellsD_length, HL.out]
  case qc2 =>
    intro j u hj
    rw [Addr.add_lit]
    exact Lib.cell?_alloc_some _ (HC.out j u hj)
  case qc3 => exact cellsD_one zs
  case qc4 => have := HN.out; unfold maxLen; omega
  case qc5 => have := HN.out; omega
  case qc6 => simp
  intro v' w1 hown hgrow hnil
  go_wp2
  go_ret
  refine ⟨v', rfl, by simpa using hown, ?_, ?_⟩
  · exact hnil
  · exact ((Below.refl _ w).alloc (Nat.le_refl _) _).grown hgrow (by simp) (by intro k hk; simp [Value.ownBlock] at hk; omega)

set_option maxHeartbeats 1000000 in
theorem clone_none (n c : Nat) (w : World) :
    Calls Try.prog 23 #[.slice none n c] w fun e w' => e = .returned (.slice none 0 0) ∧ w = w' := by
  have q41 : ∀ (w : World) (a : Option Addr) (n c n' c' : Nat), (binOp .eql 41 (.slice a n c) (.slice none n' c')).run Try.prog w = .ok (.bool a.isNone) w := fun w a n c n' c' => Lib.run_eql_slice_nil w _ _ a n c n' c' Try.underlying41
  go_enter Try.func23, Try.ntmps23
  go_wp2
  go_ret
  exact ⟨rfl, rfl⟩

/-! ### Sorted -/
set_option maxHeartbeats 1000000 in
theorem psorted_none (w : World) :
    Calls Try.prog 17 #[.slice none 0 0] w fun e w' => e = .returned (.slice none 0 0) ∧ w = w' := by
  go_enter Try.func17, Try.ntmps17
  go_wp2_with (first
    | (go_at_call 23; (with_reducible refine (clone_none _ _ _).mono ?_); rintro e w1 ⟨rfl, rfl⟩)
    | (go_at_call 24; (with_reducible refine (sortStable_none _ _ _ _).mono ?_); rintro e w1 ⟨rfl, rfl⟩))
  go_ret
  exact ⟨rfl, rfl⟩

theorem row_D (w : World) (g : Nat) (zs : List Tri) (hH : HoldsK encD 3 w g 0 zs.toArray) (hg : g < w.heap.size) : RowK encD 3 w g 0 zs.toArray :=
  ⟨encD_length, encD_one, hH, hg⟩

/-- The sort of a row that the call owns. -/
theorem sortStable_own (base g cap n : Nat) (cur : Array Value) (zs : List Tri) (w : World) (hn : zs.length = n) (hn30 : n ≤ 30) (hbase : base ≤ g) (hb : w.heap[g]? = some (.cells cur 45 (0, 0)))
    (h1 : n ≤ cap) (h2 : cap ≤ maxLen) (h3 : cur.size = cap * 3) (h4 : cur.toList.take (n * 3) = cellsD zs) :
    Calls Try.prog 24 #[.slice (some ⟨g, 0, none⟩) n cap, .func (.func 25) #[] #[]] w fun e w' => e = .returned (.tuple #[]) ∧ w'.ownsRow base 45 3 (.slice (some ⟨g, 0, none⟩) n cap) n (cellsD (srtD zs)) ∧ w.grownBy w' (some g) := by
  have hH := holdsK_owned hb (by rw [hn]; exact h4)
  have hg : g < w.heap.size := (Array.getElem?_eq_some_iff.1 hb).1
  refine (sortStable_k 3 srtA srtU Try.func28 Try.func24 encD cfD (by rw [ltOf_cfD]; exact swoD) _ _ g 0 cap n zs.toArray w egD (row_D w g zs hH hg) (cmpLays_D _ _ _ _) (by simpa using hn) hn30).mono ?_
  rintro e w' ⟨he, d', hp, hs, hS⟩
  have hd := srtD_of hp hs
  have hd2 : d' = (srtD zs).toArray := by rw [← Array.toArray_toList (xs := d'), hd]
  rw [hd2] at hS
  exact ⟨he, owns_sortedK (by rw [srtD_length, hn]) hbase hb h1 h2 h3 hS⟩

set_option maxHeartbeats 1000000 in
theorem psorted_any (b off n c : Nat) (zs : List Tri) (w : World) (hn : zs.length = n) (hn30 : n ≤ 30) (hc : ∀ j u, (cellsD zs)[j]? = some u → w.cell? ⟨b, off + j, none⟩ = some u) :
    Calls Try.prog 17 #[.slice (some ⟨b, off, none⟩) n c] w fun e w' => ∃ v, e = .returned v ∧ w'.ownsRow w.heap.size 45 3 v n (cellsD (srtD zs)) ∧ Below w.heap.size w w' := by
  have HC := Lib.hid (clone_any b off n c zs w hn (by omega) hc)
  have HN := Lib.hid (And.intro hn hn30)
  clear hn hn30 hc
  go_enter Try.func17, Try.ntmps17
  go_wp2_with fail
  refine HC.out.mono ?_
  rintro e w1 ⟨v1, rfl, hown, hne, hb1⟩
  have hown2 := hown.2
  rcases hown2 with ⟨hnil, _⟩ | ⟨g, cap, cur, rfl, hbase, hb, h1, h2, h3, h4⟩
  · exact absurd hnil hne
  have HS := Lib.hid (sortStable_own w.heap.size g cap n cur zs w1 HN.out.1 HN.out.2 hbase hb h1 h2 h3 h4)
  have HB := Lib.hid (And.intro hb1 hbase)
  clear hown hne hb1 hbase hb h1 h2 h3 h4
  go_wp2_with fail
  refine HS.out.mono ?_
  rintro e w2 ⟨rfl, hown, hgr⟩
  have HG := Lib.hid hgr
  clear hgr
  go_wp2
  go_ret
  exact ⟨_, rfl, hown, HB.out.1.grown HG.out HB.out.1.size (by intro k hk; cases hk; exact HB.out.2)⟩
end Go.Proofs.Ytlkcnfkfccfhmaa
