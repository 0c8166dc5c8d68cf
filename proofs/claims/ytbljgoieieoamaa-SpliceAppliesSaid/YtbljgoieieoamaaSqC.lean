/-
  The sort of few changes; slices.Clone at changes and at bytes.
-/
import Derived.Test.YtbljgoieieoamaaSqB
import Derived.Deep.LoopGhost
import Derived.Lib.Walk
import Derived.Lib.SliceRun
namespace Go.Proofs.Ytbljgoieieoamaa
open Go.Shelf Go.RowKit Go.Lib Go.Sort
set_option linter.unusedVariables false
theorem srtA : Srt Try.prog 3 where
  mixed := by kernel_rfl
  f32 := Try.func98
  t3 := Try.underlying3
  a3 := Try.isAgg3
  z3 := Try.sizeOf3
  v3 := Try.zeroValue3
  t4 := Try.underlying4
  a4 := Try.isAgg4
  z4 := Try.sizeOf4
  v4 := Try.zeroValue4
  t41 := Try.underlying26
  a41 := Try.isAgg26
  z41 := Try.sizeOf26
  v41 := Try.zeroValue26
  aE := Try.isAgg39
  zE := Try.sizeOf39

theorem egC : ∀ args w, (callFunc 54 args).run Try.prog w = .ok (.enter 54 args) w := enters_of Try.func54 (by kernel_rfl) rfl

/-! ### Rows of three numbers, as cells -/
def cellsC (zs : List Chg) : List Value := zs.flatMap encC
theorem encC_length (x : Chg) : (encC x).length = 3 := rfl
theorem cellsC_length : ∀ zs : List Chg, (cellsC zs).length = zs.length * 3
  | [] => rfl
  | x :: r => by
    have := cellsC_length r
    simp only [cellsC] at this ⊢
    rw [List.flatMap_cons, List.length_append, this, encC_length, List.length_cons]; omega
theorem encC_one (x : Chg) : ∀ v ∈ encC x, v.oneCell' = true := by
  intro v hv
  simp only [encC, List.mem_cons, List.not_mem_nil, or_false] at hv
  rcases hv with rfl | rfl | rfl <;> rfl
theorem cellsC_one (zs : List Chg) : ∀ v ∈ cellsC zs, v.oneCell' = true := by
  intro v hv
  obtain ⟨x, _, hx⟩ := List.mem_flatMap.1 hv
  exact encC_one x v hx
theorem cellsC_get : ∀ (zs : List Chg) (t : Nat), t < zs.length * 3 → (cellsC zs)[t]? = some ((encC (zs.getD (t / 3) default))[t % 3]!)
  | [], t, h => by simp at h
  | x :: r, t, h => by
    unfold cellsC
    rw [List.flatMap_cons]
    by_cases c : t < 3
    · rw [List.getElem?_append_left (by rw [encC_length]; exact c)]
      have : t = 0 ∨ t = 1 ∨ t = 2 := by omega
      rcases this with rfl | rfl | rfl <;> rfl
    · obtain ⟨u, rfl⟩ : ∃ u, t = u + 3 := ⟨t - 3, by omega⟩
      rw [List.getElem?_append_right (by rw [encC_length]; omega), encC_length, Nat.add_sub_cancel]
      have ih := cellsC_get r u (by rw [List.length_cons] at h; omega)
      have e1 : (u + 3) / 3 = u / 3 + 1 := by omega
      have e2 : (u + 3) % 3 = u % 3 := by omega
      rw [e1, e2]
      exact ih
theorem cellsC_append (a b : List Chg) : cellsC (a ++ b) = cellsC a ++ cellsC b := by simp [cellsC]

theorem flat_cells (zs : List Chg) : (flatK encC 3 zs.toArray).toList = cellsC zs := by
  apply List.ext_getElem?
  intro t
  by_cases h : t < zs.length * 3
  · have hs : t < (flatK encC 3 zs.toArray).size := by rw [size_flatK]; simpa using h
    rw [cellsC_get zs t h, Array.getElem?_toList, Array.getElem?_eq_getElem hs, ← getElem!_pos (flatK encC 3 zs.toArray) t hs, get_flatK _ _ _ _ (by simpa using h)]
    have h3 : t / 3 < zs.length := by omega
    rw [getElem!_pos zs.toArray (t / 3) (by simpa using h3), List.getD_eq_getElem?_getD, List.getElem?_eq_getElem h3]
    simp
  · rw [List.getElem?_eq_none (by rw [Array.length_toList, size_flatK]; simpa using (by omega : zs.length * 3 ≤ t)), List.getElem?_eq_none (by rw [cellsC_length]; omega)]

/-! ### A row that the call owns, sorted -/
theorem holdsK_owned {w : World} {g : Nat} {cur : Array Value} {e : TypeId} {zs : List Chg} (hb : w.heap[g]? = some (.cells cur e (0, 0))) (ht : cur.toList.take (zs.length * 3) = cellsC zs) : HoldsK encC 3 w g 0 zs.toArray := by
  intro j hj
  have hj' : j < zs.length * 3 := by rw [size_flatK] at hj; simpa using hj
  refine ⟨?_, by simp [World.frozen?, hb]⟩
  have h1 : (cur.toList.take (zs.length * 3))[j]? = (flatK encC 3 zs.toArray).toList[j]? := by rw [ht, flat_cells]
  rw [List.getElem?_take_of_lt hj'] at h1
  simp only [World.cell?, hb, Nat.zero_add]
  simp only [Option.isSome_none, Bool.false_eq_true, if_false]
  rw [← Array.getElem?_toList, h1, Array.getElem?_toList, Array.getElem?_eq_getElem hj, getElem!_pos _ j hj]
  rfl

theorem heap_sortedV {w : World} {g n : Nat} {os : Array Obj} {cur : Array Value} {e : TypeId} {fr : Nat × Nat} (F : Array Value) (hb : w.heap[g]? = some (.cells cur e fr)) :
    (grow (putRow id (Sort.ahead w n) g 0 F) os).heap[g]? = some (.cells (putCells id 0 F cur) e fr) := by
  have hg : g < w.heap.size := (Array.getElem?_eq_some_iff.1 hb).1
  rw [heap_grow_old _ _ (by simpa using hg)]
  simp [putRow, mapBlock, Sort.ahead, Array.getElem?_modify, hb, onCells]

theorem grownBy_sortedV {w : World} {g n : Nat} {os : Array Obj} (F : Array Value) : w.grownBy (grow (putRow id (Sort.ahead w n) g 0 F) os) (some g) := by
  refine ⟨rfl, rfl, rfl, by simp, fun k hk hne => ?_⟩
  rw [heap_grow_old _ _ (by simpa using hk)]
  have : g ≠ k := fun e => hne (by rw [e])
  simp [putRow, mapBlock, Sort.ahead, Array.getElem?_modify, this]

theorem take_putCellsV (cur F : Array Value) (h : F.size ≤ cur.size) : (putCells id 0 F cur).toList.take F.size = F.toList := by
  apply List.ext_getElem?
  intro j
  by_cases hj : j < F.size
  · rw [List.getElem?_take_of_lt hj, Array.getElem?_toList]
    simp [putCells, hj, show j < cur.size by omega]
  · rw [List.getElem?_take_eq_none (by omega), List.getElem?_eq_none (by simp; omega)]

theorem owns_sortedK {w w' : World} {base g cap n : Nat} {e : TypeId} {cur : Array Value} {ds : List Chg} (hl : ds.length = n) (hbase : base ≤ g) (hb : w.heap[g]? = some (.cells cur e (0, 0)))
    (h1 : n ≤ cap) (h2 : cap ≤ maxLen) (h3 : cur.size = cap * 3) (h : SWK encC 3 w g 0 ds.toArray w') :
    w'.ownsRow base e 3 (.slice (some ⟨g, 0, none⟩) n cap) n (cellsC ds) ∧ w.grownBy w' (some g) := by
  obtain ⟨m, os, rfl⟩ := h
  refine ⟨⟨by rw [cellsC_length, hl], .inr ⟨g, cap, _, rfl, hbase, heap_sortedV _ hb, h1, h2, by simp [putCells, h3], ?_⟩⟩, grownBy_sortedV _⟩
  have hs : (flatK encC 3 ds.toArray).size = n * 3 := by rw [size_flatK]; simp [hl]
  rw [← hs, take_putCellsV _ _ (by rw [hs, h3]; omega), flat_cells]

/-! ### Clone -/
theorem Try.infoChg : (Try.prog.info? 39).map (fun i => (i.zero, i.size, i.bytes)) = some (some (.agg #[.int .i64 0, .int .i64 0, .slice none 0 0]), 3, 40) := by kernel_rfl

set_option maxHeartbeats 2000000 in
theorem clone_any (b off n c : Nat) (zs : List Chg) (w : World) (hl : zs.length = n) (hn : n ≤ 1000) (hc : ∀ j u, (cellsC zs)[j]? = some u → w.cell? ⟨b, off + j, none⟩ = some u) :
    Calls Try.prog 52 #[.slice (some ⟨b, off, none⟩) n c] w fun e w' => ∃ v', e = .returned v' ∧ w'.ownsRow w.heap.size 39 3 v' n (cellsC zs) ∧ v' ≠ .slice none 0 0 ∧ Below w.heap.size w w' := by
  obtain ⟨i0, hi, hz0, hz1, hz2⟩ := info_parts Try.infoChg
  have HI := Lib.hid (And.intro hi (And.intro hz0 (And.intro hz1 hz2)))
  have HC := Lib.hid hc
  have HL := Lib.hid hl
  have HN := Lib.hid hn
  clear hc hl hi hz0 hz1 hz2 hn
  have q41 : ∀ (w : World) (a : Option Addr) (n c n' c' : Nat), (binOp .eql 26 (.slice a n c) (.slice none n' c')).run Try.prog w = .ok (.bool a.isNone) w := fun w a n c n' c' => Lib.run_eql_slice_nil w _ _ a n c n' c' Try.underlying26
  go_enter Try.func52, Try.ntmps52
  go_wp2_with (at_builtin; refine wpList_append_own _ rfl _ _ 26 rfl w.heap.size 39 i0 _ 3 40 Try.underlying26 HI.out.1 HI.out.2.1 HI.out.2.2.1 HI.out.2.2.2 rfl (by decide) _ _ _ rfl (World.ownsRow_made w #[] 0 (Nat.le_refl _) (Nat.zero_le _) (by simp)) ⟨b, off, none⟩ n c (cellsC zs) rfl ?qc1 ?qc2 ?qc3 ?qc4 ?qc5 ?qc6 ?_)
  case qc1 => rw [cellsC_length, HL.out]
  case qc2 =>
    intro j u hj
    rw [Addr.add_lit]
    exact Lib.cell?_alloc_some _ (HC.out j u hj)
  case qc3 => exact cellsC_one zs
  case qc4 => have := HN.out; unfold maxLen; omega
  case qc5 => have := HN.out; omega
  case qc6 => simp
  intro v' w1 hown hgrow hnil
  go_wp2
  go_ret
  refine ⟨v', rfl, by simpa using hown, ?_, ?_⟩
  · exact hnil
  · exact ((Below.refl _ w).alloc (Nat.le_refl _) _).grown hgrow (by simp) (by intro k hk; simp [Value.ownBlock] at hk; omega)

set_option maxHeartbeats 1000000 in
theorem clone_none (n c : Nat) (w : World) :
    Calls Try.prog 52 #[.slice none n c] w fun e w' => e = .returned (.slice none 0 0) ∧ w = w' := by
  have q41 : ∀ (w : World) (a : Option Addr) (n c n' c' : Nat), (binOp .eql 26 (.slice a n c) (.slice none n' c')).run Try.prog w = .ok (.bool a.isNone) w := fun w a n c n' c' => Lib.run_eql_slice_nil w _ _ a n c n' c' Try.underlying26
  go_enter Try.func52, Try.ntmps52
  go_wp2
  go_ret
  exact ⟨rfl, rfl⟩

theorem row_C (w : World) (g : Nat) (zs : List Chg) (hH : HoldsK encC 3 w g 0 zs.toArray) (hg : g < w.heap.size) : RowK encC 3 w g 0 zs.toArray :=
  ⟨encC_length, encC_one, hH, hg⟩

section
variable {P : Program} {α : Type} [Inhabited α]
set_option maxHeartbeats 4000000 in
set_option maxRecDepth 1000000 in
theorem stable_few (k : Nat) (L : Srt P k) (F : P.funcs[(77 : Nat)]? = some Try.f77) (enc : α → List Value) (cf : α → α → Int) (g : Nat) (cb : Array Value) (blk off cap n : Nat) (d : Array α) (w : World)
    (eg : ∀ args w, (callFunc g args).run P w = .ok (.enter g args) w) (R : RowK enc k w blk off d) (hcmp : CmpLays P g cb enc k cf blk off d.size w) (hlen : d.size = n) (hn : n < 20) :
    Calls P 77 #[.slice (some ⟨blk, off, none⟩) n cap, .int .i64 n, .func (.func g) #[] cb] w fun e w' => e = .returned (.tuple #[]) ∧ SWK enc k w blk off (Sort.insertionSort (ltOf cf) d 0 d.size) w' := by
  have mixed := L.mixed; have t3 := L.t3; have a3 := L.a3; have z3 := L.z3; have v3 := L.v3; have t4 := L.t4; have a4 := L.a4; have z4 := L.z4; have v4 := L.v4; have t41 := L.t41; have a41 := L.a41; have z41 := L.z41; have v41 := L.v41
  have e32 : ∀ args w, (callFunc 98 args).run P w = .ok (.enter 98 args) w := enters_of L.f32 (by kernel_rfl) rfl
  have hc := ins_k k L enc cf g cb blk off cap 0 d.size d d w w eg R hcmp rfl (SWK.start R.hH) (Nat.zero_le _) (Nat.le_refl _) (by omega)
  rw [hlen] at hc
  have HL := Lib.hid hlen
  have HC := Lib.hid hc
  simp only [Int.cast_ofNat_Int, Int.natCast_zero] at HC
  clear R hcmp hlen eg L hc
  have hz : ¬ (20 : Int) ≤ (n : Int) := by omega
  have hz2 : ¬ (20 : Int) < (n : Int) := by omega
  go_enter F, Try.ntmps77
  go_wp2
  refine wp_loop_rounds 1 ?_
  rw [rounds_succ]
  go_wp2_with (go_at_fn 98; refine HC.out.mono ?_; rintro e w' ⟨rfl, hr⟩; have HR := Lib.hid hr; clear hr)
  refine wp_loop_rounds 1 ?_
  rw [rounds_succ]
  go_wp2
  go_end0
  exact ⟨rfl, by rw [HL.out]; exact HR.out⟩

set_option maxHeartbeats 1000000 in
theorem sortStable_few (k : Nat) (L : Srt P k) (F : P.funcs[(77 : Nat)]? = some Try.f77) (F2 : P.funcs[(53 : Nat)]? = some Try.f53) (enc : α → List Value) (cf : α → α → Int) (g : Nat) (cb : Array Value) (blk off cap n : Nat) (d : Array α) (w : World)
    (eg : ∀ args w, (callFunc g args).run P w = .ok (.enter g args) w) (R : RowK enc k w blk off d) (hcmp : CmpLays P g cb enc k cf blk off d.size w) (hlen : d.size = n) (hn : n < 20) :
    Calls P 53 #[.slice (some ⟨blk, off, none⟩) n cap, .func (.func g) #[] cb] w fun e w' => e = .returned (.tuple #[]) ∧ SWK enc k w blk off (Sort.insertionSort (ltOf cf) d 0 d.size) w' := by
  have mixed := L.mixed; have t3 := L.t3; have a3 := L.a3; have z3 := L.z3; have v3 := L.v3; have t4 := L.t4; have a4 := L.a4; have z4 := L.z4; have v4 := L.v4; have t41 := L.t41; have a41 := L.a41; have z41 := L.z41; have v41 := L.v41
  have e28 : ∀ args w, (callFunc 77 args).run P w = .ok (.enter 77 args) w := enters_of F (by kernel_rfl) rfl
  have hc := Lib.hid (stable_few k L F enc cf g cb blk off cap n d w eg R hcmp hlen hn)
  clear R hcmp eg L F
  go_enter F2, Try.ntmps53
  go_wp2_with (go_at_fn 77; refine hc.out.mono ?_; rintro e w' ⟨rfl, h⟩; have HR := Lib.hid h; clear h)
  go_end0
  exact ⟨rfl, HR.out⟩
end

set_option maxHeartbeats 1000000 in
theorem ins_none (p : Option Addr) (cap : Nat) (fv : Value) (w : World) :
    Calls Try.prog 98 #[.slice p 0 cap, .int .i64 0, .int .i64 0, fv] w fun e w' => e = .returned (.tuple #[]) ∧ w = w' := by
  go_enter Try.func98, Try.ntmps98
  go_wp2
  refine wp_loop_rounds 1 ?_
  rw [rounds_succ]
  go_wp2
  go_end0
  exact ⟨rfl, rfl⟩

set_option maxHeartbeats 1000000 in
theorem stable_none (p : Option Addr) (cap : Nat) (fv : Value) (w : World) :
    Calls Try.prog 77 #[.slice p 0 cap, .int .i64 0, fv] w fun e w' => e = .returned (.tuple #[]) ∧ w = w' := by
  go_enter Try.func77, Try.ntmps77
  go_wp2
  refine wp_loop_rounds 1 ?_
  rw [rounds_succ]
  go_wp2_with (go_at_call 98; (with_reducible refine (ins_none _ _ _ _).mono ?_); rintro e w' ⟨rfl, rfl⟩)
  refine wp_loop_rounds 1 ?_
  rw [rounds_succ]
  go_wp2
  go_end0
  exact ⟨rfl, rfl⟩

set_option maxHeartbeats 1000000 in
theorem sortStable_none (p : Option Addr) (cap : Nat) (fv : Value) (w : World) :
    Calls Try.prog 53 #[.slice p 0 cap, fv] w fun e w' => e = .returned (.tuple #[]) ∧ w = w' := by
  go_enter Try.func53, Try.ntmps53
  go_wp2_with (go_at_call 77; (with_reducible refine (stable_none _ _ _ _).mono ?_); rintro e w' ⟨rfl, rfl⟩)
  go_end0
  exact ⟨rfl, rfl⟩
/-- The sort of a row that the call owns. -/
theorem sortC_own (base g cap n : Nat) (cur : Array Value) (zs : List Chg) (w : World) (hn : zs.length = n) (hn20 : n < 20) (hbase : base ≤ g) (hb : w.heap[g]? = some (.cells cur 39 (0, 0)))
    (h1 : n ≤ cap) (h2 : cap ≤ maxLen) (h3 : cur.size = cap * 3) (h4 : cur.toList.take (n * 3) = cellsC zs) :
    Calls Try.prog 53 #[.slice (some ⟨g, 0, none⟩) n cap, .func (.func 54) #[] #[]] w fun e w' => e = .returned (.tuple #[]) ∧ w'.ownsRow base 39 3 (.slice (some ⟨g, 0, none⟩) n cap) n (cellsC (isort ltC zs)) ∧ w.grownBy w' (some g) := by
  have hH := holdsK_owned hb (by rw [hn]; exact h4)
  have hg : g < w.heap.size := (Array.getElem?_eq_some_iff.1 hb).1
  refine (sortStable_few 3 srtA Try.func77 Try.func53 encC cfC _ _ g 0 cap n zs.toArray w egC (row_C w g zs hH hg) (cmpLays_C _ _ _ _) (by simpa using hn) hn20).mono ?_
  rintro e w' ⟨he, hS⟩
  have hd := insertionSort_list (ltOf cfC) zs.toArray
  rw [ltOf_cfC, List.toList_toArray] at hd
  have hd2 : Sort.insertionSort (ltOf cfC) zs.toArray 0 zs.toArray.size = (isort ltC zs).toArray := by rw [ltOf_cfC, ← hd, Array.toArray_toList]
  rw [hd2] at hS
  exact ⟨he, owns_sortedK (by rw [isort_length, hn]) hbase hb h1 h2 h3 hS⟩

theorem addr_add (b off F : Nat) : (⟨b, off, none⟩ : Addr).add F = ⟨b, off + F, none⟩ := by
  unfold Addr.add
  split <;> simp_all
theorem Try.infoU8S : (Try.prog.info? 5).map (fun i => (i.zero, i.size, i.bytes)) = some (some (.int .u8 0), 1, 1) := by kernel_rfl
theorem u8_one (zs : List Int) : ∀ v ∈ zs.map (Value.int .u8), v.oneCell' = true := by
  intro v hv
  obtain ⟨z, _, rfl⟩ := List.mem_map.1 hv
  rfl

set_option maxHeartbeats 2000000 in
theorem cloneB_any (a : Option Addr) (n c : Nat) (zs : List Int) (w : World) (hl : zs.length = n) (hn : n ≤ 100000) (hat : AtCells w a (zs.map (.int .u8))) :
    Calls Try.prog 36 #[.slice a n c] w fun e w' => ∃ v', e = .returned v' ∧ w'.ownsRow w.heap.size 5 1 v' n (zs.map (.int .u8)) ∧ Below w.heap.size w w' := by
  obtain ⟨i0, hi, hz0, hz1, hz2⟩ := info_parts Try.infoU8S
  have HI := Lib.hid (And.intro hi (And.intro hz0 (And.intro hz1 hz2)))
  have q41 : ∀ (w : World) (a : Option Addr) (n c n' c' : Nat), (binOp .eql 22 (.slice a n c) (.slice none n' c')).run Try.prog w = .ok (.bool a.isNone) w := fun w a n c n' c' => Lib.run_eql_slice_nil w _ _ a n c n' c' Try.underlying22
  cases a with
  | none =>
    have h0 : zs = [] := by
      cases zs with
      | nil => rfl
      | cons z zs => obtain ⟨b, off, ha, _⟩ := hat 0 _ rfl; cases ha
    subst h0
    simp at hl
    subst hl
    clear hi hz0 hz1 hz2 hat
    go_enter Try.func36, Try.ntmps36
    go_wp2
    go_ret
    exact ⟨_, rfl, World.ownsRow_nil _ _ _ _, Below.refl _ _⟩
  | some x =>
    have hc : ∀ j u, (zs.map (Value.int .u8))[j]? = some u → w.cell? (x.add j) = some u := fun j u hj => by
      obtain ⟨b, off, ha, hcl⟩ := hat j u hj
      cases ha
      rw [addr_add]
      exact hcl
    have HC := Lib.hid hc
    have HL := Lib.hid hl
    have HN := Lib.hid hn
    clear hc hl hi hz0 hz1 hz2 hn hat
    go_enter Try.func36, Try.ntmps36
    go_wp2_with (at_builtin; refine wpList_append_own _ rfl _ _ 22 rfl w.heap.size 5 i0 _ 1 1 Try.underlying22 HI.out.1 HI.out.2.1 HI.out.2.2.1 HI.out.2.2.2 rfl (by decide) _ _ _ rfl (World.ownsRow_made w #[] 0 (Nat.le_refl _) (Nat.zero_le _) (by simp)) x n c (zs.map (Value.int .u8)) rfl ?qc1 ?qc2 ?qc3 ?qc4 ?qc5 ?qc6 ?_)
    case qc1 => rw [List.length_map, HL.out, Nat.mul_one]
    case qc2 =>
      intro j u hj
      exact Lib.cell?_alloc_some _ (HC.out j u hj)
    case qc3 => exact u8_one zs
    case qc4 => have := HN.out; unfold maxLen; omega
    case qc5 => have := HN.out; omega
    case qc6 => simp
    intro v' w1 hown hgrow hnil
    go_wp2
    go_ret
    refine ⟨v', rfl, by simpa using hown, ?_⟩
    exact ((Below.refl _ w).alloc (Nat.le_refl _) _).grown hgrow (by simp) (by intro k hk; simp [Value.ownBlock] at hk; omega)

end Go.Proofs.Ytbljgoieieoamaa
