/-
  Contract of layer 9: declEnds: a range over slices.Backward that writes what it goes over.
-/
import Derived.Test.YtpjcheelafegbaaBwdR
import Derived.Test.YtpjcheelafegbaaDxP
import Derived.Laws.OwnMore
import Derived.RangeFuncWrites
import Derived.RangeFuncFrom
import Derived.OwnWalkIn
import Derived.IntWalk
import Derived.Test.YtpjcheelafegbaaTailIn
namespace Go.Proofs.Ytpjcheelafegbaa
open Go.RowKit Go.Shelf
set_option linter.unusedVariables false
attribute [local go_sem] Oper.semAt_some

/-- One round: what is told of each place; of the place in single quotes, in double ones. -/
def stp (st : List Int × Int × Int) (i : Nat) (r : Int) : List Int × Int × Int :=
  if r = 62 then ((st.1.set i (st.1.getD (i + 1) 0)).set i ((i : Int) + 1), st.2)
  else if r = 39 then ((st.1.set i (st.1.getD (i + 1) 0)).set i st.2.1, st.1.getD (i + 1) 0, st.2.2)
  else if r = 34 then ((st.1.set i (st.1.getD (i + 1) 0)).set i st.2.2, st.2.1, st.1.getD (i + 1) 0)
  else (st.1.set i (st.1.getD (i + 1) 0), st.2)
theorem stp_length (st : List Int × Int × Int) (i : Nat) (r : Int) : (stp st i r).1.length = st.1.length := by
  unfold stp
  repeat' split
  all_goals simp
def stps {zs : List Int} (n : Nat) (pre : List (BxR zs)) : List Int × Int × Int := pre.foldl (fun st x => stp st x.1.1 x.1.2) (List.replicate (n + 1) 0, 0, 0)
theorem stps_snoc {zs : List Int} (n : Nat) (pre : List (BxR zs)) (x : BxR zs) : stps n (pre ++ [x]) = stp (stps n pre) x.1.1 x.1.2 := by simp [stps]
theorem stps_length {zs : List Int} (n : Nat) (pre : List (BxR zs)) : (stps n pre).1.length = n + 1 := by
  unfold stps
  rw [← List.foldr_reverse]
  induction pre.reverse with
  | nil => simp
  | cons x l ih => rw [List.foldr_cons, stp_length, ih]

/-- The row of places, and the three boxes. -/
structure DE (W : World) (ga n B3 B4 B5 : Nat) (st : List Int × Int × Int) : Prop where
  cells : ∀ j, j < n + 1 → W.cell? ⟨ga, j, none⟩ = some (.int .i64 (st.1.getD j 0))
  frz : ∀ j, j < n + 1 → W.frozen? ⟨ga, j, none⟩ = false
  c3 : W.cell? ⟨B3, 0, none⟩ = some (.slice (some ⟨ga, 0, none⟩) (n + 1) (n + 1))
  c4 : W.cell? ⟨B4, 0, none⟩ = some (.int .i64 st.2.1)
  c5 : W.cell? ⟨B5, 0, none⟩ = some (.int .i64 st.2.2)
  f4 : W.frozen? ⟨B4, 0, none⟩ = false
  f5 : W.frozen? ⟨B5, 0, none⟩ = false

/-- What a round may do: all that is no cells, all below n₀, and the iterator's box are as they were. -/
structure RoundOk (n₀ Bs : Nat) (W W' : World) : Prop where
  keeps : KeepsOthers W W'
  below : Below n₀ W W'
  box : W'.heap[Bs]? = W.heap[Bs]?
theorem RoundOk.drew {n₀ Bs : Nat} {W W' : World} (h : RoundOk n₀ Bs W W') : RoundOk n₀ Bs W W'.drew := ⟨h.keeps.trans (KeepsOthers.drew _), h.below.drew, h.box⟩
theorem RoundOk.set {n₀ Bs g j : Nat} {W W' : World} (h : RoundOk n₀ Bs W W') (hg : n₀ ≤ g) (hne : g ≠ Bs) (u : Value) : RoundOk n₀ Bs W (W'.setCell ⟨g, j, none⟩ u) :=
  ⟨h.keeps.trans (KeepsOthers.setCell _ _ _), h.below.setCell (p := ⟨g, j, none⟩) hg _, (heap_setCell_other W' ⟨g, j, none⟩ Bs u (fun e => hne e.symm)).trans h.box⟩

theorem DE.drew {W : World} {ga n B3 B4 B5 : Nat} {st : List Int × Int × Int} (h : DE W ga n B3 B4 B5 st) : DE W.drew ga n B3 B4 B5 st := ⟨h.cells, h.frz, h.c3, h.c4, h.c5, h.f4, h.f5⟩
theorem cell_off {W : World} {g j : Nat} {a : Addr} (u : Value) (h : g ≠ a.block) : (W.setCell ⟨g, j, none⟩ u).cell? a = W.cell? a := World.cell?_setCell_other _ _ _ _ (fun e => h (by rw [← e]))
theorem DE.put {W : World} {ga n B3 B4 B5 : Nat} {E : List Int} {s d : Int} (h : DE W ga n B3 B4 B5 (E, s, d)) (i : Nat) (v : Int) (hi : i < n + 1) (hl : E.length = n + 1) (h3 : ga ≠ B3) (h4 : ga ≠ B4) (h5 : ga ≠ B5) : DE (W.setCell ⟨ga, i, none⟩ (.int .i64 v)) ga n B3 B4 B5 (E.set i v, s, d) := by
  refine ⟨fun j hj => ?_, fun j hj => by rw [World.frozen?_setCell]; exact h.frz j hj, by rw [cell_off _ h3]; exact h.c3, by rw [cell_off _ h4]; exact h.c4, by rw [cell_off _ h5]; exact h.c5, by rw [World.frozen?_setCell]; exact h.f4, by rw [World.frozen?_setCell]; exact h.f5⟩
  by_cases hij : i = j
  · subst hij
    rw [World.cell?_setCell_same' _ _ _ (by rw [h.cells i hi]; rfl)]
    simp [hl, hi]
  · rw [World.cell?_setCell_other _ _ _ _ (fun e => hij (by cases e; rfl)), h.cells j hj]
    simp [List.getElem?_set_ne hij]
theorem DE.put4 {W : World} {ga n B3 B4 B5 : Nat} {E : List Int} {s d : Int} (h : DE W ga n B3 B4 B5 (E, s, d)) (v : Int) (h3 : B4 ≠ B3) (h4 : B4 ≠ ga) (h5 : B4 ≠ B5) : DE (W.setCell ⟨B4, 0, none⟩ (.int .i64 v)) ga n B3 B4 B5 (E, v, d) :=
  ⟨fun j hj => by rw [cell_off _ h4]; exact h.cells j hj, fun j hj => by rw [World.frozen?_setCell]; exact h.frz j hj, by rw [cell_off _ h3]; exact h.c3, World.cell?_setCell_same' _ _ _ (by rw [h.c4]; rfl), by rw [cell_off _ h5]; exact h.c5, by rw [World.frozen?_setCell]; exact h.f4, by rw [World.frozen?_setCell]; exact h.f5⟩
theorem DE.put5 {W : World} {ga n B3 B4 B5 : Nat} {E : List Int} {s d : Int} (h : DE W ga n B3 B4 B5 (E, s, d)) (v : Int) (h3 : B5 ≠ B3) (h4 : B5 ≠ ga) (h5 : B5 ≠ B4) : DE (W.setCell ⟨B5, 0, none⟩ (.int .i64 v)) ga n B3 B4 B5 (E, s, v) :=
  ⟨fun j hj => by rw [cell_off _ h4]; exact h.cells j hj, fun j hj => by rw [World.frozen?_setCell]; exact h.frz j hj, by rw [cell_off _ h3]; exact h.c3, by rw [cell_off _ h5]; exact h.c4, World.cell?_setCell_same' _ _ _ (by rw [h.c5]; rfl), by rw [World.frozen?_setCell]; exact h.f4, by rw [World.frozen?_setCell]; exact h.f5⟩

theorem DE.own (ga n B3 B4 B5 : Nat) {α : Type} (f : List α → List Int × Int × Int) : Own (fun pre W => DE W ga n B3 B4 B5 (f pre)) := fun s A B row h hg hr =>
  ⟨fun j hj => cell_kept (h.cells j hj) hg hr, fun j hj => (frozen_kept (h.cells j hj) hg hr).trans (h.frz j hj), cell_kept h.c3 hg hr, cell_kept h.c4 hg hr, cell_kept h.c5 hg hr, (frozen_kept h.c4 hg hr).trans h.f4, (frozen_kept h.c5 hg hr).trans h.f5⟩

/-- A row that is made in a fenced walk, at its whole length. -/
theorem made_in {F : Fence} {n : Nat} {P : Program} (w : World) {ops : Array Oper} {rest : List Oper} {o : Oper} {a : Act} {Q : Exit → Act → World → Prop}
    (hg : o.guard = none) (l c : Operand) (t : TypeId) (hop : o.op = Op.makeSlice t l c)
    (base : Nat) (e : TypeId) (i : TypeInfo) (z : Value) (size : Nat) (h1 : P.underlying t = some (.slice e)) (h2 : P.info? e = some i) (h3 : i.zero = some z) (h4 : i.size = size)
    (L C : Int) (m : Nat) (hl : a.eval l = .int .i64 L) (hc : a.eval c = .int .i64 C) (hL : L = (m : Int)) (hC : C = (m : Int)) (b2 : i.bytes * m ≤ 281474976710656) (b3 : m ≤ maxLen) (b4 : base ≤ w.heap.size)
    (hK : ∀ w', w'.ownsRow base e size (.slice (some ⟨w.heap.size, 0, none⟩) m m) m (madeCells z.cells (m * size)).toList → w.grownBy w' none → wpListIn F n P ops Q rest (a.put o.dst (.slice (some ⟨w.heap.size, 0, none⟩) m m)) w') :
    wpListIn F n P ops Q (o :: rest) a w := by
  refine wpListIn_plain hg fun K hK' => ?_
  obtain ⟨w', hrun, r1, r2⟩ := run_make_full (P := P) w base t e i z size h1 h2 h3 h4 .i64 .i64 m b2 b3 b4
  subst hL
  subst hC
  unfold Oper.wpIn
  refine ⟨?_, ?_⟩
  · simp [Oper.about, hop]
  · rw [Oper.semAt_plain F _ _ (by rw [hop]; intro c hc'; cases hc')]
    simp [execOp, hop, hl, hc, hrun, Result.andThen]
    exact hK' _ _ (hK w' r1 r2)

theorem Try.infoInt : (Try.prog.info? 3).map (fun i => (i.zero, i.size, i.bytes)) = some (some (.int .i64 0), 1, 8) := by kernel_rfl

set_option maxRecDepth 100000 in
set_option maxHeartbeats 2000000 in
theorem declEnds_in (F : Fence) (n : Nat) (h3 : F.fn 85) (h5 : F.fn 96) (h7 : F.fn 100) (hro : F.round = none) (hn : 3 ≤ n) (a : Option Addr) (cap : Nat) (zs : List Int) (hreach : zs.length ≤ 1000) (w : World) (hI : LiesR w.heap.size w a zs) :
    CallsIn F n Try.prog 85 #[.slice a zs.length cap] w fun e W' => (∃ ga, e = .returned (.slice (some ⟨ga, 0, none⟩) (zs.length + 1) (zs.length + 1)) ∧ w.heap.size ≤ ga ∧ (∀ j, j < zs.length + 1 → W'.cell? ⟨ga, j, none⟩ = some (.int .i64 ((stps zs.length (downR zs 0 (Nat.zero_le _))).1.getD j 0)))) ∧ Below w.heap.size w W' := by
  have h1 : 1 ≤ n := by omega
  obtain ⟨i0, hi, hz0, hz1, hz2⟩ := info_parts Try.infoInt
  refine callsIn_of_wp_marks Try.func85 rfl h3 ?_ hro
  simp only [Try.ntmps85, List.size_toArray, List.length_cons, List.length_nil, Nat.reduceAdd, Nat.reduceSub, Array.replicate_succ, Array.replicate_zero, List.push_toArray, List.append_toArray, List.nil_append, List.cons_append]
  gi_wp2_with (first
    | (gi_at_make; refine made_in _ rfl _ _ 101 rfl w.heap.size 3 i0 (.int .i64 0) 1 Try.underlying101 hi hz0 hz1 _ _ (zs.length + 1) rfl rfl (by omega) (by omega) (by rw [hz2]; omega) (by unfold maxLen; omega) (Nat.le_refl _) ?_; intro w1 hown1 hg1)
    | (gi_at_call 96; refine (bwdR_at F (n - 1) h5 hro _ _ _ _).mono ?_; rintro e w' ⟨rfl, rfl⟩))
  obtain ⟨W0, hW0⟩ : ∃ W0, W0 = ((((w1.alloc (.cells #[.slice (some ⟨w.heap.size, 0, none⟩) (zs.length + 1) (zs.length + 1)] 101)).alloc (.cells #[.int .i64 0] 3)).alloc (.cells #[.int .i64 0] 3)).alloc (.cells #[.slice a zs.length cap] 22)) := ⟨_, rfl⟩
  have hb1 : Below w.heap.size w w1 := (Below.refl w.heap.size w).grown hg1 (Nat.le_refl _) (fun k hk => by cases hk)
  have hb10 : Below w1.heap.size w1 W0 := by rw [hW0]; exact Below.more (two_ok w1 _ _) (two_ok _ _ _)
  have hB0 : Below w.heap.size w W0 := hb1.trans (hb10.mono hb1.size)
  have hsz : W0.heap.size = w1.heap.size + 4 := by rw [hW0]; simp only [World.size_alloc]
  have hDE : DE W0 w.heap.size zs.length w1.heap.size (w1.heap.size + 1) (w1.heap.size + 1 + 1) (stps zs.length ([] : List (BxR zs))) := by
    have cw1 : ∀ j, j < zs.length + 1 → w1.cell? ⟨w.heap.size, j, none⟩ = some (.int .i64 0) := fun j hj => by
      rw [hown1.cellAt j (by omega)]
      show (madeCells #[Value.int .i64 0] ((zs.length + 1) * 1)).toList[j]? = _
      rw [toList_madeCells_one, Nat.mul_one, List.getElem?_replicate, if_pos hj]
    have hlt0 : w.heap.size < w1.heap.size := (hown1.lt _ rfl).2
    refine ⟨fun j hj => ?_, fun j hj => ?_, ?_, ?_, ?_, ?_, ?_⟩
    · rw [hb10.cell (p := ⟨w.heap.size, j, none⟩) hlt0, cw1 j hj]
      simp only [stps, List.foldl_nil]
      rw [List.getD_eq_getElem?_getD, List.getElem?_replicate, if_pos hj]
      rfl
    · rw [hb10.frozen (p := ⟨w.heap.size, j, none⟩) hlt0]
      exact hown1.frozenAt j
    all_goals rw [hW0]
    all_goals simp [stps, go_sem]
  have hcs : W0.cell? ⟨w1.heap.size + 1 + 1 + 1, 0, none⟩ = some (.slice a zs.length cap) := by rw [hW0]; exact (World.cell?_alloc_at _ _ _ 0 (by simp only [World.size_alloc])).trans rfl
  rw [← hW0]
  have hws : w.heap.size < w1.heap.size := (hown1.lt _ rfl).2
  clear hW0 hown1 hg1 hi hz0 hz1 hz2
  refine wpIn_rangeFunc_ownG hro h1 (gf := 100) (lb := #[.pointer (some ⟨w1.heap.size + 1 + 1 + 1, 0, none⟩)]) rfl h7 (enters_of Try.func100 (by kernel_rfl) rfl)
    (bwdR_stops F (n - 1) h7 hro (by omega) (w1.heap.size + 1 + 1 + 1) w.heap.size cap a zs (by omega) W0 (by omega) (by omega) hcs (hI.below hB0))
    KpBR.trans (fun W l o o' hl hW hc hk => ⟨belowK_b (w := W0) (by omega) W l o o' hl hW hc hk, (grownBy_putObj' W l o').block _ (by have := (Array.getElem?_eq_some_iff.1 hW).1; omega) (fun e => by cases e; omega)⟩) (Below.refl _ _) (fun _ => rfl)
    (fun pre W => DE W w.heap.size zs.length w1.heap.size (w1.heap.size + 1) (w1.heap.size + 1 + 1) (stps zs.length pre) ∧ Below w.heap.size w W)
    (fun _ _ _ => False)
    (OwnFrom.and (Own.from (DE.own _ _ _ _ _ _) _) (ownFrom_below (Nat.le_refl _) (by omega)))
    (fun _ _ _ _ _ hs _ _ => hs)
    ⟨hDE, hB0⟩
    (fun x => { tmps := #[.slice a zs.length cap, undef, .slice none 0 0, .pointer (some ⟨w1.heap.size, 0, none⟩), .pointer (some ⟨w1.heap.size + 1, 0, none⟩), .pointer (some ⟨w1.heap.size + 1 + 1, 0, none⟩), .int .i64 (x.1.1 : Int), .int .i32 x.1.2, .slice a zs.length cap, .int .i64 zs.length, .int .i64 ((zs.length : Int) + 1), .slice (some ⟨w.heap.size, 0, none⟩) (zs.length + 1) (zs.length + 1), .slice a zs.length cap, .func (.func 100) #[] #[.pointer (some ⟨w1.heap.size + 1 + 1 + 1, 0, none⟩)], .int .i64 (x.1.1 : Int), .int .i32 x.1.2, undef, undef, undef, undef, undef, undef, undef, undef, undef, undef, undef, undef, undef, undef, undef, undef, undef, undef, undef, undef, undef, undef, undef, undef, undef, undef, undef, undef, undef, undef, undef, undef, undef, undef, undef, undef, undef], defers := [] }) ?assign ?body ?done ?stop
  case assign =>
    intro l x W K hK
    gi_wp2
    exact hK
  case body =>
    rintro l pre x W ⟨hd, hB⟩ _
    have hi := x.2.1
    have HS := Lib.hid (stps_snoc zs.length pre x)
    generalize x.1.1 = i at hi HS ⊢
    generalize x.1.2 = r at HS ⊢
    have hEl := stps_length zs.length pre
    generalize stps zs.length pre = st at hd hEl HS
    obtain ⟨E, s, d⟩ := st
    simp only at hEl
    have c0 := hd.cells i (by omega)
    have c1 := hd.cells (i + 1) (by omega)
    have z0 := hd.frz i (by omega)
    have hd0 := hd
    obtain ⟨_, _, c3, c4, c5, f4, f5⟩ := hd
    simp only at c0 c1 c4 c5
    have i1 : (i : Int) < (zs.length : Int) := by omega
    have i2 : (i : Int) + 1 < (zs.length : Int) + 1 := by omega
    have i3 : (i : Int) < (zs.length : Int) + 1 := by omega
    obtain ⟨e0, he0⟩ : ∃ e0, E.getD i 0 = e0 := ⟨_, rfl⟩
    obtain ⟨e1, he1⟩ : ∃ e1, E.getD (i + 1) 0 = e1 := ⟨_, rfl⟩
    rw [he0] at c0
    rw [he1] at c1
    have HE := Lib.hid (And.intro he0 (And.intro he1 hEl))
    clear he0 he1 hEl
    have ew : IntKind.i64.wrap ((i : Int) + 1) = (i : Int) + 1 := IntWalk.i64_in _ (by omega)
    have e2 : (0 : Int) ≤ (i : Int) + 1 := by omega
    have e3 : ((i : Int) + 1).toNat = i + 1 := by omega
    have n1 : ¬ w.heap.size = w1.heap.size := by omega
    have n2 : ¬ w.heap.size = w1.heap.size + 1 := by omega
    have n3 : ¬ w.heap.size = w1.heap.size + 1 + 1 := by omega
    have m1 : ¬ w1.heap.size = w.heap.size := by omega
    have m2 : ¬ w1.heap.size + 1 = w.heap.size := by omega
    have m3 : ¬ w1.heap.size + 1 + 1 = w.heap.size := by omega
    have R0 : RoundOk w.heap.size (w1.heap.size + 1 + 1 + 1) W W := ⟨KeepsOthers.refl _, Below.refl _ _, rfl⟩
    have HC := Lib.hid (show DE W w.heap.size zs.length w1.heap.size (w1.heap.size + 1) (w1.heap.size + 1 + 1) (E, s, d) from hd0)
    by_cases h62 : r = 62
    · have HF := Lib.hid (show stps zs.length (pre ++ [x]) = ((E.set i (E.getD (i + 1) 0)).set i ((i : Int) + 1), s, d) by rw [HS.out]; unfold stp; rw [if_pos h62])
      subst h62
      gi_wp2
      refine region_tail_drew 8 (by kernel_rfl) (by kernel_rfl) (by kernel_rfl) ?_
      simp only [List.take_succ_cons, List.take_zero, List.drop_succ_cons, List.drop_zero]
      repeat still_step
      refine wpStill_nil ?_
      gi_wp2
      have D := ((HC.out.put i (E.getD (i + 1) 0) (by omega) HE.out.2.2 n1 n2 n3).put i ((i : Int) + 1) (by omega) (by rw [List.length_set]; exact HE.out.2.2) n1 n2 n3).drew
      have R := ((R0.set (g := w.heap.size) (j := i) (Nat.le_refl _) (by omega) (.int .i64 (E.getD (i + 1) 0))).set (g := w.heap.size) (j := i) (Nat.le_refl _) (by omega) (.int .i64 ((i : Int) + 1))).drew
      exact ⟨R.keeps.from _, ⟨R.below, R.box⟩, by rw [HF.out]; exact D, hB.trans R.below⟩
    by_cases h39 : r = 39
    · have HF := Lib.hid (show stps zs.length (pre ++ [x]) = ((E.set i (E.getD (i + 1) 0)).set i s, E.getD (i + 1) 0, d) by rw [HS.out]; unfold stp; rw [if_neg h62, if_pos h39])
      subst h39
      clear h62
      gi_wp2
      refine region_tail_drew 8 (by kernel_rfl) (by kernel_rfl) (by kernel_rfl) ?_
      simp only [List.take_succ_cons, List.take_zero, List.drop_succ_cons, List.drop_zero]
      repeat still_step
      refine wpStill_nil ?_
      gi_wp2
      refine region_tail_drew 8 (by kernel_rfl) (by kernel_rfl) (by kernel_rfl) ?_
      simp only [List.take_succ_cons, List.take_zero, List.drop_succ_cons, List.drop_zero]
      repeat still_step
      refine wpStill_nil ?_
      gi_wp2
      have D := (((HC.out.put i (E.getD (i + 1) 0) (by omega) HE.out.2.2 n1 n2 n3).put i s (by omega) (by rw [List.length_set]; exact HE.out.2.2) n1 n2 n3).put4 (E.getD (i + 1) 0) (by omega) (by omega) (by omega)).drew.drew
      have R := (((R0.set (g := w.heap.size) (j := i) (Nat.le_refl _) (by omega) (.int .i64 (E.getD (i + 1) 0))).set (g := w.heap.size) (j := i) (Nat.le_refl _) (by omega) (.int .i64 s)).set (g := w1.heap.size + 1) (j := 0) (by omega) (by omega) (.int .i64 (E.getD (i + 1) 0))).drew.drew
      exact ⟨R.keeps.from _, ⟨R.below, R.box⟩, by rw [HF.out]; exact D, hB.trans R.below⟩
    by_cases h34 : r = 34
    · have HF := Lib.hid (show stps zs.length (pre ++ [x]) = ((E.set i (E.getD (i + 1) 0)).set i d, s, E.getD (i + 1) 0) by rw [HS.out]; unfold stp; rw [if_neg h62, if_neg h39, if_pos h34])
      subst h34
      clear h62 h39
      gi_wp2
      refine region_tail_drew 8 (by kernel_rfl) (by kernel_rfl) (by kernel_rfl) ?_
      simp only [List.take_succ_cons, List.take_zero, List.drop_succ_cons, List.drop_zero]
      repeat still_step
      refine wpStill_nil ?_
      gi_wp2
      refine region_tail_drew 8 (by kernel_rfl) (by kernel_rfl) (by kernel_rfl) ?_
      simp only [List.take_succ_cons, List.take_zero, List.drop_succ_cons, List.drop_zero]
      repeat still_step
      refine wpStill_nil ?_
      gi_wp2
      have D := (((HC.out.put i (E.getD (i + 1) 0) (by omega) HE.out.2.2 n1 n2 n3).put i d (by omega) (by rw [List.length_set]; exact HE.out.2.2) n1 n2 n3).put5 (E.getD (i + 1) 0) (by omega) (by omega) (by omega)).drew.drew
      have R := (((R0.set (g := w.heap.size) (j := i) (Nat.le_refl _) (by omega) (.int .i64 (E.getD (i + 1) 0))).set (g := w.heap.size) (j := i) (Nat.le_refl _) (by omega) (.int .i64 d)).set (g := w1.heap.size + 1 + 1) (j := 0) (by omega) (by omega) (.int .i64 (E.getD (i + 1) 0))).drew.drew
      exact ⟨R.keeps.from _, ⟨R.below, R.box⟩, by rw [HF.out]; exact D, hB.trans R.below⟩
    · have HF := Lib.hid (show stps zs.length (pre ++ [x]) = (E.set i (E.getD (i + 1) 0), s, d) by rw [HS.out]; unfold stp; rw [if_neg h62, if_neg h39, if_neg h34])
      have q1 : (r == 62) = false := by simpa using h62
      have q2 : (r == 39) = false := by simpa using h39
      have q3 : (r == 34) = false := by simpa using h34
      gi_wp2
      refine region_tail_drew 8 (by kernel_rfl) (by kernel_rfl) (by kernel_rfl) ?_
      simp only [List.take_succ_cons, List.take_zero, List.drop_succ_cons, List.drop_zero]
      repeat still_step
      refine wpStill_nil ?_
      gi_wp2
      have D := (HC.out.put i (E.getD (i + 1) 0) (by omega) HE.out.2.2 n1 n2 n3).drew
      have R := (R0.set (g := w.heap.size) (j := i) (Nat.le_refl _) (by omega) (.int .i64 (E.getD (i + 1) 0))).drew
      exact ⟨R.keeps.from _, ⟨R.below, R.box⟩, by rw [HF.out]; exact D, hB.trans R.below⟩
  case done =>
    rintro D ys W hD rfl ⟨hd, hB⟩ hK
    have c3 := hd.c3
    gi_wp2
    refine ⟨by simp, .inl ⟨_, _, rfl, run_takeDeferred hK, ?_⟩⟩
    exact ⟨_, results_tmp rfl _ _ _, ⟨_, rfl, Nat.le_refl _, fun j hj => cell_kept (hd.cells j hj) (grownBy_putObj' _ D (.deferred none)) (fun r e => by cases e; exact ⟨_, hK, rfl⟩)⟩, hB.trans (belowK_b (w := w) (Nat.le_refl _) W D _ _ (by omega) hK rfl rfl)⟩
  case stop =>
    rintro D c pre W _ _ h _
    exact h.elim

end Go.Proofs.Ytpjcheelafegbaa
