/-
  SpanSorted: the walk.
-/
import Derived.Test.YtlkcnfkfccfhmaaSpO
import Derived.Test.YtlkcnfkfccfhmaaSpG
import Derived.Deep.AppendLies
import Derived.Deep.RegionHeldLaw
namespace Go.Proofs.Ytlkcnfkfccfhmaa
open Go.RowKit Go.Sort
set_option linter.unusedVariables false

set_option maxHeartbeats 400000 in
theorem ours_made (f t : Int) (w : World) :
    Calls Try.prog 9 #[.agg #[.int .i64 f, .int .i64 t]] w fun e w' => e = .returned (.agg #[.int .i64 f, .int .i64 t]) ∧ (w.alloc (.cells #[.int .i64 f, .int .i64 t] 23)).alloc (.cells #[.int .i64 f, .int .i64 t] 24) = w' := by
  go_enter Try.func9, Try.ntmps9
  go_wp2
  exact bodyPost_ret (v := .agg #[.int .i64 f, .int .i64 t]) (by simp [results, Try.results9, go_sem]) rfl ⟨rfl, rfl⟩

theorem ours_grown (f t : Int) (w : World) :
    Calls Try.prog 9 #[.agg #[.int .i64 f, .int .i64 t]] w fun e w' => e = .returned (.agg #[.int .i64 f, .int .i64 t]) ∧ ∃ q os', w' = grow (w.drewN q) os' :=
  (ours_made f t w).mono fun e w' ⟨he, hw⟩ => ⟨he, 0, #[_, _], hw.symm.trans (two_grown _ _ _)⟩

/-- The program's Sorted at a row that the call owns. -/
theorem psorted_own (base : Nat) (ma : Option Addr) (mc M : Nat) (ys : List Tri) (w : World) (hl : ys.length = M) (h30 : M ≤ 30) (hown : w.ownsRow base 45 3 (.slice ma M mc) M (cellsD ys)) :
    Calls Try.prog 17 #[.slice ma M mc] w fun e w' => ∃ v, e = .returned v ∧ w'.ownsRow w.heap.size 45 3 v M (cellsD (srtD ys)) ∧ Below w.heap.size w w' := by
  have hcc := AtCells.of_owns hown
  rcases hown.2 with ⟨hv, h0⟩ | ⟨g, c, cur, hv, _⟩
  · simp only [Value.slice.injEq] at hv
    obtain ⟨rfl, _, rfl⟩ := hv
    subst h0
    obtain rfl : ys = [] := List.eq_nil_of_length_eq_zero hl
    refine (psorted_none w).mono ?_
    rintro e w' ⟨rfl, rfl⟩
    exact ⟨_, rfl, by rw [show srtD [] = [] from by simp [srtD]]; exact World.ownsRow_nil _ _ _ _, Below.refl _ _⟩
  · simp only [Value.slice.injEq] at hv
    obtain ⟨rfl, _, rfl⟩ := hv
    exact psorted_any g 0 M mc ys w hl h30 fun j u hj => by
      obtain ⟨b, off, hb, hc⟩ := hcc j u hj
      simp only [Option.some.injEq, Addr.mk.injEq] at hb
      obtain ⟨rfl, rfl, _⟩ := hb
      exact hc

set_option maxHeartbeats 2000000 in
set_option maxRecDepth 100000 in
theorem spanSorted_walk (a : Option Addr) (n cap : Nat) (zs : List Tri) (w : World) (hA : ArgD w a n cap zs) :
    Calls Try.prog 6 #[.slice a n cap] w fun e w' => e = .returned (.bool true) ∧ Below w.heap.size w w' := by
  obtain ⟨i0, hi, hz0, hz1, hz2⟩ := info_parts Try.infoDiag
  have HI := Lib.hid (And.intro hi (And.intro hz0 (And.intro hz1 hz2)))
  have HA := Lib.hid hA
  have mixed : Try.prog.follows .mixedOrders = true := by kernel_rfl
  clear hA hi hz0 hz1 hz2
  go_enter Try.func6, Try.ntmps6
  go_wp2
  go_loopw [3, 12] (fun v o wr => ∃ i : Nat, o = .int .i64 i ∧ i ≤ n ∧ wr.ownsRow w.heap.size 45 3 v (min i 30) (cellsD (zs.take (min i 30))) ∧ Below w.heap.size w wr) (fun _ o _ => n - (intOf o).toNat)
  case atStart => exact ⟨0, rfl, Nat.zero_le _, World.ownsRow_nil _ _ _ _, Below.refl _ _⟩
  case round =>
    obtain ⟨i, rfl, hin, hown, hbl⟩ := hrel
    by_cases hlt : i < n
    · have hltz : (i : Int) < (n : Int) := by omega
      obtain ⟨x, hx⟩ : ∃ x, zs[i]? = some x := ⟨_, List.getElem?_eq_getElem (by rw [HA.out.len]; exact hlt)⟩
      obtain ⟨b, off, rfl, c0, c1, c2⟩ := triple_at (HA.out.at_.below hbl) hx
      have hwi : IntKind.i64.wrap ((i : Int) + 1) = (i : Int) + 1 := by have h1 := HA.out.le; have h2 := HA.out.max; unfold maxLen at h2; rw [IntKind.wrap_i64]; omega
      have HO := Lib.hid (And.intro hown hbl)
      have HX := Lib.hid hx
      clear hown hbl hx
      obtain ⟨x0, x1, x2⟩ := x
      simp only at c0 c1 c2
      by_cases h30 : i < 30
      · have h30z : (i : Int) < 30 := by omega
        have hmi : min i 30 = i := by omega
        rw [hmi] at HO
        clear hmi
        obtain ⟨ma, mc, rfl, hmc⟩ := owns_slice HO.out.1
        go_upto_region 6 with fail
        obtain ⟨p, hp⟩ : ∃ p, p = wr.heap.size := ⟨_, rfl⟩
        obtain ⟨W1, hW1⟩ : ∃ W1, W1 = wr.alloc (.cells #[.int .i64 x0, .int .i64 x1, .int .i64 x2] 43) := ⟨_, rfl⟩
        rw [← hp, ← hW1]
        have hbW : Below wr.heap.size wr W1 := by rw [hW1]; exact bl1 _ _
        have hD : AtCells W1 (some ⟨p, 0, none⟩) (cellsD [(x0, x1, x2)]) := by rw [hW1, hp]; exact at_box wr [.int .i64 x0, .int .i64 x1, .int .i64 x2] _
        obtain ⟨pb, po, hpp, d0, d1, d2⟩ := triple_at hD (k := 0) (x := (x0, x1, x2)) rfl
        simp only [Option.some.injEq, Addr.mk.injEq] at hpp
        obtain ⟨rfl, rfl, _⟩ := hpp
        simp only [Nat.zero_mul, Nat.zero_add] at d0 d1 d2
        have HO1 := Lib.hid (And.intro (owns_below HO.out.1 hbW) (HO.out.2.trans (hbW.mono HO.out.2.size)))
        have h30' : (i + 1 ≤ maxLen) ∧ (i + 1) * 24 ≤ 140737488355328 := by unfold maxLen; omega
        have hne : some p ≠ (Value.slice ma i mc).ownBlock := fun h => absurd (HO.out.1.lt _ h.symm).2 (by rw [hp]; omega)
        have HNE := Lib.hid hne
        have HM := Lib.hid h30'
        have D0 := Lib.hid d0
        have D1 := Lib.hid d1
        have D2 := Lib.hid d2
        clear hp hW1 hbW c0 c1 c2 hD h30' d0 d1 d2 hne
        go_region_held_law (fun W => W.cell? ⟨p, 0, none⟩ = some (.int .i64 x0) ∧ W.cell? ⟨p, 1, none⟩ = some (.int .i64 x1) ∧ W.cell? ⟨p, 2, none⟩ = some (.int .i64 x2))
          ((refine ⟨?_, ?_, ?_⟩ <;> (repeat (first | (with_reducible exact E0) | (with_reducible exact E1) | (with_reducible exact E2) | (with_reducible exact D0.out) | (with_reducible exact D1.out) | (with_reducible exact D2.out) | (with_reducible refine kp_alloc _ ?_) | (with_reducible refine kp_drew ?_)))))
          (first
            | (go_at_call 9; (with_reducible refine (ours_made _ _ _).mono ?_); rintro e w1 ⟨rfl, rfl⟩)
            | (refine step_append_lies _ rfl _ _ 41 rfl w.heap.size 45 i0 _ 3 24 Try.underlying41 HI.out.1 HI.out.2.1 HI.out.2.2.1 HI.out.2.2.2 rfl (by decide) (.slice ma i mc) i (cellsD (zs.take i)) rfl (owns_below HO1.out.1 (bl3 _ _ _ _).drew) ⟨W1.heap.size + 1 + 1, 0, none⟩ 1 1 [.int .i64 x0, .int .i64 x1, .int .i64 x2] rfl rfl (new_cells_at ((W1.alloc (.cells #[.int .i64 x0, .int .i64 x1] 23)).alloc (.cells #[.int .i64 x0, .int .i64 x1] 24)) _ _ _ (by simp)) (encD_one (x0, x1, x2)) (by decide) HM.out.1 HM.out.2 (Nat.le_trans HO1.out.2.size (bl3 _ _ _ _).drew.size) _ rfl ?_; intro g gc w5 hown5 hg5 _ _; have E0 := hg5.cell (a := ⟨p, 0, none⟩) (kp_drew (kp_alloc _ (kp_alloc _ (kp_alloc _ D0.out)))) HNE.out; have E1 := hg5.cell (a := ⟨p, 1, none⟩) (kp_drew (kp_alloc _ (kp_alloc _ (kp_alloc _ D1.out)))) HNE.out; have E2 := hg5.cell (a := ⟨p, 2, none⟩) (kp_drew (kp_alloc _ (kp_alloc _ (kp_alloc _ D2.out)))) HNE.out; have HF := Lib.hid (And.intro hown5 (((bl3 _ _ _ _).drew.mono HO1.out.2.size).grown hg5 (Nat.le_trans HO1.out.2.size (bl3 _ _ _ _).drew.size) (fun k hk => (HO.out.1.lt k hk).1))); clear hown5 hg5))
        go_wp2
        go_roundw
        case rel =>
          have e : min (i + 1) 30 = i + 1 := by omega
          refine ⟨i + 1, by go_num, by omega, ?_, HO1.out.2.trans HF.out.2⟩
          rw [e, List.take_add_one, HX.out, cellsD_append]
          exact HF.out.1
        case measure => simp [intOf]; omega
      · have h30z : ¬ (i : Int) < 30 := by omega
        go_wp2
        go_roundw
        case rel =>
          have e : min (i + 1) 30 = min i 30 := by omega
          refine ⟨i + 1, by go_num, by omega, ?_, HO.out.2.trans ((bl1 _ _).mono HO.out.2.size)⟩
          rw [e]
          exact owns_below HO.out.1 (bl1 _ _)
        case measure => simp [intOf]; omega
    · have hltz : ¬ (i : Int) < (n : Int) := by omega
      obtain rfl : i = n := by omega
      obtain ⟨M, hM⟩ : ∃ M, M = min i 30 := ⟨_, rfl⟩
      rw [← hM] at hown
      have hMi : M ≤ i := by omega
      have hM30 : M ≤ 30 := by omega
      have hic := HA.out.le
      have hlen : (zs.take M).length = M := by rw [List.length_take, HA.out.len]; omega
      have hat := (HA.out.at_.below hbl).take (M * 3)
      rw [cellsD_take] at hat
      generalize zs.take M = ys at hown hlen hat
      obtain ⟨ma, mc, rfl, hmc⟩ := owns_slice hown
      have HP := Lib.hid (fun W (hb : Below wr.heap.size wr W) => psorted_own w.heap.size ma mc M ys W hlen hM30 (owns_below hown hb))
      have HR := Lib.hid (fun W (hb : Below wr.heap.size wr W) => rsorted_any a M cap ys W hlen hM30 (by omega) (hat.below hb))
      have HB := Lib.hid hbl
      have HLS := Lib.hid (show (srtD ys).length = M by rw [srtD_length, hlen])
      have HM30 := Lib.hid hM30
      have hr0 : Below wr.heap.size wr wr.drew := (Below.refl _ _).drew
      have hMz : (M : Int) ≤ (i : Int) := by omega
      have hiz : (i : Int) ≤ (cap : Int) := by omega
      have hMc : (M : Int) ≤ (cap : Int) := by omega
      clear hown hbl hM hlen hat hM30
      go_wp2_with fail
      go_region_with (first
        | (go_at_call 17; refine (HP.out _ hr0).mono ?_; rintro e w1 ⟨v1, rfl, hown1, hb1⟩; obtain ⟨a1, c1, rfl, hc1⟩ := owns_slice hown1; have hb1' := Below.more hr0 hb1; have HO1 := Lib.hid (AtCells.of_owns hown1); clear hown1 hb1)
        | (go_at_call 18; refine (HR.out _ hb1').mono ?_; rintro e w2 ⟨v2, rfl, hown2, hb2⟩; obtain ⟨a2, c2, rfl, hc2⟩ := owns_slice hown2; have HB2 := Lib.hid (Below.more hb1' hb2); have HO2 := Lib.hid (And.intro (HO1.out.below hb2) (AtCells.of_owns hown2)); clear hown2 hb2))
      obtain ⟨w3, hw3⟩ : ∃ w3, w3 = w2 := ⟨_, rfl⟩
      rw [← hw3] at HB2 HO2 ⊢
      generalize srtD ys = S at HLS HO2
      clear hw3 HO1 HP HR hr0 hb1'
      go_wp2
      go_loopw [43] (fun o wr2 => ∃ j : Nat, o = .int .i64 j ∧ j ≤ M ∧ Below w3.heap.size w3 wr2) (fun o _ => M - (intOf o).toNat)
      case atStart => exact ⟨0, rfl, Nat.zero_le _, Below.refl _ _⟩
      case round =>
        obtain ⟨j, rfl, hjM, hb4⟩ := hrel
        have HB4 := Lib.hid hb4
        by_cases hjl : j < M
        · have hjz : (j : Int) < (M : Int) := by omega
          obtain ⟨x, hx⟩ : ∃ x, S[j]? = some x := ⟨_, List.getElem?_eq_getElem (by rw [HLS.out]; exact hjl)⟩
          obtain ⟨b1, o1, rfl, c0, c1', c2'⟩ := triple_at (HO2.out.1.below hb4) hx
          obtain ⟨b2, o2, rfl, d0, d1, d2⟩ := triple_at (HO2.out.2.below hb4) hx
          have hwj : IntKind.i64.wrap ((j : Int) + 1) = (j : Int) + 1 := by have := HM30.out; rw [IntKind.wrap_i64]; omega
          obtain ⟨x0, x1, x2⟩ := x
          simp only at c0 c1' c2' d0 d1 d2
          clear hb4 hx
          go_upto_region 14 with fail
          obtain ⟨p, hp⟩ : ∃ p, p = wr.heap.size := ⟨_, rfl⟩
          have c0a := kp_alloc (.cells #[.int .i64 x0, .int .i64 x1, .int .i64 x2] 43) c0
          have c1a := kp_alloc (.cells #[.int .i64 x0, .int .i64 x1, .int .i64 x2] 43) c1'
          have c2a := kp_alloc (.cells #[.int .i64 x0, .int .i64 x1, .int .i64 x2] 43) c2'
          have hb5 : Below wr.heap.size wr (wr.alloc (.cells #[.int .i64 x0, .int .i64 x1, .int .i64 x2] 43)) := bl1 _ _
          have hD : AtCells (wr.alloc (.cells #[.int .i64 x0, .int .i64 x1, .int .i64 x2] 43)) (some ⟨p, 0, none⟩) (cellsD [(x0, x1, x2)]) := by rw [hp]; exact at_box wr [.int .i64 x0, .int .i64 x1, .int .i64 x2] _
          rw [← hp]
          generalize wr.alloc (.cells #[.int .i64 x0, .int .i64 x1, .int .i64 x2] 43) = W1 at c0a c1a c2a hb5 hD ⊢
          obtain ⟨pb, po, hpp, e0, e1, e2⟩ := triple_at hD (k := 0) (x := (x0, x1, x2)) rfl
          simp only [Option.some.injEq, Addr.mk.injEq] at hpp
          obtain ⟨rfl, rfl, _⟩ := hpp
          simp only [Nat.zero_mul, Nat.zero_add] at e0 e1 e2
          have HB5 := Lib.hid (HB4.out.trans (hb5.mono HB4.out.size))
          have g0 := grown_cells e0
          have g1 := grown_cells e1
          have g2 := grown_cells e2
          have f0 := grown_cells c0a
          have f1 := grown_cells c1a
          have f2 := grown_cells c2a
          clear hp c0 c1' c2' d0 d1 d2 c0a c1a c2a hb5 hD e0 e1 e2
          go_quiet_grown (first | (go_at_call 9; refine Calls.grown_of (ours_grown _ _ _)))
          go_wp2
          go_roundw
          case rel => exact ⟨j + 1, by go_num, by omega, below_grow HB5.out HB5.out.size _ _⟩
          case measure => simp [intOf]; omega
        · have hjz : ¬ (j : Int) < (M : Int) := by omega
          obtain rfl : j = M := by omega
          clear hb4
          go_wp2_with (go_at_call 13; (with_reducible refine (awake_any _).mono ?_); rintro e w5 ⟨rfl, hb5⟩)
          go_ret
          exact ⟨rfl, HB.out.trans ((HB2.out.trans (((HB4.out.trans (hb5.mono HB4.out.size))).mono HB2.out.size)).mono HB.out.size)⟩
end Go.Proofs.Ytlkcnfkfccfhmaa
