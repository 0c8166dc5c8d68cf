/-
  SpanHas: the walk.
-/
import Derived.Test.YtlkcnfkfccfhmaaSpG
import Derived.Deep.RegionWith
import Derived.Deep.DeepCutAuto
import Derived.RegionTactic
import Derived.Deep.RegionHeld3
namespace Go.Proofs.Ytlkcnfkfccfhmaa
open Go.RowKit
set_option linter.unusedVariables false

set_option maxHeartbeats 400000 in
theorem ours_exact (f t : Int) (w : World) :
    Calls Try.prog 9 #[.agg #[.int .i64 f, .int .i64 t]] w fun e w' => e = .returned (.agg #[.int .i64 f, .int .i64 t]) ∧ (w.alloc (.cells #[.int .i64 f, .int .i64 t] 23)).alloc (.cells #[.int .i64 f, .int .i64 t] 24) = w' := by
  go_enter Try.func9, Try.ntmps9
  go_wp2
  exact bodyPost_ret (v := .agg #[.int .i64 f, .int .i64 t]) (by simp [results, Try.results9, go_sem]) rfl ⟨rfl, rfl⟩

/-- Two spans that came in, and two that were made of them. -/
structure TwoS (w wx : World) (p q : Nat) (f t f' t' : Int) : Prop where
  a0 : wx.cell? ⟨w.heap.size, 0, none⟩ = some (.int .i64 f)
  a1 : wx.cell? ⟨w.heap.size, 1, none⟩ = some (.int .i64 t)
  b0 : wx.cell? ⟨w.heap.size + 1, 0, none⟩ = some (.int .i64 f')
  b1 : wx.cell? ⟨w.heap.size + 1, 1, none⟩ = some (.int .i64 t')
  p0 : wx.cell? ⟨p, 0, none⟩ = some (.int .i64 f)
  p1 : wx.cell? ⟨p, 1, none⟩ = some (.int .i64 t)
  q0 : wx.cell? ⟨q, 0, none⟩ = some (.int .i64 f')
  q1 : wx.cell? ⟨q, 1, none⟩ = some (.int .i64 t')
  below : Below w.heap.size w wx

theorem TwoS.more {w wx wy : World} {p q : Nat} {f t f' t' : Int} (h : TwoS w wx p q f t f' t') (hb : Below wx.heap.size wx wy) : TwoS w wy p q f t f' t' := by
  have key : ∀ b o u, wx.cell? ⟨b, o, none⟩ = some u → wy.cell? ⟨b, o, none⟩ = some u := fun b o u hu => by rw [hb.cell (p := ⟨b, o, none⟩) (cell_lt hu)]; exact hu
  exact ⟨key _ _ _ h.a0, key _ _ _ h.a1, key _ _ _ h.b0, key _ _ _ h.b1, key _ _ _ h.p0, key _ _ _ h.p1, key _ _ _ h.q0, key _ _ _ h.q1, Below.more h.below hb⟩

theorem kp_alloc {W : World} {a : Addr} {v : Value} (o : Obj) (h : W.cell? a = some v) : (W.alloc o).cell? a = some v := by
  obtain ⟨b, off, spot⟩ := a
  obtain rfl : spot = none := World.cell?_spot h
  rw [World.cell?_of_block (Below.heap_alloc _ o b (cell_lt h))]
  exact h
theorem nw_0 (W : World) (x y : Value) (e : TypeId) {k : Nat} (hk : k = W.heap.size) : (W.alloc (.cells #[x, y] e)).cell? ⟨k, 0, none⟩ = some x := by
  subst hk; exact World.cell?_alloc_at _ _ _ _ rfl
theorem nw_1 (W : World) (x y : Value) (e : TypeId) {k : Nat} (hk : k = W.heap.size) : (W.alloc (.cells #[x, y] e)).cell? ⟨k, 1, none⟩ = some y := by
  subst hk; exact World.cell?_alloc_at _ _ _ _ rfl
theorem kp_drew {W : World} {a : Addr} {v : Value} (h : W.cell? a = some v) : W.drew.cell? a = some v := h
theorem kp_set {W : World} {p a : Addr} {v : Value} (x : Value) (hne : p ≠ a) (h : W.cell? a = some v) : (W.setCell p x).cell? a = some v := by
  rw [World.cell?_setCell_other _ _ _ _ hne]; exact h

theorem join_has {f t f' t' k J1 J2 : Int} (hJ : joinF f t f' t' = (J1, J2)) (h : hasB f t k = true ∨ hasB f' t' k = true) : hasB J1 J2 k = true := by
  unfold hasB at *
  simp only [decide_eq_true_eq] at *
  unfold joinF at hJ
  split at hJ
  · omega
  · split at hJ
    · obtain ⟨rfl, rfl⟩ := Prod.mk.inj hJ; omega
    · split at hJ
      · obtain ⟨rfl, rfl⟩ := Prod.mk.inj hJ; omega
      · obtain ⟨rfl, rfl⟩ := Prod.mk.inj hJ; omega
theorem both_meet {f t f' t' k : Int} (h : hasB f t k = true) (h' : hasB f' t' k = true) : meetsB f t f' t' = true ∧ meetsB f' t' f t = true := by
  unfold hasB at *
  unfold meetsB
  simp only [decide_eq_true_eq] at *
  omega

set_option maxHeartbeats 10000000 in
set_option maxRecDepth 100000 in
theorem spanHas_walk (f t f' t' k : Int) (w : World) :
    Calls Try.prog 3 #[.agg #[.int .i64 f, .int .i64 t], .agg #[.int .i64 f', .int .i64 t'], .int .i64 k] w fun e w' => e = .returned (.bool true) ∧ Below w.heap.size w w' := by
  have cA0 : ((w.alloc (.cells #[.int .i64 f, .int .i64 t] 23)).alloc (.cells #[.int .i64 f', .int .i64 t'] 23)).cell? ⟨w.heap.size, 0, none⟩ = some (.int .i64 f) := by simp
  have cA1 : ((w.alloc (.cells #[.int .i64 f, .int .i64 t] 23)).alloc (.cells #[.int .i64 f', .int .i64 t'] 23)).cell? ⟨w.heap.size, 1, none⟩ = some (.int .i64 t) := by simp
  have cB0 : ((w.alloc (.cells #[.int .i64 f, .int .i64 t] 23)).alloc (.cells #[.int .i64 f', .int .i64 t'] 23)).cell? ⟨w.heap.size + 1, 0, none⟩ = some (.int .i64 f') := by simp
  have cB1 : ((w.alloc (.cells #[.int .i64 f, .int .i64 t] 23)).alloc (.cells #[.int .i64 f', .int .i64 t'] 23)).cell? ⟨w.heap.size + 1, 1, none⟩ = some (.int .i64 t') := by simp
  have HA0 := Lib.hid cA0
  have HA1 := Lib.hid cA1
  have HB0 := Lib.hid cB0
  have HB1 := Lib.hid cB1
  clear cA0 cA1 cB0 cB1
  go_enter Try.func3, Try.ntmps3
  go_upto_region 1 with fail
  go_cut [7, 8] (fun s7 s8 wx => ∃ p q : Nat, s7 = .pointer (some ⟨p, 0, none⟩) ∧ s8 = .pointer (some ⟨q, 0, none⟩) ∧ TwoS w wx p q f t f' t')
  case first => as_aux_lemma =>
    go_region_held3 (fun W => W.cell? ⟨w.heap.size, 0, none⟩ = some (.int .i64 f) ∧ W.cell? ⟨w.heap.size, 1, none⟩ = some (.int .i64 t) ∧ W.cell? ⟨w.heap.size + 1, 0, none⟩ = some (.int .i64 f') ∧ W.cell? ⟨w.heap.size + 1, 1, none⟩ = some (.int .i64 t'))
      ((refine ⟨?_, ?_, ?_, ?_⟩ <;> (repeat (first | (with_reducible exact HA0.out) | (with_reducible exact HA1.out) | (with_reducible exact HB0.out) | (with_reducible exact HB1.out) | (with_reducible refine kp_alloc _ ?_) | (with_reducible refine kp_drew ?_) | ((with_reducible refine kp_set _ ?_ ?_); (simp; try omega))))))
      ((go_at_call 9; (with_reducible refine (ours_exact _ _ _).mono ?_); rintro e w1 ⟨rfl, rfl⟩))
    all_goals
      go_wp2_with fail
      go_meet
      refine ⟨_, _, rfl, rfl, ?_⟩
      refine ⟨?_, ?_, ?_, ?_, ?_, ?_, ?_, ?_, ?_⟩
      rotate_right
      · repeat (first | exact Below.refl _ _ | (with_reducible refine Below.drew ?_) | ((with_reducible refine Below.alloc ?_ ?_ _); rotate_left; (show _ ≤ _; simp; try omega)))
      all_goals repeat (first | (with_reducible exact HA0.out) | (with_reducible exact HA1.out) | (with_reducible exact HB0.out) | (with_reducible exact HB1.out) | ((with_reducible refine nw_0 _ _ _ _ ?_); (simp; done)) | ((with_reducible refine nw_1 _ _ _ _ ?_); (simp; done)) | (with_reducible refine kp_alloc _ ?_) | (with_reducible refine kp_drew ?_))
  case rest => as_aux_lemma =>
    obtain ⟨p, q, rfl, rfl, hT⟩ := hcut
    obtain ⟨w1, hw1⟩ : ∃ w1, w1 = wc := ⟨_, rfl⟩
    rw [← hw1] at hT ⊢
    clear hw1 HA0 HA1 HB0 HB1
    have a0 := hT.a0
    have a1 := hT.a1
    have b0 := hT.b0
    have b1 := hT.b1
    go_upto_region 2 with fail
    go_cut [9] (fun s9 wx => s9 = .bool (hasB f t k) ∧ w1 = wx)
    case first => as_aux_lemma =>
      by_cases h1 : f ≤ k
      · by_cases h2 : k < t
        · have HR := Lib.hid (show true = hasB f t k by unfold hasB; simp [h1, h2])
          go_wp2
          go_meet
          exact ⟨congrArg Value.bool (by first | (rw [← HR.out]; done) | (rw [← HR.out]; simp; done) | (rw [← HR.out]; simp; omega)), rfl⟩
        · have h2' : t ≤ k := by omega
          have HR := Lib.hid (show false = hasB f t k by unfold hasB; simp [h1, h2])
          clear h2
          go_wp2
          go_meet
          exact ⟨congrArg Value.bool (by first | (rw [← HR.out]; done) | (rw [← HR.out]; simp; done) | (rw [← HR.out]; simp; omega)), rfl⟩
      · have h1' : k < f := by omega
        have HR := Lib.hid (show false = hasB f t k by unfold hasB; simp [h1])
        clear h1
        go_wp2
        go_meet
        exact ⟨congrArg Value.bool (by first | (rw [← HR.out]; done) | (rw [← HR.out]; simp; done) | (rw [← HR.out]; simp; omega)), rfl⟩
    case rest => as_aux_lemma =>
      obtain ⟨rfl, rfl⟩ := hcut
      go_upto_region 3 with fail
      go_cut [10] (fun s10 wx => s10 = .bool (hasB f' t' k) ∧ w1 = wx)
      case first => as_aux_lemma =>
        by_cases h1 : f' ≤ k
        · by_cases h2 : k < t'
          · have HR := Lib.hid (show true = hasB f' t' k by unfold hasB; simp [h1, h2])
            go_wp2
            go_meet
            exact ⟨congrArg Value.bool (by first | (rw [← HR.out]; done) | (rw [← HR.out]; simp; done) | (rw [← HR.out]; simp; omega)), rfl⟩
          · have h2' : t' ≤ k := by omega
            have HR := Lib.hid (show false = hasB f' t' k by unfold hasB; simp [h1, h2])
            clear h2
            go_wp2
            go_meet
            exact ⟨congrArg Value.bool (by first | (rw [← HR.out]; done) | (rw [← HR.out]; simp; done) | (rw [← HR.out]; simp; omega)), rfl⟩
        · have h1' : k < f' := by omega
          have HR := Lib.hid (show false = hasB f' t' k by unfold hasB; simp [h1])
          clear h1
          go_wp2
          go_meet
          exact ⟨congrArg Value.bool (by first | (rw [← HR.out]; done) | (rw [← HR.out]; simp; done) | (rw [← HR.out]; simp; omega)), rfl⟩
      case rest => as_aux_lemma =>
        obtain ⟨rfl, rfl⟩ := hcut
        have p0 := hT.p0
        have p1 := hT.p1
        have q0 := hT.q0
        have q1 := hT.q1
        obtain ⟨J1, J2, HJ⟩ : ∃ J1 J2 : Int, Hid (joinF f t f' t' = (J1, J2)) := ⟨_, _, Lib.hid rfl⟩
        have HJC := Lib.hid (fun w => joined_any f t f' t' w)
        rw [HJ.out] at HJC
        go_upto_region 5 with (go_at_call 10; (with_reducible refine (HJC.out _).mono ?_); rintro e w2 ⟨rfl, hb1⟩)
        have hJB : ∀ o u, (Array.mk [Value.int .i64 J1, .int .i64 J2])[o]? = some u → (w2.alloc (.cells #[.int .i64 J1, .int .i64 J2] 24)).cell? ⟨w2.heap.size, o, none⟩ = some u := fun o u hu => by rw [World.cell?_alloc_at _ _ _ _ rfl]; exact hu
        have j0 := hJB 0 _ rfl
        have j1 := hJB 1 _ rfl
        have hT2 := hT.more (hb1.alloc hb1.size (.cells #[.int .i64 J1, .int .i64 J2] 24))
        clear hJB hb1 hT a0 a1 b0 b1 p0 p1 q0 q1
        obtain ⟨r, hr⟩ : ∃ r, r = w2.heap.size := ⟨_, rfl⟩
        obtain ⟨w3, hw3⟩ : ∃ w3, w3 = w2.alloc (.cells #[.int .i64 J1, .int .i64 J2] 24) := ⟨_, rfl⟩
        rw [← hr] at j0 j1 ⊢
        rw [← hw3] at j0 j1 hT2 ⊢
        clear hr hw3 HJC
        go_cut [9, 10, 75] (fun _s9 _s10 s75 wx => s75 = .bool false ∧ Below w3.heap.size w3 wx)
        case first => as_aux_lemma =>
          have hb0 := Below.refl w3.heap.size w3
          have ALL : Hid (∀ wx, Below w3.heap.size w3 wx → wx.cell? ⟨p, 0, none⟩ = some (.int .i64 f) ∧ wx.cell? ⟨p, 1, none⟩ = some (.int .i64 t) ∧ wx.cell? ⟨q, 0, none⟩ = some (.int .i64 f') ∧ wx.cell? ⟨q, 1, none⟩ = some (.int .i64 t') ∧ wx.cell? ⟨r, 0, none⟩ = some (.int .i64 J1) ∧ wx.cell? ⟨r, 1, none⟩ = some (.int .i64 J2)) := Lib.hid (fun wx hx => by
            have h := hT2.more hx
            exact ⟨h.p0, h.p1, h.q0, h.q1, by rw [hx.cell (p := ⟨r, 0, none⟩) (cell_lt j0)]; exact j0, by rw [hx.cell (p := ⟨r, 1, none⟩) (cell_lt j1)]; exact j1⟩)
          obtain ⟨x1, x2, x3, x4, x5, x6⟩ := ALL.out w3 hb0
          clear hT2 j0 j1
          cases hI : hasB f t k <;> cases hA : hasB f' t' k
          · have HH1 := Lib.hid (fun w => has_any f t k w)
            rw [hI] at HH1
            clear hI hA
            go_wp2_with (first
              | (go_at_call 11; (with_reducible refine (HH1.out _).mono ?_); rintro e w4 ⟨rfl, hb1⟩; replace hb0 := Below.more hb0 hb1; clear hb1; obtain ⟨x1, x2, x3, x4, x5, x6⟩ := ALL.out _ hb0))
            go_meet
            exact ⟨rfl, hb0⟩
          · have HH1 := Lib.hid (fun w => has_any f t k w)
            rw [hI] at HH1
            have HHJ := Lib.hid (fun w => has_any J1 J2 k w)
            rw [join_has HJ.out (.inr hA)] at HHJ
            clear hI hA
            go_wp2_with (first
              | (go_at_call 11; (with_reducible refine (HH1.out _).mono ?_); rintro e w4 ⟨rfl, hb1⟩; replace hb0 := Below.more hb0 hb1; clear hb1; obtain ⟨x1, x2, x3, x4, x5, x6⟩ := ALL.out _ hb0)
              | (go_at_call 11; (with_reducible refine (HHJ.out _).mono ?_); rintro e w4 ⟨rfl, hb1⟩; replace hb0 := Below.more hb0 hb1; clear hb1; obtain ⟨x1, x2, x3, x4, x5, x6⟩ := ALL.out _ hb0))
            go_meet
            exact ⟨rfl, hb0⟩
          · have HH1 := Lib.hid (fun w => has_any f t k w)
            rw [hI] at HH1
            have HHJ := Lib.hid (fun w => has_any J1 J2 k w)
            rw [join_has HJ.out (.inl hI)] at HHJ
            clear hI hA
            go_wp2_with (first
              | (go_at_call 11; (with_reducible refine (HH1.out _).mono ?_); rintro e w4 ⟨rfl, hb1⟩; replace hb0 := Below.more hb0 hb1; clear hb1; obtain ⟨x1, x2, x3, x4, x5, x6⟩ := ALL.out _ hb0)
              | (go_at_call 11; (with_reducible refine (HHJ.out _).mono ?_); rintro e w4 ⟨rfl, hb1⟩; replace hb0 := Below.more hb0 hb1; clear hb1; obtain ⟨x1, x2, x3, x4, x5, x6⟩ := ALL.out _ hb0))
            go_meet
            exact ⟨rfl, hb0⟩
          · have HH1 := Lib.hid (fun w => has_any f t k w)
            rw [hI] at HH1
            have HHJ := Lib.hid (fun w => has_any J1 J2 k w)
            rw [join_has HJ.out (.inl hI)] at HHJ
            obtain ⟨m1, m2⟩ := both_meet hI hA
            have HM1 := Lib.hid (fun w => meets_any f t f' t' w)
            have HM2 := Lib.hid (fun w => meets_any f' t' f t w)
            rw [m1] at HM1
            rw [m2] at HM2
            clear m1 m2
            clear hI hA
            go_wp2_with (first
              | (go_at_call 11; (with_reducible refine (HH1.out _).mono ?_); rintro e w4 ⟨rfl, hb1⟩; replace hb0 := Below.more hb0 hb1; clear hb1; obtain ⟨x1, x2, x3, x4, x5, x6⟩ := ALL.out _ hb0)
              | (go_at_call 11; (with_reducible refine (HHJ.out _).mono ?_); rintro e w4 ⟨rfl, hb1⟩; replace hb0 := Below.more hb0 hb1; clear hb1; obtain ⟨x1, x2, x3, x4, x5, x6⟩ := ALL.out _ hb0)
              | (go_at_call 12; (with_reducible refine (HM1.out _).mono ?_); rintro e w4 ⟨rfl, hb1⟩; replace hb0 := Below.more hb0 hb1; clear hb1; obtain ⟨x1, x2, x3, x4, x5, x6⟩ := ALL.out _ hb0)
              | (go_at_call 12; (with_reducible refine (HM2.out _).mono ?_); rintro e w4 ⟨rfl, hb1⟩; replace hb0 := Below.more hb0 hb1; clear hb1; obtain ⟨x1, x2, x3, x4, x5, x6⟩ := ALL.out _ hb0))
            go_meet
            exact ⟨rfl, hb0⟩
        case rest => as_aux_lemma =>
          obtain ⟨rfl, hb3⟩ := hcut
          obtain ⟨w4, hw4⟩ : ∃ w4, w4 = wc := ⟨_, rfl⟩
          rw [← hw4] at hb3 ⊢
          clear hw4
          have ALL : Hid (∀ wx, Below w4.heap.size w4 wx → (wx.cell? ⟨p, 0, none⟩ = some (.int .i64 f) ∧ wx.cell? ⟨p, 1, none⟩ = some (.int .i64 t) ∧ wx.cell? ⟨q, 0, none⟩ = some (.int .i64 f') ∧ wx.cell? ⟨q, 1, none⟩ = some (.int .i64 t') ∧ wx.cell? ⟨r, 0, none⟩ = some (.int .i64 J1) ∧ wx.cell? ⟨r, 1, none⟩ = some (.int .i64 J2)) ∧ wx.cell? ⟨w.heap.size, 0, none⟩ = some (.int .i64 f) ∧ wx.cell? ⟨w.heap.size, 1, none⟩ = some (.int .i64 t) ∧ wx.cell? ⟨w.heap.size + 1, 0, none⟩ = some (.int .i64 f') ∧ wx.cell? ⟨w.heap.size + 1, 1, none⟩ = some (.int .i64 t')) := Lib.hid (fun wx hx => by
            have hx := Below.more hb3 hx
            have h := hT2.more hx
            exact ⟨⟨h.p0, h.p1, h.q0, h.q1, by rw [hx.cell (p := ⟨r, 0, none⟩) (cell_lt j0)]; exact j0, by rw [hx.cell (p := ⟨r, 1, none⟩) (cell_lt j1)]; exact j1⟩, h.a0, h.a1, h.b0, h.b1⟩)
          have HBE := Lib.hid (hT2.more hb3).below
          have hb0 := Below.refl w4.heap.size w4
          clear hb3 hT2 j0 j1
          obtain ⟨⟨x1, x2, x3, x4, x5, x6⟩, y1, y2, y3, y4⟩ := ALL.out w4 hb0
          obtain ⟨M, hM⟩ : ∃ M, M = max f f' := ⟨_, rfl⟩
          go_upto_if 81 with fail
          go_cut [12] (fun s12 wx => s12 = .int .i64 M ∧ w4 = wx)
          case first => as_aux_lemma =>
            by_cases h : f < f'
            · obtain rfl : f' = M := by omega
              clear hM
              go_wp2
              go_meet
              exact ⟨rfl, rfl⟩
            · have h' : f' ≤ f := by omega
              obtain rfl : f = M := by omega
              clear hM h
              go_wp2
              go_meet
              exact ⟨rfl, rfl⟩
          case rest => as_aux_lemma =>
            obtain ⟨rfl, rfl⟩ := hcut
            have HME : Hid (meetsB f t f' t' = decide (M < t ∧ M < t' ∧ f ≤ M ∧ f' ≤ M)) := Lib.hid (by unfold meetsB; rw [decide_eq_decide]; omega)
            have m1 : f ≤ M := by omega
            have m2 : f' ≤ M := by omega
            clear hM
            obtain ⟨B, HB⟩ : ∃ B, Hid (meetsB f t f' t' = B) := ⟨_, Lib.hid rfl⟩
            have HMC := Lib.hid (fun w => meets_any f t f' t' w)
            rw [HB.out] at HMC HME
            go_upto_region 10 with fail
            go_cut [13] (fun s13 wx => s13 = .bool B ∧ w4 = wx)
            case first => as_aux_lemma =>
              by_cases h1 : M < t
              · by_cases h2 : M < t'
                · have HR := Lib.hid (show true = B by rw [HME.out]; simp [h1, h2, m1, m2])
                  go_wp2
                  go_meet
                  exact ⟨congrArg Value.bool (by first | (rw [← HR.out]; done) | (rw [← HR.out]; simp; done) | (rw [← HR.out]; simp; omega)), rfl⟩
                · have h2' : t' ≤ M := by omega
                  have HR := Lib.hid (show false = B by rw [HME.out]; simp [h1, h2])
                  clear h2
                  go_wp2
                  go_meet
                  exact ⟨congrArg Value.bool (by first | (rw [← HR.out]; done) | (rw [← HR.out]; simp; done) | (rw [← HR.out]; simp; omega)), rfl⟩
              · have h1' : t ≤ M := by omega
                have HR := Lib.hid (show false = B by rw [HME.out]; simp [h1])
                clear h1
                go_wp2
                go_meet
                exact ⟨congrArg Value.bool (by first | (rw [← HR.out]; done) | (rw [← HR.out]; simp; done) | (rw [← HR.out]; simp; omega)), rfl⟩
            case rest => as_aux_lemma =>
              obtain ⟨rfl, rfl⟩ := hcut
              clear m1 m2 HME HB
              go_upto_region 11 with fail
              go_cut [13, 110] (fun _s13 s110 wx => s110 = .bool false ∧ Below w4.heap.size w4 wx)
              case first => as_aux_lemma =>
                cases B
                · go_wp2_with (go_at_call 12; (with_reducible refine (HMC.out _).mono ?_); rintro e w5 ⟨rfl, hb1⟩; replace hb0 := Below.more hb0 hb1; clear hb1)
                  go_meet
                  exact ⟨rfl, hb0⟩
                · go_wp2_with (go_at_call 12; (with_reducible refine (HMC.out _).mono ?_); rintro e w5 ⟨rfl, hb1⟩; replace hb0 := Below.more hb0 hb1; clear hb1)
                  go_meet
                  exact ⟨rfl, hb0⟩
              case rest => as_aux_lemma =>
                obtain ⟨rfl, hb5⟩ := hcut
                obtain ⟨w5, hw5⟩ : ∃ w5, w5 = wc := ⟨_, rfl⟩
                rw [← hw5] at hb5 ⊢
                clear hw5 hb0 HMC x1 x2 x3 x4 x5 x6 y1 y2 y3 y4
                obtain ⟨⟨_, _, _, _, x5, x6⟩, y1, y2, y3, y4⟩ := ALL.out w5 hb5
                have HBF := Lib.hid (Below.more HBE.out hb5)
                clear ALL hb5
                by_cases h : t ≤ f
                · by_cases h' : t' ≤ f'
                  · obtain ⟨rfl, rfl⟩ : 0 = J1 ∧ 0 = J2 := by have hJ := HJ.out; unfold joinF at hJ; rw [if_pos ⟨h, h'⟩] at hJ; exact Prod.mk.inj hJ
                    clear HJ
                    go_wp2_with (go_at_call 13; (with_reducible refine (awake_any _).mono ?_); rintro e w6 ⟨rfl, hb6⟩; have HB6 := Lib.hid (Below.more HBF.out hb6); clear hb6)
                    all_goals
                      go_ret
                      first
                        | exact ⟨rfl, HB6.out⟩
                        | (refine ⟨ret_b ?_, HB6.out⟩; simp; done)
                        | (refine ⟨ret_b ?_, HB6.out⟩; simp; omega)
                  · have g' : f' < t' := by omega
                    obtain ⟨rfl, rfl⟩ : f' = J1 ∧ t' = J2 := by have hJ := HJ.out; unfold joinF at hJ; rw [if_neg (fun x => h' x.2), if_pos h] at hJ; exact Prod.mk.inj hJ
                    clear h'
                    clear HJ
                    go_wp2_with (go_at_call 13; (with_reducible refine (awake_any _).mono ?_); rintro e w6 ⟨rfl, hb6⟩; have HB6 := Lib.hid (Below.more HBF.out hb6); clear hb6)
                    all_goals
                      go_ret
                      first
                        | exact ⟨rfl, HB6.out⟩
                        | (refine ⟨ret_b ?_, HB6.out⟩; simp; done)
                        | (refine ⟨ret_b ?_, HB6.out⟩; simp; omega)
                · have g : f < t := by omega
                  by_cases h' : t' ≤ f'
                  · obtain ⟨rfl, rfl⟩ : f = J1 ∧ t = J2 := by have hJ := HJ.out; unfold joinF at hJ; rw [if_neg (fun x => h x.1), if_neg h, if_pos h'] at hJ; exact Prod.mk.inj hJ
                    clear h
                    clear HJ
                    go_wp2_with (go_at_call 13; (with_reducible refine (awake_any _).mono ?_); rintro e w6 ⟨rfl, hb6⟩; have HB6 := Lib.hid (Below.more HBF.out hb6); clear hb6)
                    all_goals
                      go_ret
                      first
                        | exact ⟨rfl, HB6.out⟩
                        | (refine ⟨ret_b ?_, HB6.out⟩; simp; done)
                        | (refine ⟨ret_b ?_, HB6.out⟩; simp; omega)
                  · have g' : f' < t' := by omega
                    by_cases hm : f' < f <;> by_cases hx : t < t'
                    · obtain ⟨rfl, rfl⟩ : f' = J1 ∧ t' = J2 := by have hJ := HJ.out; unfold joinF at hJ; rw [if_neg (fun x => h x.1), if_neg h, if_neg h'] at hJ; obtain ⟨e1, e2⟩ := Prod.mk.inj hJ; constructor <;> omega
                      clear h h'
                      clear HJ
                      go_wp2_with (go_at_call 13; (with_reducible refine (awake_any _).mono ?_); rintro e w6 ⟨rfl, hb6⟩; have HB6 := Lib.hid (Below.more HBF.out hb6); clear hb6)
                      all_goals
                        go_ret
                        first
                          | exact ⟨rfl, HB6.out⟩
                          | (refine ⟨ret_b ?_, HB6.out⟩; simp; done)
                          | (refine ⟨ret_b ?_, HB6.out⟩; simp; omega)
                    · obtain ⟨rfl, rfl⟩ : f' = J1 ∧ t = J2 := by have hJ := HJ.out; unfold joinF at hJ; rw [if_neg (fun x => h x.1), if_neg h, if_neg h'] at hJ; obtain ⟨e1, e2⟩ := Prod.mk.inj hJ; constructor <;> omega
                      clear h h'
                      clear HJ
                      go_wp2_with (go_at_call 13; (with_reducible refine (awake_any _).mono ?_); rintro e w6 ⟨rfl, hb6⟩; have HB6 := Lib.hid (Below.more HBF.out hb6); clear hb6)
                      all_goals
                        go_ret
                        first
                          | exact ⟨rfl, HB6.out⟩
                          | (refine ⟨ret_b ?_, HB6.out⟩; simp; done)
                          | (refine ⟨ret_b ?_, HB6.out⟩; simp; omega)
                    · obtain ⟨rfl, rfl⟩ : f = J1 ∧ t' = J2 := by have hJ := HJ.out; unfold joinF at hJ; rw [if_neg (fun x => h x.1), if_neg h, if_neg h'] at hJ; obtain ⟨e1, e2⟩ := Prod.mk.inj hJ; constructor <;> omega
                      clear h h'
                      clear HJ
                      go_wp2_with (go_at_call 13; (with_reducible refine (awake_any _).mono ?_); rintro e w6 ⟨rfl, hb6⟩; have HB6 := Lib.hid (Below.more HBF.out hb6); clear hb6)
                      all_goals
                        go_ret
                        first
                          | exact ⟨rfl, HB6.out⟩
                          | (refine ⟨ret_b ?_, HB6.out⟩; simp; done)
                          | (refine ⟨ret_b ?_, HB6.out⟩; simp; omega)
                    · obtain ⟨rfl, rfl⟩ : f = J1 ∧ t = J2 := by have hJ := HJ.out; unfold joinF at hJ; rw [if_neg (fun x => h x.1), if_neg h, if_neg h'] at hJ; obtain ⟨e1, e2⟩ := Prod.mk.inj hJ; constructor <;> omega
                      clear h h'
                      clear HJ
                      go_wp2_with (go_at_call 13; (with_reducible refine (awake_any _).mono ?_); rintro e w6 ⟨rfl, hb6⟩; have HB6 := Lib.hid (Below.more HBF.out hb6); clear hb6)
                      all_goals
                        go_ret
                        first
                          | exact ⟨rfl, HB6.out⟩
                          | (refine ⟨ret_b ?_, HB6.out⟩; simp; done)
                          | (refine ⟨ret_b ?_, HB6.out⟩; simp; omega)

end Go.Proofs.Ytlkcnfkfccfhmaa
