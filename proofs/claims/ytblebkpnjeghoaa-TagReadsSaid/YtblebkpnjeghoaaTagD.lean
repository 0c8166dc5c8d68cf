/-
  Contract of layer 8: Parts.
-/
import Derived.Test.YtblebkpnjeghoaaTagC
import Derived.BigQuiet
import Derived.Outline
import Derived.WalkLawsBesides
import Derived.Deep.AppendLies
import Derived.Deep.RegionHeldLaw
namespace Go.Proofs.Ytblebkpnjeghoaa
open Go.RowKit
set_option linter.unusedVariables false

theorem kp_alloc {W : World} {a : Addr} {v : Value} (o : Obj) (h : W.cell? a = some v) : (W.alloc o).cell? a = some v := by
  obtain ⟨b, off, spot⟩ := a
  obtain rfl : spot = none := World.cell?_spot h
  rw [World.cell?_of_block (Below.heap_alloc _ o b (cell_lt h))]
  exact h
theorem kp_drew {W : World} {a : Addr} {v : Value} (h : W.cell? a = some v) : W.drew.cell? a = some v := h
theorem box3 (w : World) (a0 a1 a2 : Value) (e : TypeId) : (w.alloc (.cells #[a0, a1, a2] e)).cell? ⟨w.heap.size, 0, none⟩ = some a0 ∧ (w.alloc (.cells #[a0, a1, a2] e)).cell? ⟨w.heap.size, 1, none⟩ = some a1 ∧ (w.alloc (.cells #[a0, a1, a2] e)).cell? ⟨w.heap.size, 2, none⟩ = some a2 := by
  refine ⟨?_, ?_, ?_⟩ <;> simp
theorem Try.infoPar : (Try.prog.info? 75).map (fun i => (i.zero, i.size, i.bytes)) = some (some (.agg #[.int .i64 0, .int .i64 0, .int .i64 0]), 3, 24) := by kernel_rfl

/-- What a call that answers parts answers. -/
def OwnPars (w : World) (l : List PartA) (e : Ending) (w' : World) : Prop :=
  ∃ v, e = .returned v ∧ w'.ownsRow w.heap.size 75 3 v l.length (parsCells l) ∧ Below w.heap.size w w'

theorem parF_eq {fu j : Nat} {s : List Int} {a b : Nat} (h : j < s.length) (ht : prt (s.drop j) = (a, b)) (k : Nat) : parF (fu + 1) k (s.drop j) = (a, k, k + b) :: parF fu (k + b) (s.drop (j + b)) := by
  rw [parF_cons h, ht]

theorem one_par (a b c : Int) : ∀ u ∈ [Value.int .i64 a, .int .i64 b, .int .i64 c], u.oneCell' = true := by
  intro u hu
  simp only [List.mem_cons, List.not_mem_nil, or_false] at hu
  rcases hu with rfl | rfl | rfl <;> rfl

set_option maxRecDepth 20000 in
set_option maxHeartbeats 4000000 in
theorem parts_some {b off n cap : Nat} {l : List Int} {w : World} (R : RRow w b off n cap l) (f t : Nat) (hft : f ≤ t) (htn : t ≤ n) (hn : n ≤ 1000) (o : Nat) (ho : opn ((l.take t).drop f) = some o) :
    Calls Try.prog 75 #[.slice (some ⟨b, off, none⟩) n cap, .int .i64 f, .int .i64 t] w (OwnPars w (parS f ((l.take t).drop f))) := by
  obtain ⟨i0, hi, hz0, hz1, hz2⟩ := info_parts Try.infoPar
  have HI := Lib.hid (And.intro hi (And.intro hz0 (And.intro hz1 hz2)))
  have hm := R.max
  have hc := R.le
  unfold maxLen at hm
  have Rt : RRow w b off t cap (l.take t) := ⟨by rw [List.length_take, R.len]; omega, by omega, R.max, by rw [List.map_take]; exact R.cells.take t⟩
  have HN := Lib.hid (opening_any Rt f hft ho)
  have HR := Lib.hid Rt
  have hlt := Rt.len
  obtain ⟨m, hmm⟩ : ∃ m, m = l.take t := ⟨_, rfl⟩
  rw [← hmm] at HR hlt ho ⊢
  have hdl : (m.drop f).length = t - f := by rw [dropl, hlt]
  have hol := opn_le ho
  rw [hdl] at hol
  obtain ⟨ho1, ho2⟩ := hol
  have HALL := Lib.hid (show [(1, f, f + o)] ++ parF (t - f) (f + o) (m.drop (f + o)) = parS f (m.drop f) by unfold parS; rw [ho, hdl]; show _ = (1, f, f + o) :: parF (t - f) (f + o) ((m.drop f).drop o); rw [dd]; rfl)
  have HTL := Lib.hid hlt
  obtain ⟨res, hres⟩ : ∃ res, res = parS f (m.drop f) := ⟨_, rfl⟩
  rw [← hres] at HALL ⊢
  unfold opnV at HN
  simp only [] at HN
  clear hi hz0 hz1 hz2 R Rt hlt hdl ho hres hmm
  have q1 : decide ((f : Int) < 0) = false := decide_eq_false (by omega)
  have q2 : decide (t < f) = false := decide_eq_false (by omega)
  have q3 : decide (n < t) = false := decide_eq_false (by omega)
  go_enter Try.func75, Try.ntmps75
  go_wp2_with (go_at_call 100; (with_reducible refine HN.out.mono ?_); rintro e w1 ⟨rfl, hb1⟩)
  obtain ⟨d0, d1, d2⟩ := box3 w1 (.int .i64 1) (.int .i64 f) (.int .i64 ((f : Int) + o)) 75
  obtain ⟨W1, hW1⟩ : ∃ W1, W1 = w1.alloc (.cells #[.int .i64 1, .int .i64 f, .int .i64 ((f : Int) + o)] 75) := ⟨_, rfl⟩
  have hbW : Below w1.heap.size w1 W1 := by rw [hW1]; exact one_ok _ _
  rw [← hW1] at d0 d1 d2 ⊢
  obtain ⟨pp, hpp⟩ : ∃ pp, pp = w1.heap.size := ⟨_, rfl⟩
  rw [← hpp] at d0 d1 d2 ⊢
  have HO1 := Lib.hid (And.intro (World.ownsRow_nil W1 w.heap.size 75 3) (Below.more hb1 hbW))
  have HNE := Lib.hid (show some pp ≠ (Value.slice none 0 0).ownBlock by simp [Value.ownBlock])
  have HM := Lib.hid (And.intro (show 0 + 1 ≤ maxLen by unfold maxLen; omega) (show (0 + 1) * 24 ≤ 140737488355328 by omega))
  have D0 := Lib.hid d0
  have D1 := Lib.hid d1
  have D2 := Lib.hid d2
  clear hW1 hbW d0 d1 d2 hb1 hpp
  go_region_held_law (fun W => W.cell? ⟨pp, 0, none⟩ = some (.int .i64 1) ∧ W.cell? ⟨pp, 1, none⟩ = some (.int .i64 f) ∧ W.cell? ⟨pp, 2, none⟩ = some (.int .i64 ((f : Int) + o)))
          ((refine ⟨?_, ?_, ?_⟩ <;> (repeat (first | (with_reducible exact E0) | (with_reducible exact E1) | (with_reducible exact E2) | (with_reducible exact D0.out) | (with_reducible exact D1.out) | (with_reducible exact D2.out) | (with_reducible refine kp_alloc _ ?_) | (with_reducible refine kp_drew ?_)))))
          (first
            | (refine step_append_lies _ rfl _ _ 125 rfl w.heap.size 75 i0 _ 3 24 Try.underlying125 HI.out.1 HI.out.2.1 HI.out.2.2.1 HI.out.2.2.2 rfl (by decide) (.slice none 0 0) 0 [] rfl (owns_below HO1.out.1 (one_ok W1 _).drew) ⟨W1.heap.size, 0, none⟩ 1 1 [.int .i64 1, .int .i64 f, .int .i64 ((f : Int) + o)] rfl rfl (new_cells_at W1 _ _ _ rfl) (one_par _ _ _) (by decide) HM.out.1 HM.out.2 (Nat.le_trans HO1.out.2.size (one_ok W1 _).drew.size) _ rfl ?_; intro g gc w5 hown5 hg5 _ _; have E0 := hg5.cell (a := ⟨pp, 0, none⟩) (kp_drew (kp_alloc _ D0.out)) HNE.out; have E1 := hg5.cell (a := ⟨pp, 1, none⟩) (kp_drew (kp_alloc _ D1.out)) HNE.out; have E2 := hg5.cell (a := ⟨pp, 2, none⟩) (kp_drew (kp_alloc _ D2.out)) HNE.out; have HF := Lib.hid (And.intro hown5 (((one_ok W1 _).drew.mono HO1.out.2.size).grown hg5 (Nat.le_trans HO1.out.2.size (one_ok W1 _).drew.size) (fun k hk => (HO1.out.1.lt k hk).1))); clear hown5 hg5))
  simp only [List.getElem_toArray, List.getElem_cons_succ, List.getElem_cons_zero, List.setIfInBounds_toArray, List.set_cons_succ, List.set_cons_zero, Nat.zero_add]
  go_wp2
  go_loopw [1, 7, 10] (fun fv v _p wr => ∃ (j fu : Nat) (acc : List PartA) (v' : Value), fv = .int .i64 j ∧ v' = v ∧ f ≤ j ∧ j ≤ t ∧ t - j ≤ fu ∧ acc.length ≤ j + 1 ∧ Hid (wr.ownsRow w.heap.size 75 3 v' acc.length (parsCells acc) ∧ Below w.heap.size w wr) ∧ Hid (acc ++ parF fu j (m.drop j) = res)) (fun fv _ _ _ => t - (intOf fv).toNat)
  case atStart =>

    exact ⟨f + o, t - f, [(1, f, f + o)], _, by go_num, rfl, by omega, by omega, by omega, by simp, Lib.hid ⟨by have := HF.out.1; simpa [parsCells, parCells] using this, HO1.out.2.trans HF.out.2⟩, HALL⟩
  case round =>
    clear HALL HN
    obtain ⟨j, fu, acc, v0, rfl, rfl, hfj, hjt, hfu, hal, HOW, HALL⟩ := hrel
    by_cases hlt : j < t
    · obtain ⟨fu, rfl⟩ : ∃ f', fu = f' + 1 := ⟨fu - 1, by omega⟩
      obtain ⟨k1, k2, k3, k4⟩ := prt_ok (m.drop j) (by rw [dropl, HTL.out]; omega)
      rw [dropl, HTL.out] at k2
      obtain ⟨pa, pb, hpt⟩ : ∃ pa pb, prt (m.drop j) = (pa, pb) := ⟨_, _, rfl⟩
      rw [hpt] at k1 k2 k3 k4
      simp only at k1 k2 k3 k4
      have hall := HALL.out
      rw [parF_eq (by rw [HTL.out]; exact hlt) hpt] at hall
      have HNEXT := Lib.hid (show (acc ++ [(pa, j, j + pb)]) ++ parF fu (j + pb) (m.drop (j + pb)) = res by rw [List.append_assoc]; exact hall)
      have HP := Lib.hid (fun (w' : World) hb => part_any (HR.out.below (w' := w') hb) j hlt hpt)
      simp only [] at HP
      clear hall hpt HALL
      go_wp2_with (go_at_call 101; (with_reducible refine (HP.out _ HOW.out.2).mono ?_); rintro e w3 ⟨rfl, hb3⟩)
      obtain ⟨d0, d1, d2⟩ := box3 w3 (.int .i64 pa) (.int .i64 j) (.int .i64 ((j : Int) + pb)) 75
      obtain ⟨W1, hW1⟩ : ∃ W1, W1 = w3.alloc (.cells #[.int .i64 pa, .int .i64 j, .int .i64 ((j : Int) + pb)] 75) := ⟨_, rfl⟩
      have hbW : Below w3.heap.size w3 W1 := by rw [hW1]; exact one_ok _ _
      rw [← hW1] at d0 d1 d2 ⊢
      obtain ⟨pp, hpp⟩ : ∃ pp, pp = w3.heap.size := ⟨_, rfl⟩
      rw [← hpp] at d0 d1 d2 ⊢
      have HO1 := Lib.hid (And.intro (owns_below (owns_below HOW.out.1 hb3) hbW) (Below.more (Below.more HOW.out.2 hb3) hbW))
      have HNE := Lib.hid (show some pp ≠ v0.ownBlock from fun h => absurd (HOW.out.1.lt _ h.symm).2 (by have := hb3.size; omega))
      have HM := Lib.hid (And.intro (show acc.length + 1 ≤ maxLen by unfold maxLen; omega) (show (acc.length + 1) * 24 ≤ 140737488355328 by omega))
      have D0 := Lib.hid d0
      have D1 := Lib.hid d1
      have D2 := Lib.hid d2
      clear hW1 hbW d0 d1 d2 hb3 hpp
      go_region_held_law (fun W => W.cell? ⟨pp, 0, none⟩ = some (.int .i64 pa) ∧ W.cell? ⟨pp, 1, none⟩ = some (.int .i64 j) ∧ W.cell? ⟨pp, 2, none⟩ = some (.int .i64 ((j : Int) + pb)))
          ((refine ⟨?_, ?_, ?_⟩ <;> (repeat (first | (with_reducible exact E0) | (with_reducible exact E1) | (with_reducible exact E2) | (with_reducible exact D0.out) | (with_reducible exact D1.out) | (with_reducible exact D2.out) | (with_reducible refine kp_alloc _ ?_) | (with_reducible refine kp_drew ?_)))))
          (first
            | (refine step_append_lies _ rfl _ _ 125 rfl w.heap.size 75 i0 _ 3 24 Try.underlying125 HI.out.1 HI.out.2.1 HI.out.2.2.1 HI.out.2.2.2 rfl (by decide) v0 acc.length (parsCells acc) rfl (owns_below HO1.out.1 (one_ok W1 _).drew) ⟨W1.heap.size, 0, none⟩ 1 1 [.int .i64 pa, .int .i64 j, .int .i64 ((j : Int) + pb)] rfl rfl (new_cells_at W1 _ _ _ rfl) (one_par _ _ _) (by decide) HM.out.1 HM.out.2 (Nat.le_trans HO1.out.2.size (one_ok W1 _).drew.size) _ rfl ?_; intro g gc w5 hown5 hg5 _ _; have E0 := hg5.cell (a := ⟨pp, 0, none⟩) (kp_drew (kp_alloc _ D0.out)) HNE.out; have E1 := hg5.cell (a := ⟨pp, 1, none⟩) (kp_drew (kp_alloc _ D1.out)) HNE.out; have E2 := hg5.cell (a := ⟨pp, 2, none⟩) (kp_drew (kp_alloc _ D2.out)) HNE.out; have HF := Lib.hid (And.intro hown5 (((one_ok W1 _).drew.mono HO1.out.2.size).grown hg5 (Nat.le_trans HO1.out.2.size (one_ok W1 _).drew.size) (fun k hk => (HO1.out.1.lt k hk).1))); clear hown5 hg5))
      simp only [List.getElem_toArray, List.getElem_cons_succ, List.getElem_cons_zero, List.setIfInBounds_toArray, List.set_cons_succ, List.set_cons_zero, Nat.zero_add]
      go_wp2
      go_roundw
      case rel => exact ⟨j + pb, fu, acc ++ [(pa, j, j + pb)], _, by go_num, rfl, by omega, by omega, by omega, by rw [List.length_append, List.length_singleton]; omega, Lib.hid ⟨by rw [parsCells_snoc, List.length_append]; exact HF.out.1, HO1.out.2.trans HF.out.2⟩, HNEXT⟩
      case measure => simp [intOf]; omega
    · obtain rfl : j = t := by omega
      have hall := HALL.out
      rw [List.drop_eq_nil_of_le (by rw [HTL.out]; exact Nat.le_refl _), parF_end, List.append_nil] at hall
      clear hlt HALL
      go_wp2
      go_ret
      rw [← hall]
      exact ⟨_, rfl, HOW.out.1, HOW.out.2⟩

set_option maxRecDepth 20000 in
set_option maxHeartbeats 4000000 in
theorem parts_none {b off n cap : Nat} {l : List Int} {w : World} (R : RRow w b off n cap l) (f t : Nat) (hft : f ≤ t) (htn : t ≤ n) (hn : n ≤ 1000) (ho : opn ((l.take t).drop f) = none) :
    Calls Try.prog 75 #[.slice (some ⟨b, off, none⟩) n cap, .int .i64 f, .int .i64 t] w (OwnPars w (parS f ((l.take t).drop f))) := by
  obtain ⟨i0, hi, hz0, hz1, hz2⟩ := info_parts Try.infoPar
  have HI := Lib.hid (And.intro hi (And.intro hz0 (And.intro hz1 hz2)))
  have hm := R.max
  have hc := R.le
  unfold maxLen at hm
  have Rt : RRow w b off t cap (l.take t) := ⟨by rw [List.length_take, R.len]; omega, by omega, R.max, by rw [List.map_take]; exact R.cells.take t⟩
  have HN := Lib.hid (opening_any Rt f hft ho)
  have HR := Lib.hid Rt
  have hlt := Rt.len
  obtain ⟨m, hmm⟩ : ∃ m, m = l.take t := ⟨_, rfl⟩
  rw [← hmm] at HR hlt ho ⊢
  have hdl : (m.drop f).length = t - f := by rw [dropl, hlt]
  have HALL := Lib.hid (show [] ++ parF (t - f) f (m.drop f) = parS f (m.drop f) by unfold parS; rw [ho, hdl]; rfl)
  have HTL := Lib.hid hlt
  obtain ⟨res, hres⟩ : ∃ res, res = parS f (m.drop f) := ⟨_, rfl⟩
  rw [← hres] at HALL ⊢
  unfold opnV at HN
  simp only [] at HN
  clear hi hz0 hz1 hz2 R Rt hlt hdl ho hres hmm
  have q1 : decide ((f : Int) < 0) = false := decide_eq_false (by omega)
  have q2 : decide (t < f) = false := decide_eq_false (by omega)
  have q3 : decide (n < t) = false := decide_eq_false (by omega)
  go_enter Try.func75, Try.ntmps75
  go_wp2_with (go_at_call 100; (with_reducible refine HN.out.mono ?_); rintro e w1 ⟨rfl, hb1⟩)
  go_loopw [1, 7, 10] (fun fv v _p wr => ∃ (j fu : Nat) (acc : List PartA) (v' : Value), fv = .int .i64 j ∧ v' = v ∧ f ≤ j ∧ j ≤ t ∧ t - j ≤ fu ∧ acc.length ≤ j + 1 ∧ Hid (wr.ownsRow w.heap.size 75 3 v' acc.length (parsCells acc) ∧ Below w.heap.size w wr) ∧ Hid (acc ++ parF fu j (m.drop j) = res)) (fun fv _ _ _ => t - (intOf fv).toNat)
  case atStart =>

    exact ⟨f, t - f, [], _, by go_num, rfl, by omega, by omega, by omega, by simp, Lib.hid ⟨World.ownsRow_nil _ _ _ _, hb1.alloc hb1.size _⟩, HALL⟩
  case round =>
    clear HALL HN
    obtain ⟨j, fu, acc, v0, rfl, rfl, hfj, hjt, hfu, hal, HOW, HALL⟩ := hrel
    by_cases hlt : j < t
    · obtain ⟨fu, rfl⟩ : ∃ f', fu = f' + 1 := ⟨fu - 1, by omega⟩
      obtain ⟨k1, k2, k3, k4⟩ := prt_ok (m.drop j) (by rw [dropl, HTL.out]; omega)
      rw [dropl, HTL.out] at k2
      obtain ⟨pa, pb, hpt⟩ : ∃ pa pb, prt (m.drop j) = (pa, pb) := ⟨_, _, rfl⟩
      rw [hpt] at k1 k2 k3 k4
      simp only at k1 k2 k3 k4
      have hall := HALL.out
      rw [parF_eq (by rw [HTL.out]; exact hlt) hpt] at hall
      have HNEXT := Lib.hid (show (acc ++ [(pa, j, j + pb)]) ++ parF fu (j + pb) (m.drop (j + pb)) = res by rw [List.append_assoc]; exact hall)
      have HP := Lib.hid (fun (w' : World) hb => part_any (HR.out.below (w' := w') hb) j hlt hpt)
      simp only [] at HP
      clear hall hpt HALL
      go_wp2_with (go_at_call 101; (with_reducible refine (HP.out _ HOW.out.2).mono ?_); rintro e w3 ⟨rfl, hb3⟩)
      obtain ⟨d0, d1, d2⟩ := box3 w3 (.int .i64 pa) (.int .i64 j) (.int .i64 ((j : Int) + pb)) 75
      obtain ⟨W1, hW1⟩ : ∃ W1, W1 = w3.alloc (.cells #[.int .i64 pa, .int .i64 j, .int .i64 ((j : Int) + pb)] 75) := ⟨_, rfl⟩
      have hbW : Below w3.heap.size w3 W1 := by rw [hW1]; exact one_ok _ _
      rw [← hW1] at d0 d1 d2 ⊢
      obtain ⟨pp, hpp⟩ : ∃ pp, pp = w3.heap.size := ⟨_, rfl⟩
      rw [← hpp] at d0 d1 d2 ⊢
      have HO1 := Lib.hid (And.intro (owns_below (owns_below HOW.out.1 hb3) hbW) (Below.more (Below.more HOW.out.2 hb3) hbW))
      have HNE := Lib.hid (show some pp ≠ v0.ownBlock from fun h => absurd (HOW.out.1.lt _ h.symm).2 (by have := hb3.size; omega))
      have HM := Lib.hid (And.intro (show acc.length + 1 ≤ maxLen by unfold maxLen; omega) (show (acc.length + 1) * 24 ≤ 140737488355328 by omega))
      have D0 := Lib.hid d0
      have D1 := Lib.hid d1
      have D2 := Lib.hid d2
      clear hW1 hbW d0 d1 d2 hb3 hpp
      go_region_held_law (fun W => W.cell? ⟨pp, 0, none⟩ = some (.int .i64 pa) ∧ W.cell? ⟨pp, 1, none⟩ = some (.int .i64 j) ∧ W.cell? ⟨pp, 2, none⟩ = some (.int .i64 ((j : Int) + pb)))
          ((refine ⟨?_, ?_, ?_⟩ <;> (repeat (first | (with_reducible exact E0) | (with_reducible exact E1) | (with_reducible exact E2) | (with_reducible exact D0.out) | (with_reducible exact D1.out) | (with_reducible exact D2.out) | (with_reducible refine kp_alloc _ ?_) | (with_reducible refine kp_drew ?_)))))
          (first
            | (refine step_append_lies _ rfl _ _ 125 rfl w.heap.size 75 i0 _ 3 24 Try.underlying125 HI.out.1 HI.out.2.1 HI.out.2.2.1 HI.out.2.2.2 rfl (by decide) v0 acc.length (parsCells acc) rfl (owns_below HO1.out.1 (one_ok W1 _).drew) ⟨W1.heap.size, 0, none⟩ 1 1 [.int .i64 pa, .int .i64 j, .int .i64 ((j : Int) + pb)] rfl rfl (new_cells_at W1 _ _ _ rfl) (one_par _ _ _) (by decide) HM.out.1 HM.out.2 (Nat.le_trans HO1.out.2.size (one_ok W1 _).drew.size) _ rfl ?_; intro g gc w5 hown5 hg5 _ _; have E0 := hg5.cell (a := ⟨pp, 0, none⟩) (kp_drew (kp_alloc _ D0.out)) HNE.out; have E1 := hg5.cell (a := ⟨pp, 1, none⟩) (kp_drew (kp_alloc _ D1.out)) HNE.out; have E2 := hg5.cell (a := ⟨pp, 2, none⟩) (kp_drew (kp_alloc _ D2.out)) HNE.out; have HF := Lib.hid (And.intro hown5 (((one_ok W1 _).drew.mono HO1.out.2.size).grown hg5 (Nat.le_trans HO1.out.2.size (one_ok W1 _).drew.size) (fun k hk => (HO1.out.1.lt k hk).1))); clear hown5 hg5))
      simp only [List.getElem_toArray, List.getElem_cons_succ, List.getElem_cons_zero, List.setIfInBounds_toArray, List.set_cons_succ, List.set_cons_zero, Nat.zero_add]
      go_wp2
      go_roundw
      case rel => exact ⟨j + pb, fu, acc ++ [(pa, j, j + pb)], _, by go_num, rfl, by omega, by omega, by omega, by rw [List.length_append, List.length_singleton]; omega, Lib.hid ⟨by rw [parsCells_snoc, List.length_append]; exact HF.out.1, HO1.out.2.trans HF.out.2⟩, HNEXT⟩
      case measure => simp [intOf]; omega
    · obtain rfl : j = t := by omega
      have hall := HALL.out
      rw [List.drop_eq_nil_of_le (by rw [HTL.out]; exact Nat.le_refl _), parF_end, List.append_nil] at hall
      clear hlt HALL
      go_wp2
      go_ret
      rw [← hall]
      exact ⟨_, rfl, HOW.out.1, HOW.out.2⟩

end Go.Proofs.Ytblebkpnjeghoaa
