/-
  Contract of layer 9: Read.
-/
import Derived.Test.YtpjcheelafegbaaDxX
namespace Go.Proofs.Ytpjcheelafegbaa
open Go.RowKit
set_option linter.unusedVariables false

abbrev zP : PartA := (0, 0, 0)
abbrev kSYS : ByteArray := ⟨#[83, 89, 83, 84, 69, 77]⟩
abbrev kPUB : ByteArray := ⟨#[80, 85, 66, 76, 73, 67]⟩
/-- What names something outside, and what is left. -/
def outR (l : List Int) (Q : List PartA) : (PartA × PartA) × List PartA :=
  if (takeP [3, 2, 3, 4] Q).2.1 && isP l ((takeP [3, 2, 3, 4] Q).1.getD 1 zP) kSYS then ((zP, (takeP [3, 2, 3, 4] Q).1.getD 3 zP), (takeP [3, 2, 3, 4] Q).2.2)
  else if (takeP [3, 2, 3, 4, 3, 4] Q).2.1 && (isP l ((takeP [3, 2, 3, 4, 3, 4] Q).1.getD 1 zP) kPUB && pubP l ((takeP [3, 2, 3, 4, 3, 4] Q).1.getD 3 zP)) then (((takeP [3, 2, 3, 4, 3, 4] Q).1.getD 3 zP, (takeP [3, 2, 3, 4, 3, 4] Q).1.getD 5 zP), (takeP [3, 2, 3, 4, 3, 4] Q).2.2)
  else ((zP, zP), Q)
/-- Parts that lie within a row; what stands in quotes has both of them. -/
def WFP (n : Nat) (Q : List PartA) : Prop := ∀ x ∈ Q, x.2.1 ≤ x.2.2 ∧ x.2.2 ≤ n ∧ (x.1 = 4 → x.2.1 + 2 ≤ x.2.2)
theorem WFP.drop {n : Nat} {Q : List PartA} (h : WFP n Q) (k : Nat) : WFP n (Q.drop k) := fun x hx => h x (List.mem_of_mem_drop hx)
theorem WFP.took {n : Nat} {Q : List PartA} (h : WFP n Q) (K : List Nat) : WFP n (takeP K Q).2.2 := by
  unfold takeP
  split
  · exact h.drop _
  · exact h
theorem takeP_at {K : List Nat} {Q n Q' : List PartA} (h : takeP K Q = (n, true, Q')) : n = Q.take K.length ∧ n.map (·.1) = K ∧ Q' = Q.drop K.length := by
  unfold takeP at h
  split at h
  · rename_i hc
    simp only [Prod.mk.injEq] at h
    obtain ⟨rfl, _, rfl⟩ := h
    exact ⟨rfl, hc, rfl⟩
  · simp at h
theorem oneD_of {n : List PartA} {a : Nat} (h : n.map (·.1) = [a]) : ∃ x : PartA, n = [x] := by
  match n, h with
  | [x], h => exact ⟨x, rfl⟩
  | [], h => simp at h
  | _ :: _ :: _, h => simp at h
theorem four_of {n : List PartA} {a b c d : Nat} (h : n.map (·.1) = [a, b, c, d]) : ∃ x y z u : PartA, n = [x, y, z, u] ∧ x.1 = a ∧ y.1 = b ∧ z.1 = c ∧ u.1 = d := by
  match n, h with
  | [x, y, z, u], h => simp at h; exact ⟨x, y, z, u, rfl, h.1, h.2.1, h.2.2.1, h.2.2.2⟩
theorem six_of {n : List PartA} {a b c d e f : Nat} (h : n.map (·.1) = [a, b, c, d, e, f]) : ∃ x y z u v w : PartA, n = [x, y, z, u, v, w] ∧ x.1 = a ∧ y.1 = b ∧ z.1 = c ∧ u.1 = d ∧ v.1 = e ∧ w.1 = f := by
  match n, h with
  | [x, y, z, u, v, w], h => simp at h; exact ⟨x, y, z, u, v, w, rfl, h.1, h.2.1, h.2.2.1, h.2.2.2.1, h.2.2.2.2.1, h.2.2.2.2.2⟩
theorem outR_wf {n : Nat} {l : List Int} {Q : List PartA} (h : WFP n Q) : WFP n (outR l Q).2 := by
  unfold outR
  split
  · exact h.took _
  · split
    · exact h.took _
    · exact h
theorem subR_wf {n : Nat} {Q : List PartA} (h : WFP n Q) : WFP n (subR Q).2 := by
  unfold subR
  split
  · simp only
    split
    · exact (((h.took _).took _).took _).took _
    · exact ((h.took _).took _).took _
  · exact h

section
variable {w : World} {rp : Nat} {b off n cap : Nat} {l : List Int} {Q : List PartA}

theorem out_any (h : RF w rp (some ⟨b, off, none⟩) n cap l Q) (hn : n ≤ 1000) (hw : WFP n Q) {u v : PartA} {Q' : List PartA} (hR : outR l Q = ((u, v), Q')) :
    Calls Try.prog 45 #[.pointer (some ⟨rp, 0, none⟩)] w (ReadsQ rp (some ⟨b, off, none⟩) n cap l Q' w (.tuple #[parI u.1 u.2.1 u.2.2, parI v.1 v.2.1 v.2.2])) := by
  unfold outR at hR
  obtain ⟨⟨n4, o4, Q4⟩, h4⟩ : ∃ t, takeP [3, 2, 3, 4] Q = t := ⟨_, rfl⟩
  obtain ⟨⟨n6, o6, Q6⟩, h6⟩ : ∃ t, takeP [3, 2, 3, 4, 3, 4] Q = t := ⟨_, rfl⟩
  rw [h4, h6] at hR
  simp only at hR
  cases o4
  · have h4' := takeP_no (K := [3, 2, 3, 4]) (Q := Q) (by rw [h4])
    have h6' : takeP [3, 2, 3, 4, 3, 4] Q = ([], false, Q) := by
      refine takeP_no ?_
      cases h : (takeP [3, 2, 3, 4, 3, 4] Q).2.1
      · rfl
      · exfalso
        have e6 := (takeP_yesD h).1
        have hm := (takeP_at (n := Q.take 6) (Q' := Q.drop 6) e6).2.1
        have : (Q.take 4).map (·.1) = [3, 2, 3, 4] := by
          have h2 := congrArg (List.take 4) hm
          rw [← List.map_take, List.take_take] at h2
          simpa using h2
        unfold takeP at h4'
        rw [if_pos (show (Q.take [3, 2, 3, 4].length).map (·.1) = [3, 2, 3, 4] from this)] at h4'
        simp at h4'
    rw [h6] at h6'
    simp only [Prod.mk.injEq] at h6'
    obtain ⟨rfl, rfl, rfl⟩ := h6'
    simp only [Bool.false_and, Bool.false_eq_true, if_false, Prod.mk.injEq] at hR
    obtain ⟨⟨rfl, rfl⟩, rfl⟩ := hR
    exact out_none h h4' h6
  · obtain ⟨hn4, hk4, hq4⟩ := takeP_at h4
    obtain ⟨x1, x2, x3, x4, rfl, _, _, _, _⟩ := four_of hk4
    have hx2 := hw x2 (List.mem_of_mem_take (i := 4) (by have : Q.take 4 = [x1, x2, x3, x4] := hn4.symm; rw [this]; simp))
    obtain ⟨k1, f1, t1⟩ := x2
    obtain ⟨k3, f3, t3⟩ := x4
    simp only [List.getD_cons_succ, List.getD_cons_zero, Bool.true_and] at hR
    cases hI : isP l (k1, f1, t1) kSYS
    · rw [hI] at hR
      simp only [Bool.false_eq_true, if_false] at hR
      cases o6
      · have h6' := takeP_no (K := [3, 2, 3, 4, 3, 4]) (Q := Q) (by rw [h6])
        simp only [Bool.false_and, Bool.false_eq_true, if_false, Prod.mk.injEq] at hR
        obtain ⟨⟨rfl, rfl⟩, rfl⟩ := hR
        exact out_no6 h hn h4 hx2.1 hx2.2.1 hI h6'
      · obtain ⟨hn6, hk6, hq6⟩ := takeP_at h6
        obtain ⟨y1, y2, y3, y4, y5, y6, rfl, _, _, _, hy4k, _, _⟩ := six_of hk6
        have he : y2 = (k1, f1, t1) := by
          have a1 : Q[1]? = some (k1, f1, t1) := by
            have : (Q.take 4)[1]? = some (k1, f1, t1) := by rw [show Q.take 4 = _ from hn4.symm]; rfl
            rwa [List.getElem?_take, if_pos (by omega)] at this
          have a2 : Q[1]? = some y2 := by
            have : (Q.take 6)[1]? = some y2 := by rw [show Q.take 6 = _ from hn6.symm]; rfl
            rwa [List.getElem?_take, if_pos (by omega)] at this
          rw [a1] at a2
          exact (Option.some.inj a2).symm
        subst he
        have hy4 := hw y4 (List.mem_of_mem_take (i := 6) (by have : Q.take 6 = [y1, (k1, f1, t1), y3, y4, y5, y6] := hn6.symm; rw [this]; simp))
        obtain ⟨j3, g3, u3⟩ := y4
        obtain ⟨j5, g5, u5⟩ := y6
        simp only [List.getD_cons_succ, List.getD_cons_zero, Bool.true_and] at hR
        cases hJ : isP l (k1, f1, t1) kPUB
        · rw [hJ] at hR
          simp only [Bool.false_and, Bool.false_eq_true, if_false, Prod.mk.injEq] at hR
          obtain ⟨⟨rfl, rfl⟩, rfl⟩ := hR
          exact out_nokey h hn h4 hx2.1 hx2.2.1 hI h6 hJ
        · rw [hJ] at hR
          simp only [Bool.true_and] at hR
          cases hP : pubP l (j3, g3, u3)
          · rw [hP] at hR
            simp only [Bool.false_eq_true, if_false, Prod.mk.injEq] at hR
            obtain ⟨⟨rfl, rfl⟩, rfl⟩ := hR
            exact out_nopub h hn h4 hx2.1 hx2.2.1 hI h6 hJ (hy4.2.2 hy4k) hy4.2.1 hP
          · rw [hP] at hR
            simp only [if_true, Prod.mk.injEq] at hR
            obtain ⟨⟨rfl, rfl⟩, rfl⟩ := hR
            exact out_pub h hn h4 hx2.1 hx2.2.1 hI h6 hJ (hy4.2.2 hy4k) hy4.2.1 hP
    · rw [hI] at hR
      simp only [if_true, Prod.mk.injEq] at hR
      obtain ⟨⟨rfl, rfl⟩, rfl⟩ := hR
      exact out_sys h hn h4 hx2.1 hx2.2.1 hI

theorem sub_any {a : Option Addr} (h : RF w rp a n cap l Q) {u : PartA} {Q' : List PartA} (hR : subR Q = (u, Q')) :
    Calls Try.prog 46 #[.pointer (some ⟨rp, 0, none⟩)] w (ReadsQ rp a n cap l Q' w (parI u.1 u.2.1 u.2.2)) := by
  unfold subR at hR
  obtain ⟨⟨n5, o5, Q1⟩, h5⟩ : ∃ t, takeP [5] Q = t := ⟨_, rfl⟩
  rw [h5] at hR
  simp only at hR
  cases o5
  · have h5' := takeP_no (K := [5]) (Q := Q) (by rw [h5])
    simp only [Bool.false_eq_true, if_false, Prod.mk.injEq] at hR
    obtain ⟨rfl, rfl⟩ := hR
    exact sub_none h h5'
  · rw [if_pos rfl] at hR
    obtain ⟨⟨n6, o6, Q2⟩, h6⟩ : ∃ t, takeP [6] Q1 = t := ⟨_, rfl⟩
    rw [h6] at hR
    simp only at hR
    cases o6
    · have h6' := takeP_no (K := [6]) (Q := Q1) (by rw [h6])
      obtain ⟨⟨n7, o7, Q3⟩, h7⟩ : ∃ t, takeP [5] Q1 = t := ⟨_, rfl⟩
      obtain ⟨⟨n8, o8, Q4⟩, h8⟩ : ∃ t, takeP [3] Q3 = t := ⟨_, rfl⟩
      rw [h7] at hR
      simp only [h8, Bool.false_eq_true, if_false, Prod.mk.injEq] at hR
      obtain ⟨rfl, rfl⟩ := hR
      exact sub_empty h h5 h6' h7 h8
    · obtain ⟨hn6, hk6, _⟩ := takeP_at h6
      obtain ⟨y, rfl⟩ := oneD_of hk6
      obtain ⟨⟨n7, o7, Q3⟩, h7⟩ : ∃ t, takeP [5] Q2 = t := ⟨_, rfl⟩
      obtain ⟨⟨n8, o8, Q4⟩, h8⟩ : ∃ t, takeP [3] Q3 = t := ⟨_, rfl⟩
      rw [h7] at hR
      simp only [h8, if_true, List.getD_cons_zero, Prod.mk.injEq] at hR
      obtain ⟨rfl, rfl⟩ := hR
      exact sub_full h h5 h6 h7 h8
end

end Go.Proofs.Ytpjcheelafegbaa

namespace Go.Proofs.Ytpjcheelafegbaa
open Go.RowKit
set_option linter.unusedVariables false

abbrev headV (m u v y : PartA) (r : Bool) : Value := .agg #[.int .i64 m.1, .int .i64 m.2.1, .int .i64 m.2.2, .int .i64 u.1, .int .i64 u.2.1, .int .i64 u.2.2, .int .i64 v.1, .int .i64 v.2.1, .int .i64 v.2.2, .int .i64 y.1, .int .i64 y.2.1, .int .i64 y.2.2, .bool r]
abbrev headZ : Obj := .cells #[.int .i64 0, .int .i64 0, .int .i64 0, .int .i64 0, .int .i64 0, .int .i64 0, .int .i64 0, .int .i64 0, .int .i64 0, .int .i64 0, .int .i64 0, .int .i64 0, .bool false] 34
/-- A box's cells. -/
structure HBx (W : World) (g : Nat) (cs : List Value) : Prop where
  c : ∀ (i : Nat) (u : Value), cs[i]? = some u → W.cell? ⟨g, i, none⟩ = some u
  z : ∀ i, W.frozen? ⟨g, i, none⟩ = false
  lt : g < W.heap.size
theorem HBx.new (W : World) (cs : List Value) (e : TypeId) : HBx (W.alloc (.cells cs.toArray e)) W.heap.size cs :=
  ⟨fun i u h => by have := new_cells W cs e i u h; rwa [addr_add, Nat.zero_add] at this, fun i => by simp [go_sem], by simp⟩
theorem HBx.kept {W W' : World} {g rp : Nat} {cs : List Value} (h : HBx W g cs) (hk : Kept rp W W') (hne : g ≠ rp) : HBx W' g cs := by
  obtain ⟨k1, k2⟩ := kcell hk
  exact ⟨fun i u hi => (k1 _ _ h.lt hne).trans (h.c i u hi), fun i => (k2 _ _ h.lt hne).trans (h.z i), Nat.lt_of_lt_of_le h.lt hk.size⟩
theorem HBx.put {W : World} {g : Nat} {cs : List Value} (h : HBx W g cs) (j : Nat) (v : Value) (hj : j < cs.length) : HBx (W.setCell ⟨g, j, none⟩ v) g (cs.set j v) := by
  refine ⟨fun i u hi => ?_, fun i => by rw [World.frozen?_setCell]; exact h.z i, by rw [size_setCell']; exact h.lt⟩
  by_cases hij : i = j
  · subst hij
    rw [List.getElem?_set_self hj] at hi
    obtain rfl := Option.some.inj hi
    exact World.cell?_setCell_same _ _ _ (h.c i _ (List.getElem?_eq_getElem hj))
  · rw [List.getElem?_set_ne (fun e => hij e.symm)] at hi
    rw [World.cell?_setCell_other _ _ _ _ (fun e => hij (by cases e; rfl))]
    exact h.c i u hi
/-- A reader that was just made. -/
theorem RE.made {w1 : World} {base m : Nat} {va : Option Addr} {vc : Nat} {P : List PartA} {e : TypeId} (hown : w1.ownsRow base e 3 (.slice va P.length vc) P.length (parsCells P)) (hvc : P.length ≤ vc) (u : Value) (t : TypeId) : RE (w1.alloc (.cells #[u, .slice va P.length vc] t)) w1.heap.size P := by
  have hat := AtCells.of_owns hown
  refine ⟨⟨va, vc, by simp [go_sem], hvc, owns_cap hown, fun j v hj => ?_⟩, by simp [go_sem]⟩
  obtain ⟨b, off, ha, hc⟩ := hat j v hj
  exact ⟨b, off, ha, cell_lt hc, kp_alloc _ hc⟩

theorem threeD_of {n : List PartA} {a b c : Nat} (h : n.map (·.1) = [a, b, c]) : ∃ x y z : PartA, n = [x, y, z] := by
  match n, h with
  | [x, y, z], h => exact ⟨x, y, z, rfl⟩
  | [], h => simp at h
  | [_], h => simp at h
  | [_, _], h => simp at h
  | _ :: _ :: _ :: _ :: _, h => simp at h
/-- What a document type's parts say as a head. -/
def readD (l : List Int) (P : List PartA) : (PartA × PartA × PartA × PartA) × Bool :=
  if (takeP [1, 3, 2] P).2.1 then
    let Q1 := (takeP [1, 3, 2] P).2.2
    let Q2 := (outR l Q1).2
    let Q3 := (takeP [3] Q2).2.2
    let Q4 := (subR Q3).2
    if (takeP [7] Q4).2.1 then (((takeP [1, 3, 2] P).1.getD 2 zP, (outR l Q1).1.1, (outR l Q1).1.2, (subR Q3).1), true)
    else ((zP, zP, zP, zP), false)
  else ((zP, zP, zP, zP), false)
def HeadD (w : World) (r : (PartA × PartA × PartA × PartA) × Bool) (e : Ending) (w' : World) : Prop :=
  e = .returned (headV r.1.1 r.1.2.1 r.1.2.2.1 r.1.2.2.2 r.2) ∧ Below w.heap.size w w'

section
variable {w : World} {a : Option Addr} {n cap : Nat} {l : List Int} {P : List PartA} {f t : Int}

set_option maxRecDepth 20000 in
set_option maxHeartbeats 4000000 in
theorem read_0 (R : NRow w a n cap l) (hn : n ≤ 900) (hP : inP dtP l f t = P) (h1 : takeP [1, 3, 2] P = ([], false, P)) :
    Calls Try.prog 20 #[.slice a n cap, .int .i64 f, .int .i64 t] w (HeadD w ((zP, zP, zP, zP), false)) := by
  have HP := Lib.hid (fun hb => PartsD_any (R.below (w' := w.alloc headZ) hb) (by omega) f t)
  have HP := Lib.hid (HP.out (one_ok w headZ))
  rw [hP] at HP
  have HB0 := Lib.hid (HBx.new w [.int .i64 0, .int .i64 0, .int .i64 0, .int .i64 0, .int .i64 0, .int .i64 0, .int .i64 0, .int .i64 0, .int .i64 0, .int .i64 0, .int .i64 0, .int .i64 0, .bool false] 34)
  have HT1 := Lib.hid (fun (W : World) (rp : Nat) (R : RE W rp P) (g : Nat) (hg : g = W.heap.size) => takeDK R [1, 3, 2] (by decide) (by decide) h1 #[.int .i64 1, .int .i64 3, .int .i64 2] rfl 3 rfl g hg)
  clear R hP h1
  go_enter Try.func20, Try.ntmps20
  go_wp2_with (first
    | (go_at_call 13; (with_reducible refine HP.out.mono ?_); rintro e w1 ⟨pv, rfl, hown, hb1⟩; obtain ⟨va, vc, rfl, hvc⟩ := owns_slice hown; have HRE1 := Lib.hid (RE.made (m := 0) hown hvc (.slice a n cap) 76); have hs1 : w.heap.size + 1 ≤ w1.heap.size := (by have := hb1.size; simp at this; omega); have HBW := Lib.hid (((one_ok w headZ).trans (hb1.mono (by simp))).alloc (by omega) (.cells #[.slice a n cap, .slice va P.length vc] 76)); have HB1 := Lib.hid ((HB0.out.kept (Kept.of_below (p := w1.heap.size) hb1) (by omega)).kept (Kept.of_below (p := w1.heap.size) (one_ok w1 (.cells #[.slice a n cap, .slice va P.length vc] 76))) (by omega)); clear hown hb1; have tk1 : True := trivial)
    | (go_at_call 44; (have _t := tk1); (with_reducible refine (HT1.out _ _ HRE1.out _ (by simp)).mono ?_); rintro e w2 ⟨A1, c1, rfl, _, hat1, hre1, hk1, hc1⟩; clear tk1 _t; have HK2 := Lib.hid hk1; have HB2 := Lib.hid (HB1.out.kept hk1 (by omega)); clear hat1 hre1 hk1 hc1; have r0 := HB2.out.c 0 _ rfl; have r1 := HB2.out.c 1 _ rfl; have r2 := HB2.out.c 2 _ rfl; have r3 := HB2.out.c 3 _ rfl; have r4 := HB2.out.c 4 _ rfl; have r5 := HB2.out.c 5 _ rfl; have r6 := HB2.out.c 6 _ rfl; have r7 := HB2.out.c 7 _ rfl; have r8 := HB2.out.c 8 _ rfl; have r9 := HB2.out.c 9 _ rfl; have r10 := HB2.out.c 10 _ rfl; have r11 := HB2.out.c 11 _ rfl; have r12 := HB2.out.c 12 _ rfl; have rz := HB2.out.z; have hr0 : w.heap.size < w2.heap.size := HB2.out.lt))
  refine bodyPost_ret (v := headV zP zP zP zP false) ?_ rfl ⟨rfl, ?_⟩
  · simp [results, Try.results20, go_sem, r0, r1, r2, r3, r4, r5, r6, r7, r8, r9, r10, r11, r12, parI]
  · have HBB := HK2.out.below HBW.out (by omega) (by simp; omega)
    exact (((((((((((((HBB.setCell (Nat.le_refl _) _).setCell (Nat.le_refl _) _).setCell (Nat.le_refl _) _).setCell (Nat.le_refl _) _).setCell (Nat.le_refl _) _).setCell (Nat.le_refl _) _).setCell (Nat.le_refl _) _).setCell (Nat.le_refl _) _).setCell (Nat.le_refl _) _).setCell (Nat.le_refl _) _).setCell (Nat.le_refl _) _).setCell (Nat.le_refl _) _).setCell (Nat.le_refl _) _)

set_option maxRecDepth 20000 in
set_option maxHeartbeats 8000000 in
theorem read_1 {b off : Nat} (R : RRow w b off n cap l) (hn : n ≤ 900) (hP : inP dtP l f t = P) {x1 x2 : PartA} {m0 m1 m2 : Nat} {Q1 Q2 Q3 Q5 Q6 : List PartA} (h1 : takeP [1, 3, 2] P = ([x1, x2, (m0, m1, m2)], true, Q1)) (hw : WFP n Q1) {u0 u1 u2 v0 v1 v2 : Nat} (hO : outR l Q1 = (((u0, u1, u2), (v0, v1, v2)), Q2)) {n3 : List PartA} {o3 : Bool} (h3 : takeP [3] Q2 = (n3, o3, Q3)) {y0 y1 y2 : Nat} (hS : subR Q3 = ((y0, y1, y2), Q5)) (h7 : takeP [7] Q5 = ([], false, Q5)) :
    Calls Try.prog 20 #[.slice (some ⟨b, off, none⟩) n cap, .int .i64 f, .int .i64 t] w (HeadD w ((zP, zP, zP, zP), false)) := by
  have HP := Lib.hid (fun hb => PartsD_any ((⟨R.len, R.le, R.max, R.cells⟩ : NRow w (some ⟨b, off, none⟩) n cap l).below (w' := w.alloc headZ) hb) (by omega) f t)
  have HP := Lib.hid (HP.out (one_ok w headZ))
  rw [hP] at HP
  have HB0 := Lib.hid (HBx.new w [.int .i64 0, .int .i64 0, .int .i64 0, .int .i64 0, .int .i64 0, .int .i64 0, .int .i64 0, .int .i64 0, .int .i64 0, .int .i64 0, .int .i64 0, .int .i64 0, .bool false] 34)
  have HT1 := Lib.hid (fun (W : World) (rp : Nat) (R : RE W rp P) (g : Nat) (hg : g = W.heap.size) => takeDK R [1, 3, 2] (by decide) (by decide) h1 #[.int .i64 1, .int .i64 3, .int .i64 2] rfl 3 rfl g hg)
  have HT3 := Lib.hid (fun (W : World) (rp : Nat) (R : RE W rp Q2) (g : Nat) (hg : g = W.heap.size) => takeDK R [3] (by decide) (by decide) h3 #[.int .i64 3] rfl 1 rfl g hg)
  have HT7 := Lib.hid (fun (W : World) (rp : Nat) (R : RE W rp Q5) (g : Nat) (hg : g = W.heap.size) => takeDK R [7] (by decide) (by decide) h7 #[.int .i64 7] rfl 1 rfl g hg)
  have HO := Lib.hid (fun (W : World) (rp : Nat) (RR : RF W rp (some ⟨b, off, none⟩) n cap l Q1) => out_any RR (by omega) hw hO)
  have HS := Lib.hid (fun (W : World) (rp : Nat) (RR : RF W rp (some ⟨b, off, none⟩) n cap l Q3) => sub_any RR hS)
  simp only at HO HS
  have HRR := Lib.hid R
  clear R hP h1 hw hO h3 hS h7
  go_enter Try.func20, Try.ntmps20
  go_wp2_with (first
    | (go_at_call 13; (with_reducible refine HP.out.mono ?_); rintro e w1 ⟨pv, rfl, hown, hb1⟩; obtain ⟨va, vc, rfl, hvc⟩ := owns_slice hown; have HRE1 := Lib.hid (RE.made (m := 0) hown hvc (.slice (some ⟨b, off, none⟩) n cap) 76); have hs1 : w.heap.size + 1 ≤ w1.heap.size := (by have := hb1.size; simp at this; omega); have HBW := Lib.hid (((one_ok w headZ).trans (hb1.mono (by simp))).alloc (by omega) (.cells #[.slice (some ⟨b, off, none⟩) n cap, .slice va P.length vc] 76)); have HB1 := Lib.hid ((HB0.out.kept (Kept.of_below (p := w1.heap.size) hb1) (by omega)).kept (Kept.of_below (p := w1.heap.size) (one_ok w1 (.cells #[.slice (some ⟨b, off, none⟩) n cap, .slice va P.length vc] 76))) (by omega)); have HRF1 := Lib.hid (show RF (w1.alloc (.cells #[.slice (some ⟨b, off, none⟩) n cap, .slice va P.length vc] 76)) w1.heap.size (some ⟨b, off, none⟩) n cap l P from ⟨HRE1.out, by simp [go_sem], by simp [go_sem], HRR.out.len, HRR.out.le, HRR.out.max, fun j u hj => by obtain ⟨b', off', ha, hc⟩ := HRR.out.cells j u hj; have hlt := cell_lt hc; exact ⟨b', off', ha, by omega, by rw [HBW.out.cell (p := ⟨b', off' + j, none⟩) hlt]; exact hc⟩⟩); clear hown hb1; have tk1 : True := trivial)
    | (go_at_call 44; (have _t := tk1); (with_reducible refine (HT1.out _ _ HRE1.out _ (by simp)).mono ?_); rintro e w2 ⟨A1, c1, rfl, _, hat1, hre1, hk1, hc1⟩; clear tk1 _t; have tk2 : True := trivial; have HK2 := Lib.hid (hk1.next (one_ok w2 (.cells #[.int .i64 (m0 : Nat), .int .i64 (m1 : Nat), .int .i64 (m2 : Nat), .int .i64 0, .int .i64 0, .int .i64 0, .int .i64 0, .int .i64 0, .int .i64 0, .int .i64 0, .int .i64 0, .int .i64 0, .bool true] 34))); have HRF2 := Lib.hid ((HRF1.out.took hre1 hk1 hc1).next (one_ok w2 (.cells #[.int .i64 (m0 : Nat), .int .i64 (m1 : Nat), .int .i64 (m2 : Nat), .int .i64 0, .int .i64 0, .int .i64 0, .int .i64 0, .int .i64 0, .int .i64 0, .int .i64 0, .int .i64 0, .int .i64 0, .bool true] 34))); have HX2 := Lib.hid (HBx.new w2 [.int .i64 (m0 : Nat), .int .i64 (m1 : Nat), .int .i64 (m2 : Nat), .int .i64 0, .int .i64 0, .int .i64 0, .int .i64 0, .int .i64 0, .int .i64 0, .int .i64 0, .int .i64 0, .int .i64 0, .bool true] 34); have hg2 : w1.heap.size < w2.heap.size := (by have := hk1.size; simp at this; omega); have hg2' : (w1.alloc (.cells #[.slice (some ⟨b, off, none⟩) n cap, .slice va P.length vc] 76)).heap.size ≤ w2.heap.size := hk1.size; obtain ⟨pb, po, hpa, hpb, g20, g21, g22⟩ := tcells hat1 (k := 2) rfl; subst hpa; (simp only [Nat.reduceMul, Nat.reduceAdd] at g20 g21 g22); clear hat1 hre1 hk1 hc1)
    | (go_at_call 45; (have _t := tk2); (refine (HO.out _ _ HRF2.out).mono ?_); rintro e w3 ⟨rfl, hrf, hk⟩; clear tk2 _t; have tk3 : True := trivial; have X3 := HX2.out.kept hk (by omega); have x0 := X3.c 0 _ rfl; have x1 := X3.c 1 _ rfl; have x2 := X3.c 2 _ rfl; have x3 := X3.c 3 _ rfl; have x4 := X3.c 4 _ rfl; have x5 := X3.c 5 _ rfl; have x6 := X3.c 6 _ rfl; have x7 := X3.c 7 _ rfl; have x8 := X3.c 8 _ rfl; have x9 := X3.c 9 _ rfl; have x10 := X3.c 10 _ rfl; have x11 := X3.c 11 _ rfl; have x12 := X3.c 12 _ rfl; have xz := X3.z; have HX3 := Lib.hid (show HBx _ w2.heap.size [.int .i64 (m0 : Nat), .int .i64 (m1 : Nat), .int .i64 (m2 : Nat), .int .i64 (u0 : Nat), .int .i64 (u1 : Nat), .int .i64 (u2 : Nat), .int .i64 (v0 : Nat), .int .i64 (v1 : Nat), .int .i64 (v2 : Nat), .int .i64 0, .int .i64 0, .int .i64 0, .bool true] from ((((((X3.put 3 (.int .i64 (u0 : Nat)) (by simp)).put 4 (.int .i64 (u1 : Nat)) (by simp)).put 5 (.int .i64 (u2 : Nat)) (by simp)).put 6 (.int .i64 (v0 : Nat)) (by simp)).put 7 (.int .i64 (v1 : Nat)) (by simp)).put 8 (.int .i64 (v2 : Nat)) (by simp))); have HRF3 := Lib.hid ((((((hrf.set hg2 3 (.int .i64 (u0 : Nat))).set hg2 4 (.int .i64 (u1 : Nat))).set hg2 5 (.int .i64 (u2 : Nat))).set hg2 6 (.int .i64 (v0 : Nat))).set hg2 7 (.int .i64 (v1 : Nat))).set hg2 8 (.int .i64 (v2 : Nat))); have HK3 := Lib.hid (((((((HK2.out.trans hk).setNew (g := w2.heap.size) (j := 3) hg2' (.int .i64 (u0 : Nat))).setNew (g := w2.heap.size) (j := 4) hg2' (.int .i64 (u1 : Nat))).setNew (g := w2.heap.size) (j := 5) hg2' (.int .i64 (u2 : Nat))).setNew (g := w2.heap.size) (j := 6) hg2' (.int .i64 (v0 : Nat))).setNew (g := w2.heap.size) (j := 7) hg2' (.int .i64 (v1 : Nat))).setNew (g := w2.heap.size) (j := 8) hg2' (.int .i64 (v2 : Nat))); have hlt3 := X3.lt; clear X3 hrf hk)
    | (go_at_call 44; (have _t := tk3); (refine (HT3.out _ _ HRF3.out.rest _ (by simp)).mono ?_); rintro e w4 ⟨A1, c1, rfl, _, hat1, hre1, hk1, hc1⟩; clear tk3 _t; have tk4 : True := trivial; have HRF4 := Lib.hid (HRF3.out.took hre1 hk1 hc1); have HK4 := Lib.hid (HK3.out.trans hk1); have HX4 := Lib.hid (HX3.out.kept hk1 (by omega)); clear hat1 hre1 hk1 hc1; clear x0 x1 x2 x3 x4 x5 x6 x7 x8 x9 x10 x11 x12 xz)
    | (go_at_call 46; (have _t := tk4); (refine (HS.out _ _ HRF4.out).mono ?_); rintro e w5 ⟨rfl, hrf, hk⟩; clear tk4 _t; have tk5 : True := trivial; have X5 := HX4.out.kept hk (by omega); have x0 := X5.c 0 _ rfl; have x1 := X5.c 1 _ rfl; have x2 := X5.c 2 _ rfl; have x3 := X5.c 3 _ rfl; have x4 := X5.c 4 _ rfl; have x5 := X5.c 5 _ rfl; have x6 := X5.c 6 _ rfl; have x7 := X5.c 7 _ rfl; have x8 := X5.c 8 _ rfl; have x9 := X5.c 9 _ rfl; have x10 := X5.c 10 _ rfl; have x11 := X5.c 11 _ rfl; have x12 := X5.c 12 _ rfl; have xz := X5.z; have HX5 := Lib.hid (show HBx _ w2.heap.size [.int .i64 (m0 : Nat), .int .i64 (m1 : Nat), .int .i64 (m2 : Nat), .int .i64 (u0 : Nat), .int .i64 (u1 : Nat), .int .i64 (u2 : Nat), .int .i64 (v0 : Nat), .int .i64 (v1 : Nat), .int .i64 (v2 : Nat), .int .i64 (y0 : Nat), .int .i64 (y1 : Nat), .int .i64 (y2 : Nat), .bool true] from (((X5.put 9 (.int .i64 (y0 : Nat)) (by simp)).put 10 (.int .i64 (y1 : Nat)) (by simp)).put 11 (.int .i64 (y2 : Nat)) (by simp))); have HRF5 := Lib.hid (((hrf.set hg2 9 (.int .i64 (y0 : Nat))).set hg2 10 (.int .i64 (y1 : Nat))).set hg2 11 (.int .i64 (y2 : Nat))); have HK5 := Lib.hid ((((HK4.out.trans hk).setNew (g := w2.heap.size) (j := 9) hg2' (.int .i64 (y0 : Nat))).setNew (g := w2.heap.size) (j := 10) hg2' (.int .i64 (y1 : Nat))).setNew (g := w2.heap.size) (j := 11) hg2' (.int .i64 (y2 : Nat))); have hlt5 := X5.lt; clear X5 hrf hk)
    | (go_at_call 44; (have _t := tk5); (refine (HT7.out _ _ HRF5.out.rest _ (by simp)).mono ?_); rintro e w6 ⟨A1, c1, rfl, _, hat1, hre1, hk1, hc1⟩; clear tk5 _t; have HK6 := Lib.hid (HK5.out.trans hk1); have HX6 := Lib.hid (HX5.out.kept hk1 (by omega)); have HB6 := Lib.hid (HB1.out.kept HK6.out (by omega)); clear hat1 hre1 hk1 hc1; clear x0 x1 x2 x3 x4 x5 x6 x7 x8 x9 x10 x11 x12 xz; have x0 := HX6.out.c 0 _ rfl; have x1 := HX6.out.c 1 _ rfl; have x2 := HX6.out.c 2 _ rfl; have x3 := HX6.out.c 3 _ rfl; have x4 := HX6.out.c 4 _ rfl; have x5 := HX6.out.c 5 _ rfl; have x6 := HX6.out.c 6 _ rfl; have x7 := HX6.out.c 7 _ rfl; have x8 := HX6.out.c 8 _ rfl; have x9 := HX6.out.c 9 _ rfl; have x10 := HX6.out.c 10 _ rfl; have x11 := HX6.out.c 11 _ rfl; have x12 := HX6.out.c 12 _ rfl; have xz := HX6.out.z; have r0 := HB6.out.c 0 _ rfl; have r1 := HB6.out.c 1 _ rfl; have r2 := HB6.out.c 2 _ rfl; have r3 := HB6.out.c 3 _ rfl; have r4 := HB6.out.c 4 _ rfl; have r5 := HB6.out.c 5 _ rfl; have r6 := HB6.out.c 6 _ rfl; have r7 := HB6.out.c 7 _ rfl; have r8 := HB6.out.c 8 _ rfl; have r9 := HB6.out.c 9 _ rfl; have r10 := HB6.out.c 10 _ rfl; have r11 := HB6.out.c 11 _ rfl; have r12 := HB6.out.c 12 _ rfl; have rz := HB6.out.z; have hr6 := HB6.out.lt; have hx6 := HX6.out.lt; have hgr : ¬ w.heap.size = w2.heap.size := (by omega); have hgr2 : ¬ w2.heap.size = w.heap.size := (by omega)))
  refine bodyPost_ret (v := headV zP zP zP zP false) ?_ rfl ⟨rfl, ?_⟩
  · simp [results, Try.results20, go_sem, r0, r1, r2, r3, r4, r5, r6, r7, r8, r9, r10, r11, r12, parI]
  · have HBB := HK6.out.below HBW.out (by omega) (by simp; omega)
    exact (((((((((((((HBB.setCell (Nat.le_refl _) _).setCell (Nat.le_refl _) _).setCell (Nat.le_refl _) _).setCell (Nat.le_refl _) _).setCell (Nat.le_refl _) _).setCell (Nat.le_refl _) _).setCell (Nat.le_refl _) _).setCell (Nat.le_refl _) _).setCell (Nat.le_refl _) _).setCell (Nat.le_refl _) _).setCell (Nat.le_refl _) _).setCell (Nat.le_refl _) _).setCell (Nat.le_refl _) _)

set_option maxRecDepth 20000 in
set_option maxHeartbeats 8000000 in
theorem read_2 {b off : Nat} (R : RRow w b off n cap l) (hn : n ≤ 900) (hP : inP dtP l f t = P) {x1 x2 : PartA} {m0 m1 m2 : Nat} {Q1 Q2 Q3 Q5 Q6 : List PartA} (h1 : takeP [1, 3, 2] P = ([x1, x2, (m0, m1, m2)], true, Q1)) (hw : WFP n Q1) {u0 u1 u2 v0 v1 v2 : Nat} (hO : outR l Q1 = (((u0, u1, u2), (v0, v1, v2)), Q2)) {n3 : List PartA} {o3 : Bool} (h3 : takeP [3] Q2 = (n3, o3, Q3)) {y0 y1 y2 : Nat} (hS : subR Q3 = ((y0, y1, y2), Q5)) {j0 j1 j2 : Nat} (h7 : takeP [7] Q5 = ([(j0, j1, j2)], true, Q6)) :
    Calls Try.prog 20 #[.slice (some ⟨b, off, none⟩) n cap, .int .i64 f, .int .i64 t] w (HeadD w (((m0, m1, m2), (u0, u1, u2), (v0, v1, v2), (y0, y1, y2)), true)) := by
  have HP := Lib.hid (fun hb => PartsD_any ((⟨R.len, R.le, R.max, R.cells⟩ : NRow w (some ⟨b, off, none⟩) n cap l).below (w' := w.alloc headZ) hb) (by omega) f t)
  have HP := Lib.hid (HP.out (one_ok w headZ))
  rw [hP] at HP
  have HB0 := Lib.hid (HBx.new w [.int .i64 0, .int .i64 0, .int .i64 0, .int .i64 0, .int .i64 0, .int .i64 0, .int .i64 0, .int .i64 0, .int .i64 0, .int .i64 0, .int .i64 0, .int .i64 0, .bool false] 34)
  have HT1 := Lib.hid (fun (W : World) (rp : Nat) (R : RE W rp P) (g : Nat) (hg : g = W.heap.size) => takeDK R [1, 3, 2] (by decide) (by decide) h1 #[.int .i64 1, .int .i64 3, .int .i64 2] rfl 3 rfl g hg)
  have HT3 := Lib.hid (fun (W : World) (rp : Nat) (R : RE W rp Q2) (g : Nat) (hg : g = W.heap.size) => takeDK R [3] (by decide) (by decide) h3 #[.int .i64 3] rfl 1 rfl g hg)
  have HT7 := Lib.hid (fun (W : World) (rp : Nat) (R : RE W rp Q5) (g : Nat) (hg : g = W.heap.size) => takeDK R [7] (by decide) (by decide) h7 #[.int .i64 7] rfl 1 rfl g hg)
  have HO := Lib.hid (fun (W : World) (rp : Nat) (RR : RF W rp (some ⟨b, off, none⟩) n cap l Q1) => out_any RR (by omega) hw hO)
  have HS := Lib.hid (fun (W : World) (rp : Nat) (RR : RF W rp (some ⟨b, off, none⟩) n cap l Q3) => sub_any RR hS)
  simp only at HO HS
  have HRR := Lib.hid R
  clear R hP h1 hw hO h3 hS h7
  go_enter Try.func20, Try.ntmps20
  go_wp2_with (first
    | (go_at_call 13; (with_reducible refine HP.out.mono ?_); rintro e w1 ⟨pv, rfl, hown, hb1⟩; obtain ⟨va, vc, rfl, hvc⟩ := owns_slice hown; have HRE1 := Lib.hid (RE.made (m := 0) hown hvc (.slice (some ⟨b, off, none⟩) n cap) 76); have hs1 : w.heap.size + 1 ≤ w1.heap.size := (by have := hb1.size; simp at this; omega); have HBW := Lib.hid (((one_ok w headZ).trans (hb1.mono (by simp))).alloc (by omega) (.cells #[.slice (some ⟨b, off, none⟩) n cap, .slice va P.length vc] 76)); have HB1 := Lib.hid ((HB0.out.kept (Kept.of_below (p := w1.heap.size) hb1) (by omega)).kept (Kept.of_below (p := w1.heap.size) (one_ok w1 (.cells #[.slice (some ⟨b, off, none⟩) n cap, .slice va P.length vc] 76))) (by omega)); have HRF1 := Lib.hid (show RF (w1.alloc (.cells #[.slice (some ⟨b, off, none⟩) n cap, .slice va P.length vc] 76)) w1.heap.size (some ⟨b, off, none⟩) n cap l P from ⟨HRE1.out, by simp [go_sem], by simp [go_sem], HRR.out.len, HRR.out.le, HRR.out.max, fun j u hj => by obtain ⟨b', off', ha, hc⟩ := HRR.out.cells j u hj; have hlt := cell_lt hc; exact ⟨b', off', ha, by omega, by rw [HBW.out.cell (p := ⟨b', off' + j, none⟩) hlt]; exact hc⟩⟩); clear hown hb1; have tk1 : True := trivial)
    | (go_at_call 44; (have _t := tk1); (with_reducible refine (HT1.out _ _ HRE1.out _ (by simp)).mono ?_); rintro e w2 ⟨A1, c1, rfl, _, hat1, hre1, hk1, hc1⟩; clear tk1 _t; have tk2 : True := trivial; have HK2 := Lib.hid (hk1.next (one_ok w2 (.cells #[.int .i64 (m0 : Nat), .int .i64 (m1 : Nat), .int .i64 (m2 : Nat), .int .i64 0, .int .i64 0, .int .i64 0, .int .i64 0, .int .i64 0, .int .i64 0, .int .i64 0, .int .i64 0, .int .i64 0, .bool true] 34))); have HRF2 := Lib.hid ((HRF1.out.took hre1 hk1 hc1).next (one_ok w2 (.cells #[.int .i64 (m0 : Nat), .int .i64 (m1 : Nat), .int .i64 (m2 : Nat), .int .i64 0, .int .i64 0, .int .i64 0, .int .i64 0, .int .i64 0, .int .i64 0, .int .i64 0, .int .i64 0, .int .i64 0, .bool true] 34))); have HX2 := Lib.hid (HBx.new w2 [.int .i64 (m0 : Nat), .int .i64 (m1 : Nat), .int .i64 (m2 : Nat), .int .i64 0, .int .i64 0, .int .i64 0, .int .i64 0, .int .i64 0, .int .i64 0, .int .i64 0, .int .i64 0, .int .i64 0, .bool true] 34); have hg2 : w1.heap.size < w2.heap.size := (by have := hk1.size; simp at this; omega); have hg2' : (w1.alloc (.cells #[.slice (some ⟨b, off, none⟩) n cap, .slice va P.length vc] 76)).heap.size ≤ w2.heap.size := hk1.size; obtain ⟨pb, po, hpa, hpb, g20, g21, g22⟩ := tcells hat1 (k := 2) rfl; subst hpa; (simp only [Nat.reduceMul, Nat.reduceAdd] at g20 g21 g22); clear hat1 hre1 hk1 hc1)
    | (go_at_call 45; (have _t := tk2); (refine (HO.out _ _ HRF2.out).mono ?_); rintro e w3 ⟨rfl, hrf, hk⟩; clear tk2 _t; have tk3 : True := trivial; have X3 := HX2.out.kept hk (by omega); have x0 := X3.c 0 _ rfl; have x1 := X3.c 1 _ rfl; have x2 := X3.c 2 _ rfl; have x3 := X3.c 3 _ rfl; have x4 := X3.c 4 _ rfl; have x5 := X3.c 5 _ rfl; have x6 := X3.c 6 _ rfl; have x7 := X3.c 7 _ rfl; have x8 := X3.c 8 _ rfl; have x9 := X3.c 9 _ rfl; have x10 := X3.c 10 _ rfl; have x11 := X3.c 11 _ rfl; have x12 := X3.c 12 _ rfl; have xz := X3.z; have HX3 := Lib.hid (show HBx _ w2.heap.size [.int .i64 (m0 : Nat), .int .i64 (m1 : Nat), .int .i64 (m2 : Nat), .int .i64 (u0 : Nat), .int .i64 (u1 : Nat), .int .i64 (u2 : Nat), .int .i64 (v0 : Nat), .int .i64 (v1 : Nat), .int .i64 (v2 : Nat), .int .i64 0, .int .i64 0, .int .i64 0, .bool true] from ((((((X3.put 3 (.int .i64 (u0 : Nat)) (by simp)).put 4 (.int .i64 (u1 : Nat)) (by simp)).put 5 (.int .i64 (u2 : Nat)) (by simp)).put 6 (.int .i64 (v0 : Nat)) (by simp)).put 7 (.int .i64 (v1 : Nat)) (by simp)).put 8 (.int .i64 (v2 : Nat)) (by simp))); have HRF3 := Lib.hid ((((((hrf.set hg2 3 (.int .i64 (u0 : Nat))).set hg2 4 (.int .i64 (u1 : Nat))).set hg2 5 (.int .i64 (u2 : Nat))).set hg2 6 (.int .i64 (v0 : Nat))).set hg2 7 (.int .i64 (v1 : Nat))).set hg2 8 (.int .i64 (v2 : Nat))); have HK3 := Lib.hid (((((((HK2.out.trans hk).setNew (g := w2.heap.size) (j := 3) hg2' (.int .i64 (u0 : Nat))).setNew (g := w2.heap.size) (j := 4) hg2' (.int .i64 (u1 : Nat))).setNew (g := w2.heap.size) (j := 5) hg2' (.int .i64 (u2 : Nat))).setNew (g := w2.heap.size) (j := 6) hg2' (.int .i64 (v0 : Nat))).setNew (g := w2.heap.size) (j := 7) hg2' (.int .i64 (v1 : Nat))).setNew (g := w2.heap.size) (j := 8) hg2' (.int .i64 (v2 : Nat))); have hlt3 := X3.lt; clear X3 hrf hk)
    | (go_at_call 44; (have _t := tk3); (refine (HT3.out _ _ HRF3.out.rest _ (by simp)).mono ?_); rintro e w4 ⟨A1, c1, rfl, _, hat1, hre1, hk1, hc1⟩; clear tk3 _t; have tk4 : True := trivial; have HRF4 := Lib.hid (HRF3.out.took hre1 hk1 hc1); have HK4 := Lib.hid (HK3.out.trans hk1); have HX4 := Lib.hid (HX3.out.kept hk1 (by omega)); clear hat1 hre1 hk1 hc1; clear x0 x1 x2 x3 x4 x5 x6 x7 x8 x9 x10 x11 x12 xz)
    | (go_at_call 46; (have _t := tk4); (refine (HS.out _ _ HRF4.out).mono ?_); rintro e w5 ⟨rfl, hrf, hk⟩; clear tk4 _t; have tk5 : True := trivial; have X5 := HX4.out.kept hk (by omega); have x0 := X5.c 0 _ rfl; have x1 := X5.c 1 _ rfl; have x2 := X5.c 2 _ rfl; have x3 := X5.c 3 _ rfl; have x4 := X5.c 4 _ rfl; have x5 := X5.c 5 _ rfl; have x6 := X5.c 6 _ rfl; have x7 := X5.c 7 _ rfl; have x8 := X5.c 8 _ rfl; have x9 := X5.c 9 _ rfl; have x10 := X5.c 10 _ rfl; have x11 := X5.c 11 _ rfl; have x12 := X5.c 12 _ rfl; have xz := X5.z; have HX5 := Lib.hid (show HBx _ w2.heap.size [.int .i64 (m0 : Nat), .int .i64 (m1 : Nat), .int .i64 (m2 : Nat), .int .i64 (u0 : Nat), .int .i64 (u1 : Nat), .int .i64 (u2 : Nat), .int .i64 (v0 : Nat), .int .i64 (v1 : Nat), .int .i64 (v2 : Nat), .int .i64 (y0 : Nat), .int .i64 (y1 : Nat), .int .i64 (y2 : Nat), .bool true] from (((X5.put 9 (.int .i64 (y0 : Nat)) (by simp)).put 10 (.int .i64 (y1 : Nat)) (by simp)).put 11 (.int .i64 (y2 : Nat)) (by simp))); have HRF5 := Lib.hid (((hrf.set hg2 9 (.int .i64 (y0 : Nat))).set hg2 10 (.int .i64 (y1 : Nat))).set hg2 11 (.int .i64 (y2 : Nat))); have HK5 := Lib.hid ((((HK4.out.trans hk).setNew (g := w2.heap.size) (j := 9) hg2' (.int .i64 (y0 : Nat))).setNew (g := w2.heap.size) (j := 10) hg2' (.int .i64 (y1 : Nat))).setNew (g := w2.heap.size) (j := 11) hg2' (.int .i64 (y2 : Nat))); have hlt5 := X5.lt; clear X5 hrf hk)
    | (go_at_call 44; (have _t := tk5); (refine (HT7.out _ _ HRF5.out.rest _ (by simp)).mono ?_); rintro e w6 ⟨A1, c1, rfl, _, hat1, hre1, hk1, hc1⟩; clear tk5 _t; have HK6 := Lib.hid (HK5.out.trans hk1); have HX6 := Lib.hid (HX5.out.kept hk1 (by omega)); have HB6 := Lib.hid (HB1.out.kept HK6.out (by omega)); clear hat1 hre1 hk1 hc1; clear x0 x1 x2 x3 x4 x5 x6 x7 x8 x9 x10 x11 x12 xz; have x0 := HX6.out.c 0 _ rfl; have x1 := HX6.out.c 1 _ rfl; have x2 := HX6.out.c 2 _ rfl; have x3 := HX6.out.c 3 _ rfl; have x4 := HX6.out.c 4 _ rfl; have x5 := HX6.out.c 5 _ rfl; have x6 := HX6.out.c 6 _ rfl; have x7 := HX6.out.c 7 _ rfl; have x8 := HX6.out.c 8 _ rfl; have x9 := HX6.out.c 9 _ rfl; have x10 := HX6.out.c 10 _ rfl; have x11 := HX6.out.c 11 _ rfl; have x12 := HX6.out.c 12 _ rfl; have xz := HX6.out.z; have r0 := HB6.out.c 0 _ rfl; have r1 := HB6.out.c 1 _ rfl; have r2 := HB6.out.c 2 _ rfl; have r3 := HB6.out.c 3 _ rfl; have r4 := HB6.out.c 4 _ rfl; have r5 := HB6.out.c 5 _ rfl; have r6 := HB6.out.c 6 _ rfl; have r7 := HB6.out.c 7 _ rfl; have r8 := HB6.out.c 8 _ rfl; have r9 := HB6.out.c 9 _ rfl; have r10 := HB6.out.c 10 _ rfl; have r11 := HB6.out.c 11 _ rfl; have r12 := HB6.out.c 12 _ rfl; have rz := HB6.out.z; have hr6 := HB6.out.lt; have hx6 := HX6.out.lt; have hgr : ¬ w.heap.size = w2.heap.size := (by omega); have hgr2 : ¬ w2.heap.size = w.heap.size := (by omega)))
  refine bodyPost_ret (v := headV (m0, m1, m2) (u0, u1, u2) (v0, v1, v2) (y0, y1, y2) true) ?_ rfl ⟨rfl, ?_⟩
  · simp [results, Try.results20, go_sem, r0, r1, r2, r3, r4, r5, r6, r7, r8, r9, r10, r11, r12, parI]
  · have HBB := HK6.out.below HBW.out (by omega) (by simp; omega)
    exact (((((((((((((HBB.setCell (Nat.le_refl _) _).setCell (Nat.le_refl _) _).setCell (Nat.le_refl _) _).setCell (Nat.le_refl _) _).setCell (Nat.le_refl _) _).setCell (Nat.le_refl _) _).setCell (Nat.le_refl _) _).setCell (Nat.le_refl _) _).setCell (Nat.le_refl _) _).setCell (Nat.le_refl _) _).setCell (Nat.le_refl _) _).setCell (Nat.le_refl _) _).setCell (Nat.le_refl _) _)

theorem read_any (R : NRow w a n cap l) (hn : n ≤ 900) (hP : inP dtP l f t = P) (hw : WFP n P) :
    Calls Try.prog 20 #[.slice a n cap, .int .i64 f, .int .i64 t] w (HeadD w (readD l P)) := by
  unfold readD
  obtain ⟨⟨n1, o1, Q1⟩, h1⟩ : ∃ t, takeP [1, 3, 2] P = t := ⟨_, rfl⟩
  rw [h1]
  simp only
  cases o1
  · have h1' := takeP_no (K := [1, 3, 2]) (Q := P) (by rw [h1])
    rw [if_neg (by decide)]
    exact read_0 R hn hP h1'
  · rw [if_pos rfl]
    have hw1 : WFP n Q1 := by have := hw.took [1, 3, 2]; rw [h1] at this; exact this
    obtain ⟨hn1, hk1, _⟩ := takeP_at h1
    obtain ⟨x1, x2, ⟨m0, m1, m2⟩, rfl⟩ := threeD_of hk1
    have h0 : 0 < n := by
      have hx : x1 ∈ P := List.mem_of_mem_take (i := 3) (by have : P.take 3 = [x1, x2, (m0, m1, m2)] := hn1.symm; rw [this]; simp)
      by_cases h : 0 < n
      · exact h
      · exfalso
        have : inP dtP l f t = [] := by
          unfold inP
          split
          · have hl : l = [] := List.length_eq_zero_iff.1 (by have := R.len; omega)
            rw [hl]
            simp [dtP, sw, sTo, rowP, rowF, shiftP]
          · rfl
        rw [← hP, this] at hx
        simp at hx
    obtain ⟨b, off, rfl, RR⟩ := R.some h0
    obtain ⟨⟨⟨⟨u0, u1, u2⟩, ⟨v0, v1, v2⟩⟩, Q2⟩, hO⟩ : ∃ t, outR l Q1 = t := ⟨_, rfl⟩
    obtain ⟨⟨n3, o3, Q3⟩, h3⟩ : ∃ t, takeP [3] Q2 = t := ⟨_, rfl⟩
    obtain ⟨⟨⟨y0, y1, y2⟩, Q5⟩, hS⟩ : ∃ t, subR Q3 = t := ⟨_, rfl⟩
    obtain ⟨⟨n7, o7, Q6⟩, h7⟩ : ∃ t, takeP [7] Q5 = t := ⟨_, rfl⟩
    simp only [hO, h3, hS, h7]
    cases o7
    · have h7' := takeP_no (K := [7]) (Q := Q5) (by rw [h7])
      exact read_1 RR hn hP h1 hw1 hO h3 hS (Q6 := []) h7'
    · obtain ⟨_, hk7, _⟩ := takeP_at h7
      obtain ⟨⟨j0, j1, j2⟩, rfl⟩ := oneD_of hk7
      exact read_2 RR hn hP h1 hw1 hO h3 hS h7
end

theorem wdP_four {s : List Int} (h : (wdP s).1 = 4) : 2 ≤ (wdP s).2 := by
  unfold wdP at h ⊢
  split at h
  · cases h
  · rename_i h1
    rw [if_neg h1]
    split at h
    · cases h
    · rename_i h2
      rw [if_neg h2]
      split at h
      · rename_i h3
        rw [if_pos h3]
        unfold quoD at h ⊢
        split at h
        · simp only; omega
        · cases h
      · cases h
/-- What stands in quotes has both of them. -/
def Fours (P : List PartA) : Prop := ∀ x ∈ P, x.1 = 4 → x.2.1 + 2 ≤ x.2.2
theorem rowF_fours : ∀ (f k : Nat) (s : List Int), Fours (rowF wdP f k s) := by
  intro f
  induction f with
  | zero => intro k s x hx; simp [rowF] at hx
  | succ f ih =>
    intro k s
    cases s with
    | nil => intro x hx; simp [rowF] at hx
    | cons r s =>
      intro x hx h4
      rw [rowF] at hx
      rcases List.mem_cons.1 hx with rfl | hx
      · have := wdP_four (s := r :: s) h4
        simp only at this ⊢
        omega
      · exact ih _ _ x hx h4
theorem dtF_fours : ∀ (f : Nat) (op : Bool) (k : Nat) (s : List Int), Fours (dtF f op k s) := by
  intro f
  induction f with
  | zero => intro op k s x hx; simp [dtF] at hx
  | succ f ih =>
    intro op k s
    cases s with
    | nil => intro x hx; simp [dtF] at hx
    | cons r s =>
      intro x hx h4
      rw [dtF] at hx
      split at hx
      · rcases List.mem_append.1 hx with hx | hx
        · exfalso
          unfold brP at hx
          simp only [List.mem_append, List.mem_singleton] at hx
          rcases hx with (rfl | hx) | hx
          · cases h4
          · split at hx
            · simp at hx; subst hx; cases h4
            · simp at hx
          · split at hx
            · simp at hx; subst hx; cases h4
            · simp at hx
        · exact ih _ _ _ x hx h4
      · split at hx
        · simp at hx; subst hx; cases h4
        · rcases List.mem_cons.1 hx with rfl | hx
          · have := wdP_four (s := r :: s) h4
            simp only at this ⊢
            omega
          · exact ih _ _ _ x hx h4
theorem dtP_fours (l : List Int) : Fours (dtP l) := by
  unfold dtP
  split
  · intro x hx h4
    rcases List.mem_cons.1 hx with rfl | hx
    · cases h4
    · exact dtF_fours _ _ _ _ x hx h4
  · exact rowF_fours _ _ _
theorem chainD_up : ∀ {P : List PartA} {k e : Nat}, chainD k P e → ∀ x ∈ P, x.2.1 ≤ x.2.2 := by
  intro P
  induction P with
  | nil => intro k e h x hx; simp at hx
  | cons y P ih =>
    rintro k e ⟨h3, h4, h5⟩ x hx
    rcases List.mem_cons.1 hx with rfl | hx
    · omega
    · exact ih h5 x hx
theorem inP_wf {l : List Int} {n : Nat} (hl : l.length = n) (f t : Int) : WFP n (inP dtP l f t) := by
  unfold inP
  split
  · rename_i h
    intro x hx
    obtain ⟨y, hy, rfl⟩ := List.mem_map.1 hx
    have h1 := chainD_up (dtP_chain _) y hy
    have h2 := (dtP_facts _).2 y hy
    have h3 := dtP_fours _ y hy
    have hlen : ((l.take t.toNat).drop f.toNat).length = t.toNat - f.toNat := by rw [List.length_drop, List.length_take]; omega
    rw [hlen] at h2
    simp only
    exact ⟨by omega, by omega, fun e => by have := h3 e; omega⟩
  · intro x hx; simp at hx
theorem Read_any {w : World} {a : Option Addr} {n cap : Nat} {l : List Int} (R : NRow w a n cap l) (hn : n ≤ 900) (f t : Int) :
    Calls Try.prog 20 #[.slice a n cap, .int .i64 f, .int .i64 t] w (HeadD w (readD l (inP dtP l f t))) :=
  read_any R hn rfl (inP_wf R.len f t)

end Go.Proofs.Ytpjcheelafegbaa
