/-
  Contracts of layer 9: outside, subset, whole; Read.
-/
import Derived.Test.YtpjcheelafegbaaDxX
namespace Go.Proofs.Ytpjcheelafegbaa
open Go.RowKit
set_option linter.unusedVariables false

abbrev zP : PartA := (0, 0, 0)
abbrev kSYS : ByteArray := ⟨#[83, 89, 83, 84, 69, 77]⟩
abbrev kPUB : ByteArray := ⟨#[80, 85, 66, 76, 73, 67]⟩
/-- What names something outside, and what is left. -/
def outR (l : List Int) (Q : List PartA) : (PartA × PartA) × List PartA :=
  if (takeP [3, 2, 3, 4] Q).2.1 && isP l ((takeP [3, 2, 3, 4] Q).1.getD 1 zP) kSYS then ((zP, (takeP [3, 2, 3, 4] Q).1.getD 3 zP), (takeP [3, 2, 3, 4] Q).2.2)
  else if (takeP [3, 2, 3, 4, 3, 4] Q).2.1 && (isP l ((takeP [3, 2, 3, 4, 3, 4] Q).1.getD 1 zP) kPUB && pubP l ((takeP [3, 2, 3, 4, 3, 4] Q).1.getD 3 zP)) then (((takeP [3, 2, 3, 4, 3, 4] Q).1.getD 3 zP, (takeP [3, 2, 3, 4, 3, 4] Q).1.getD 5 zP), (takeP [3, 2, 3, 4, 3, 4] Q).2.2)
  else ((zP, zP), Q)
/-- Parts that lie within a row; what stands in quotes has both of them. -/
def WFP (n : Nat) (Q : List PartA) : Prop := ∀ x ∈ Q, x.2.1 ≤ x.2.2 ∧ x.2.2 ≤ n ∧ (x.1 = 4 → x.2.1 + 2 ≤ x.2.2)
theorem WFP.drop {n : Nat} {Q : List PartA} (h : WFP n Q) (k : Nat) : WFP n (Q.drop k) := fun x hx => h x (List.mem_of_mem_drop hx)
theorem WFP.took {n : Nat} {Q : List PartA} (h : WFP n Q) (K : List Nat) : WFP n (takeP K Q).2.2 := by
  unfold takeP
  split
  · exact h.drop _
  · exact h
theorem takeP_at {K : List Nat} {Q n Q' : List PartA} (h : takeP K Q = (n, true, Q')) : n = Q.take K.length ∧ n.map (·.1) = K ∧ Q' = Q.drop K.length := by
  unfold takeP at h
  split at h
  · rename_i hc
    simp only [Prod.mk.injEq] at h
    obtain ⟨rfl, _, rfl⟩ := h
    exact ⟨rfl, hc, rfl⟩
  · simp at h
theorem oneD_of {n : List PartA} {a : Nat} (h : n.map (·.1) = [a]) : ∃ x : PartA, n = [x] := by
  match n, h with
  | [x], h => exact ⟨x, rfl⟩
  | [], h => simp at h
  | _ :: _ :: _, h => simp at h
theorem four_of {n : List PartA} {a b c d : Nat} (h : n.map (·.1) = [a, b, c, d]) : ∃ x y z u : PartA, n = [x, y, z, u] ∧ x.1 = a ∧ y.1 = b ∧ z.1 = c ∧ u.1 = d := by
  match n, h with
  | [x, y, z, u], h => simp at h; exact ⟨x, y, z, u, rfl, h.1, h.2.1, h.2.2.1, h.2.2.2⟩
theorem six_of {n : List PartA} {a b c d e f : Nat} (h : n.map (·.1) = [a, b, c, d, e, f]) : ∃ x y z u v w : PartA, n = [x, y, z, u, v, w] ∧ x.1 = a ∧ y.1 = b ∧ z.1 = c ∧ u.1 = d ∧ v.1 = e ∧ w.1 = f := by
  match n, h with
  | [x, y, z, u, v, w], h => simp at h; exact ⟨x, y, z, u, v, w, rfl, h.1, h.2.1, h.2.2.1, h.2.2.2.1, h.2.2.2.2.1, h.2.2.2.2.2⟩
theorem outR_wf {n : Nat} {l : List Int} {Q : List PartA} (h : WFP n Q) : WFP n (outR l Q).2 := by
  unfold outR
  split
  · exact h.took _
  · split
    · exact h.took _
    · exact h
theorem subR_wf {n : Nat} {Q : List PartA} (h : WFP n Q) : WFP n (subR Q).2 := by
  unfold subR
  split
  · simp only
    split
    · exact (((h.took _).took _).took _).took _
    · exact ((h.took _).took _).took _
  · exact h

section
variable {w : World} {rp : Nat} {b off n cap : Nat} {l : List Int} {Q : List PartA}

theorem out_any (h : RF w rp (some ⟨b, off, none⟩) n cap l Q) (hn : n ≤ 1000) (hw : WFP n Q) {u v : PartA} {Q' : List PartA} (hR : outR l Q = ((u, v), Q')) :
    Calls Try.prog 45 #[.pointer (some ⟨rp, 0, none⟩)] w (ReadsQ rp (some ⟨b, off, none⟩) n cap l Q' w (.tuple #[parI u.1 u.2.1 u.2.2, parI v.1 v.2.1 v.2.2])) := by
  unfold outR at hR
  obtain ⟨⟨n4, o4, Q4⟩, h4⟩ : ∃ t, takeP [3, 2, 3, 4] Q = t := ⟨_, rfl⟩
  obtain ⟨⟨n6, o6, Q6⟩, h6⟩ : ∃ t, takeP [3, 2, 3, 4, 3, 4] Q = t := ⟨_, rfl⟩
  rw [h4, h6] at hR
  simp only at hR
  cases o4
  · have h4' := takeP_no (K := [3, 2, 3, 4]) (Q := Q) (by rw [h4])
    have h6' : takeP [3, 2, 3, 4, 3, 4] Q = ([], false, Q) := by
      refine takeP_no ?_
      cases h : (takeP [3, 2, 3, 4, 3, 4] Q).2.1
      · rfl
      · exfalso
        have e6 := (takeP_yesD h).1
        have hm := (takeP_at (n := Q.take 6) (Q' := Q.drop 6) e6).2.1
        have : (Q.take 4).map (·.1) = [3, 2, 3, 4] := by
          have h2 := congrArg (List.take 4) hm
          rw [← List.map_take, List.take_take] at h2
          simpa using h2
        unfold takeP at h4'
        rw [if_pos (show (Q.take [3, 2, 3, 4].length).map (·.1) = [3, 2, 3, 4] from this)] at h4'
        simp at h4'
    rw [h6] at h6'
    simp only [Prod.mk.injEq] at h6'
    obtain ⟨rfl, rfl, rfl⟩ := h6'
    simp only [Bool.false_and, Bool.false_eq_true, if_false, Prod.mk.injEq] at hR
    obtain ⟨⟨rfl, rfl⟩, rfl⟩ := hR
    exact out_none h h4' h6
  · obtain ⟨hn4, hk4, hq4⟩ := takeP_at h4
    obtain ⟨x1, x2, x3, x4, rfl, _, _, _, _⟩ := four_of hk4
    have hx2 := hw x2 (List.mem_of_mem_take (i := 4) (by have : Q.take 4 = [x1, x2, x3, x4] := hn4.symm; rw [this]; simp))
    obtain ⟨k1, f1, t1⟩ := x2
    obtain ⟨k3, f3, t3⟩ := x4
    simp only [List.getD_cons_succ, List.getD_cons_zero, Bool.true_and] at hR
    cases hI : isP l (k1, f1, t1) kSYS
    · rw [hI] at hR
      simp only [Bool.false_eq_true, if_false] at hR
      cases o6
      · have h6' := takeP_no (K := [3, 2, 3, 4, 3, 4]) (Q := Q) (by rw [h6])
        simp only [Bool.false_and, Bool.false_eq_true, if_false, Prod.mk.injEq] at hR
        obtain ⟨⟨rfl, rfl⟩, rfl⟩ := hR
        exact out_no6 h hn h4 hx2.1 hx2.2.1 hI h6'
      · obtain ⟨hn6, hk6, hq6⟩ := takeP_at h6
        obtain ⟨y1, y2, y3, y4, y5, y6, rfl, _, _, _, hy4k, _, _⟩ := six_of hk6
        have he : y2 = (k1, f1, t1) := by
          have a1 : Q[1]? = some (k1, f1, t1) := by
            have : (Q.take 4)[1]? = some (k1, f1, t1) := by rw [show Q.take 4 = _ from hn4.symm]; rfl
            rwa [List.getElem?_take, if_pos (by omega)] at this
          have a2 : Q[1]? = some y2 := by
            have : (Q.take 6)[1]? = some y2 := by rw [show Q.take 6 = _ from hn6.symm]; rfl
            rwa [List.getElem?_take, if_pos (by omega)] at this
          rw [a1] at a2
          exact (Option.some.inj a2).symm
        subst he
        have hy4 := hw y4 (List.mem_of_mem_take (i := 6) (by have : Q.take 6 = [y1, (k1, f1, t1), y3, y4, y5, y6] := hn6.symm; rw [this]; simp))
        obtain ⟨j3, g3, u3⟩ := y4
        obtain ⟨j5, g5, u5⟩ := y6
        simp only [List.getD_cons_succ, List.getD_cons_zero, Bool.true_and] at hR
        cases hJ : isP l (k1, f1, t1) kPUB
        · rw [hJ] at hR
          simp only [Bool.false_and, Bool.false_eq_true, if_false, Prod.mk.injEq] at hR
          obtain ⟨⟨rfl, rfl⟩, rfl⟩ := hR
          exact out_nokey h hn h4 hx2.1 hx2.2.1 hI h6 hJ
        · rw [hJ] at hR
          simp only [Bool.true_and] at hR
          cases hP : pubP l (j3, g3, u3)
          · rw [hP] at hR
            simp only [Bool.false_eq_true, if_false, Prod.mk.injEq] at hR
            obtain ⟨⟨rfl, rfl⟩, rfl⟩ := hR
            exact out_nopub h hn h4 hx2.1 hx2.2.1 hI h6 hJ (hy4.2.2 hy4k) hy4.2.1 hP
          · rw [hP] at hR
            simp only [if_true, Prod.mk.injEq] at hR
            obtain ⟨⟨rfl, rfl⟩, rfl⟩ := hR
            exact out_pub h hn h4 hx2.1 hx2.2.1 hI h6 hJ (hy4.2.2 hy4k) hy4.2.1 hP
    · rw [hI] at hR
      simp only [if_true, Prod.mk.injEq] at hR
      obtain ⟨⟨rfl, rfl⟩, rfl⟩ := hR
      exact out_sys h hn h4 hx2.1 hx2.2.1 hI

theorem sub_any {a : Option Addr} (h : RF w rp a n cap l Q) {u : PartA} {Q' : List PartA} (hR : subR Q = (u, Q')) :
    Calls Try.prog 46 #[.pointer (some ⟨rp, 0, none⟩)] w (ReadsQ rp a n cap l Q' w (parI u.1 u.2.1 u.2.2)) := by
  unfold subR at hR
  obtain ⟨⟨n5, o5, Q1⟩, h5⟩ : ∃ t, takeP [5] Q = t := ⟨_, rfl⟩
  rw [h5] at hR
  simp only at hR
  cases o5
  · have h5' := takeP_no (K := [5]) (Q := Q) (by rw [h5])
    simp only [Bool.false_eq_true, if_false, Prod.mk.injEq] at hR
    obtain ⟨rfl, rfl⟩ := hR
    exact sub_none h h5'
  · rw [if_pos rfl] at hR
    obtain ⟨⟨n6, o6, Q2⟩, h6⟩ : ∃ t, takeP [6] Q1 = t := ⟨_, rfl⟩
    rw [h6] at hR
    simp only at hR
    cases o6
    · have h6' := takeP_no (K := [6]) (Q := Q1) (by rw [h6])
      obtain ⟨⟨n7, o7, Q3⟩, h7⟩ : ∃ t, takeP [5] Q1 = t := ⟨_, rfl⟩
      obtain ⟨⟨n8, o8, Q4⟩, h8⟩ : ∃ t, takeP [3] Q3 = t := ⟨_, rfl⟩
      rw [h7] at hR
      simp only [h8, Bool.false_eq_true, if_false, Prod.mk.injEq] at hR
      obtain ⟨rfl, rfl⟩ := hR
      exact sub_empty h h5 h6' h7 h8
    · obtain ⟨hn6, hk6, _⟩ := takeP_at h6
      obtain ⟨y, rfl⟩ := oneD_of hk6
      obtain ⟨⟨n7, o7, Q3⟩, h7⟩ : ∃ t, takeP [5] Q2 = t := ⟨_, rfl⟩
      obtain ⟨⟨n8, o8, Q4⟩, h8⟩ : ∃ t, takeP [3] Q3 = t := ⟨_, rfl⟩
      rw [h7] at hR
      simp only [h8, if_true, List.getD_cons_zero, Prod.mk.injEq] at hR
      obtain ⟨rfl, rfl⟩ := hR
      exact sub_full h h5 h6 h7 h8
end

end Go.Proofs.Ytpjcheelafegbaa
