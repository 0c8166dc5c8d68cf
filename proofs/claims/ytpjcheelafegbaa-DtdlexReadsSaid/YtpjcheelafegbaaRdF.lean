/-
  Contract of the reference's layer 9: Parts.
-/
import Derived.Test.YtpjcheelafegbaaRdD
import Derived.Test.YtpjcheelafegbaaDxQ
import Derived.Test.YtpjcheelafegbaaDxR
namespace Go.Proofs.Ytpjcheelafegbaa
open Go.RowKit
set_option linter.unusedVariables false

theorem Try.infoRP9 : (Try.prog.info? 36).map (fun i => (i.zero, i.size, i.bytes)) = some (some (.agg #[.int .i64 0, .int .i64 0, .int .i64 0]), 3, 24) := by kernel_rfl
theorem box3r (w : World) (a0 a1 a2 : Value) (e : TypeId) : (w.alloc (.cells #[a0, a1, a2] e)).cell? ⟨w.heap.size, 2, none⟩ = some a2 := by simp
theorem rmay_yes (a : Option Addr) (n cap : Nat) (f t : Nat) (hft : f ≤ t) (htn : t ≤ n) (w : World) :
    Calls Try.prog 36 #[.slice a n cap, .int .i64 f, .int .i64 t] w fun e w' => e = .returned (.bool true) ∧ w = w' := by
  have q1 : decide (f ≤ t) = true := decide_eq_true hft
  have q2 : decide (t ≤ n) = true := decide_eq_true htn
  have q3 : (0 : Int) ≤ (f : Int) := by omega
  go_enter Try.func36, Try.ntmps36
  go_wp2
  go_ret
  exact ⟨by first | rfl | simp, rfl⟩
theorem rmay_no (a : Option Addr) (n cap : Nat) (f t : Int) (h : f < 0 ∨ t < f ∨ (n : Int) < t) (w : World) :
    Calls Try.prog 36 #[.slice a n cap, .int .i64 f, .int .i64 t] w fun e w' => e = .returned (.bool false) ∧ w = w' := by
  by_cases h1 : f < 0
  · have q1 : ¬ 0 ≤ f := by omega
    go_enter Try.func36, Try.ntmps36
    go_wp2
    all_goals
      go_ret
      exact ⟨by first | rfl | simp, rfl⟩
  · have q1 : 0 ≤ f := by omega
    by_cases h2 : t < f
    · have q2 : ¬ f ≤ t := by omega
      have q2' : decide (f ≤ t) = false := decide_eq_false q2
      clear h
      go_enter Try.func36, Try.ntmps36
      go_wp2
      all_goals
        go_ret
        exact ⟨by first | rfl | simp, rfl⟩
    · have q2 : f ≤ t := by omega
      have q2' : decide (f ≤ t) = true := decide_eq_true q2
      have q3 : ¬ t ≤ (n : Int) := by omega
      have q3' : decide (t ≤ (n : Int)) = false := decide_eq_false q3
      clear h
      go_enter Try.func36, Try.ntmps36
      go_wp2
      all_goals
        go_ret
        exact ⟨by first | rfl | simp, rfl⟩

/-- What a call that answers the reference's parts answers. -/
def OwnRP (w : World) (l : List PartA) (e : Ending) (w' : World) : Prop :=
  ∃ v, e = .returned v ∧ w'.ownsRow w.heap.size 36 3 v l.length (parsCells l) ∧ Below w.heap.size w w'
theorem wf_cut {l : List Int} (hwf : ∀ j, -2147483648 ≤ l.getD j 0 ∧ l.getD j 0 ≤ 2147483647) (t : Nat) : ∀ j, -2147483648 ≤ (l.take t).getD j 0 ∧ (l.take t).getD j 0 ≤ 2147483647 := fun j => by
  by_cases hj : j < t
  · have := hwf j
    rw [List.getD_eq_getElem?_getD, List.getElem?_take, if_pos hj, ← List.getD_eq_getElem?_getD]; exact this
  · rw [List.getD_eq_getElem?_getD, List.getElem?_take, if_neg hj]; decide
theorem inP_row {p : List Int → Nat × Nat} {l : List Int} {f t n : Nat} (hl : l.length = n) (hft : f ≤ t) (htn : t ≤ n) : inP (rowP p 0) l f t = rowF p (t - f) f ((l.take t).drop f) := by
  unfold inP
  rw [if_pos (by omega)]
  simp only [Int.toNat_natCast]
  unfold rowP
  rw [rowF_shift, Nat.zero_add]
  congr 1
  rw [List.length_drop, List.length_take, hl, Nat.min_eq_left htn]
theorem inP_bad {res : List Int → List PartA} {l : List Int} {f t : Int} (h : f < 0 ∨ t < f ∨ (l.length : Int) < t) : inP res l f t = [] := by
  unfold inP; rw [if_neg (by omega)]

set_option maxRecDepth 20000 in
set_option maxHeartbeats 4000000 in
theorem rwords_in {b off n cap : Nat} {l : List Int} {w : World} (R : RRow w b off n cap l) (hwf : ∀ j, -2147483648 ≤ l.getD j 0 ∧ l.getD j 0 ≤ 2147483647) (f t : Nat) (hft : f ≤ t) (htn : t ≤ n) (hn : n ≤ 900) :
    Calls Try.prog 19 #[.slice (some ⟨b, off, none⟩) n cap, .int .i64 f, .int .i64 t] w (OwnRP w (rowF wdP (t - f) f ((l.take t).drop f))) := by
  obtain ⟨i0, hi, hz0, hz1, hz2⟩ := info_parts Try.infoRP9
  have HI := Lib.hid (And.intro hi (And.intro hz0 (And.intro hz1 hz2)))
  have hm := R.max
  have hc := R.le
  unfold maxLen at hm
  have htc : t ≤ cap := by omega
  have HP := Lib.hid (fun (w' : World) hb (k : Nat) (hk : k < t) (p : Nat × Nat) (hp : wdP ((l.take t).drop k) = p) => rwordB ((R.below (w' := w') hb).cut t htn) (wf_cut hwf t) (by omega) k hk hp)
  have HOK := Lib.hid (fun (k : Nat) (hk : k < t) => show 0 < (wdP ((l.take t).drop k)).2 ∧ k + (wdP ((l.take t).drop k)).2 ≤ t from by
    have hl : ((l.take t).drop k).length = t - k := by rw [List.length_drop, List.length_take, R.len]; omega
    have := wdP_reads ((l.take t).drop k) (by omega)
    omega)
  have HML := Lib.hid (show (l.take t).length = t by rw [List.length_take, R.len]; omega)
  obtain ⟨res, hres⟩ : ∃ res, res = rowF wdP (t - f) f ((l.take t).drop f) := ⟨_, rfl⟩
  have HRES := Lib.hid hres
  rw [← hres]
  have HRL := Lib.hid (show res.length ≤ t - f by rw [hres]; have := rowF_len wdP_reads (t - f) f ((l.take t).drop f); rw [List.length_drop, HML.out] at this; exact this)
  have HMAY := Lib.hid (fun w => rmay_yes (some ⟨b, off, none⟩) n cap f t hft htn w)
  clear hi hz0 hz1 hz2 R hwf hres
  go_enter Try.func19, Try.ntmps19
  go_wp2_with (go_at_call 36; (with_reducible refine (HMAY.out _).mono ?_); rintro e w1 ⟨rfl, rfl⟩)
  go_loopw [7, 8, 9] (fun v iv _p wr => ∃ (j fu : Nat) (acc : List PartA) (v' : Value), iv = .int .i64 j ∧ v' = v ∧ f ≤ j ∧ j ≤ t ∧ t - j ≤ fu ∧ Hid (wr.ownsRow w.heap.size 36 3 v' acc.length (parsCells acc) ∧ Below w.heap.size w wr) ∧ Hid (acc ++ rowF wdP fu j ((l.take t).drop j) = res)) (fun _ iv _ _ => t - (intOf iv).toNat)
  case atStart => exact ⟨f, t - f, [], _, rfl, rfl, Nat.le_refl _, hft, Nat.le_refl _, Lib.hid ⟨World.ownsRow_nil _ _ _ _, Below.refl _ _⟩, Lib.hid HRES.out.symm⟩
  case round =>
    obtain ⟨j, fu, acc, v0, rfl, rfl, hfj, hjt, hfu, HOW, HALL⟩ := hrel
    by_cases hlt : j < t
    · obtain ⟨fu, rfl⟩ : ∃ f', fu = f' + 1 := ⟨fu - 1, by omega⟩
      have hok := HOK.out j hlt
      have hrw := rowF_cons (p := wdP) (f := fu) (j := j) (s := l.take t) (by rw [HML.out]; exact hlt) j
      obtain ⟨⟨pa, pb⟩, hpp⟩ : ∃ p, wdP ((l.take t).drop j) = p := ⟨_, rfl⟩
      rw [hpp] at hok hrw
      simp only at hok hrw
      obtain ⟨hp1, hp2⟩ := hok
      have HC := Lib.hid (HP.out _ HOW.out.2 j hlt _ hpp _ (Below.refl _ _))
      simp only [] at HC
      have HNEXT := Lib.hid (show (acc ++ [(pa, j, j + pb)]) ++ rowF wdP fu (j + pb) ((l.take t).drop (j + pb)) = res by rw [List.append_assoc, ← HALL.out, hrw]; rfl)
      have hal : acc.length + 1 ≤ t - f := by
        have h1 := congrArg List.length HNEXT.out
        have h2 := HRL.out
        simp at h1
        omega
      have HM := Lib.hid (And.intro (show acc.length + 1 ≤ maxLen by unfold maxLen; omega) (show (acc.length + 1) * 24 ≤ 140737488355328 by omega))
      have HCELL := Lib.hid (show [Value.int .i64 (pa : Nat), .int .i64 (j : Nat), .int .i64 ((j : Int) + pb)] = parCells (pa, j, j + pb) by unfold parCells; simp)
      clear hpp hrw HALL
      go_wp2_with (first
        | (go_at_call 38; (with_reducible refine HC.out.mono ?_); rintro e w3 ⟨rfl, hb3⟩; have HO3 := Lib.hid (And.intro (owns_below (owns_below HOW.out.1 hb3) (one_ok w3 (.cells #[.int .i64 (pa : Nat), .int .i64 (j : Nat), .int .i64 ((j : Int) + pb)] 36))) (Below.more (Below.more HOW.out.2 hb3) (one_ok w3 (.cells #[.int .i64 (pa : Nat), .int .i64 (j : Nat), .int .i64 ((j : Int) + pb)] 36)))); have HNE := Lib.hid (show some w3.heap.size ≠ v0.ownBlock from fun h => absurd (HOW.out.1.lt _ h.symm).2 (by have := hb3.size; omega)))
        | (at_builtin; refine wpList_append_own _ rfl _ _ 27 rfl w.heap.size 36 i0 _ 3 24 Try.underlying27 HI.out.1 HI.out.2.1 HI.out.2.2.1 HI.out.2.2.2 rfl (by decide) _ _ _ rfl (HO3.out.1.alloc _) _ _ _ [.int .i64 (pa : Nat), .int .i64 (j : Nat), .int .i64 ((j : Int) + pb)] rfl rfl (new_cells_at _ [.int .i64 (pa : Nat), .int .i64 (j : Nat), .int .i64 ((j : Int) + pb)] _ _ (by simp)) (one_par _ _ _) HM.out.1 HM.out.2 (Nat.le_trans HO3.out.2.size (one_ok _ _).size) ?_; intro v' w4 hown' hg' _; have y2 := hg'.cell (a := ⟨w3.heap.size, 2, none⟩) (kp_alloc _ (box3r w3 _ _ _ _)) HNE.out; have HF := Lib.hid (And.intro hown' (below_grown_alloc HO3.out.2 HO3.out.2.size hg' (fun g hg => (HO3.out.1.lt g hg).1))); clear hown' hg'))
      go_roundw
      case rel => exact ⟨j + pb, fu, acc ++ [(pa, j, j + pb)], _, by go_num, rfl, by omega, by omega, by omega, Lib.hid ⟨by rw [parsCells_snoc, List.length_append, ← HCELL.out]; exact HF.out.1, HF.out.2⟩, HNEXT⟩
      case measure => simp [intOf]; omega
    · obtain rfl : j = t := by omega
      have hall : acc = res := by
        have h1 := HALL.out
        rw [List.drop_eq_nil_of_le (by rw [HML.out]; exact Nat.le_refl _), rowF_end, List.append_nil] at h1
        exact h1
      have HA := Lib.hid hall
      clear hlt hall
      go_wp2
      go_ret
      rw [← HA.out]
      exact ⟨_, rfl, HOW.out.1, HOW.out.2⟩

set_option maxHeartbeats 1000000 in
theorem rwords_0 (a : Option Addr) (cap : Nat) (w : World) :
    Calls Try.prog 19 #[.slice a 0 cap, .int .i64 0, .int .i64 0] w (OwnRP w []) := by
  have HMAY := Lib.hid (fun w => rmay_yes a 0 cap 0 0 (Nat.le_refl _) (Nat.le_refl _) w)
  go_enter Try.func19, Try.ntmps19
  go_wp2_with (go_at_call 36; (refine (HMAY.out _).mono ?_); rintro e w1 ⟨rfl, rfl⟩)
  go_loop [7, 8, 9] (fun v iv _p => iv = .int .i64 0 ∧ v = .slice none 0 0) (fun _ _ _ => 0)
  case atStart => exact ⟨rfl, rfl⟩
  case round =>
    obtain ⟨rfl, rfl⟩ := hrel
    go_wp2
    go_ret
    exact ⟨_, rfl, World.ownsRow_nil _ _ _ _, Below.refl _ _⟩

set_option maxHeartbeats 1000000 in
theorem rwords_bad (a : Option Addr) (n cap : Nat) (f t : Int) (h : f < 0 ∨ t < f ∨ (n : Int) < t) (w : World) :
    Calls Try.prog 19 #[.slice a n cap, .int .i64 f, .int .i64 t] w (OwnRP w []) := by
  have HMAY := Lib.hid (fun w => rmay_no a n cap f t h w)
  clear h
  go_enter Try.func19, Try.ntmps19
  go_wp2_with (go_at_call 36; (with_reducible refine (HMAY.out _).mono ?_); rintro e w1 ⟨rfl, rfl⟩)
  go_ret
  exact ⟨_, rfl, World.ownsRow_nil _ _ _ _, Below.refl _ _⟩

theorem rwords_any {a : Option Addr} {n cap : Nat} {l : List Int} {w : World} (R : NRow w a n cap l) (hwf : ∀ j, -2147483648 ≤ l.getD j 0 ∧ l.getD j 0 ≤ 2147483647) (hn : n ≤ 900) (f t : Int) :
    Calls Try.prog 19 #[.slice a n cap, .int .i64 f, .int .i64 t] w (OwnRP w (inP (rowP wdP 0) l f t)) := by
  have hl := R.len
  by_cases h : f < 0 ∨ t < f ∨ (n : Int) < t
  · rw [inP_bad (by rw [hl]; exact h)]
    exact rwords_bad a n cap f t h w
  · obtain ⟨f, rfl⟩ : ∃ k : Nat, f = k := ⟨f.toNat, by omega⟩
    obtain ⟨t, rfl⟩ : ∃ k : Nat, t = k := ⟨t.toNat, by omega⟩
    rw [inP_row hl (by omega) (by omega)]
    by_cases h0 : 0 < n
    · obtain ⟨b, off, rfl, RR⟩ := R.some h0
      exact rwords_in RR hwf f t (by omega) (by omega) hn
    · obtain rfl : n = 0 := by omega
      obtain rfl : f = 0 := by omega
      obtain rfl : t = 0 := by omega
      exact rwords_0 a cap w

set_option maxRecDepth 20000 in
set_option maxHeartbeats 4000000 in
theorem ritems_in {b off n cap : Nat} {l : List Int} {w : World} (R : RRow w b off n cap l) (hwf : ∀ j, -2147483648 ≤ l.getD j 0 ∧ l.getD j 0 ≤ 2147483647) (f t : Nat) (hft : f ≤ t) (htn : t ≤ n) (hn : n ≤ 900) :
    Calls Try.prog 17 #[.slice (some ⟨b, off, none⟩) n cap, .int .i64 f, .int .i64 t] w (OwnRP w (rowF itP (t - f) f ((l.take t).drop f))) := by
  obtain ⟨i0, hi, hz0, hz1, hz2⟩ := info_parts Try.infoRP9
  have HI := Lib.hid (And.intro hi (And.intro hz0 (And.intro hz1 hz2)))
  have hm := R.max
  have hc := R.le
  unfold maxLen at hm
  have htc : t ≤ cap := by omega
  have HP := Lib.hid (fun (w' : World) hb (k : Nat) (hk : k < t) (p : Nat × Nat) (hp : itP ((l.take t).drop k) = p) => ritemB ((R.below (w' := w') hb).cut t htn) (wf_cut hwf t) (by omega) k hk hp)
  have HOK := Lib.hid (fun (k : Nat) (hk : k < t) => show 0 < (itP ((l.take t).drop k)).2 ∧ k + (itP ((l.take t).drop k)).2 ≤ t from by
    have hl : ((l.take t).drop k).length = t - k := by rw [List.length_drop, List.length_take, R.len]; omega
    have := itP_reads ((l.take t).drop k) (by omega)
    omega)
  have HML := Lib.hid (show (l.take t).length = t by rw [List.length_take, R.len]; omega)
  obtain ⟨res, hres⟩ : ∃ res, res = rowF itP (t - f) f ((l.take t).drop f) := ⟨_, rfl⟩
  have HRES := Lib.hid hres
  rw [← hres]
  have HRL := Lib.hid (show res.length ≤ t - f by rw [hres]; have := rowF_len itP_reads (t - f) f ((l.take t).drop f); rw [List.length_drop, HML.out] at this; exact this)
  have HMAY := Lib.hid (fun w => rmay_yes (some ⟨b, off, none⟩) n cap f t hft htn w)
  clear hi hz0 hz1 hz2 R hwf hres
  go_enter Try.func17, Try.ntmps17
  go_wp2_with (go_at_call 36; (with_reducible refine (HMAY.out _).mono ?_); rintro e w1 ⟨rfl, rfl⟩)
  go_loopw [7, 8, 9] (fun v iv _p wr => ∃ (j fu : Nat) (acc : List PartA) (v' : Value), iv = .int .i64 j ∧ v' = v ∧ f ≤ j ∧ j ≤ t ∧ t - j ≤ fu ∧ Hid (wr.ownsRow w.heap.size 36 3 v' acc.length (parsCells acc) ∧ Below w.heap.size w wr) ∧ Hid (acc ++ rowF itP fu j ((l.take t).drop j) = res)) (fun _ iv _ _ => t - (intOf iv).toNat)
  case atStart => exact ⟨f, t - f, [], _, rfl, rfl, Nat.le_refl _, hft, Nat.le_refl _, Lib.hid ⟨World.ownsRow_nil _ _ _ _, Below.refl _ _⟩, Lib.hid HRES.out.symm⟩
  case round =>
    obtain ⟨j, fu, acc, v0, rfl, rfl, hfj, hjt, hfu, HOW, HALL⟩ := hrel
    by_cases hlt : j < t
    · obtain ⟨fu, rfl⟩ : ∃ f', fu = f' + 1 := ⟨fu - 1, by omega⟩
      have hok := HOK.out j hlt
      have hrw := rowF_cons (p := itP) (f := fu) (j := j) (s := l.take t) (by rw [HML.out]; exact hlt) j
      obtain ⟨⟨pa, pb⟩, hpp⟩ : ∃ p, itP ((l.take t).drop j) = p := ⟨_, rfl⟩
      rw [hpp] at hok hrw
      simp only at hok hrw
      obtain ⟨hp1, hp2⟩ := hok
      have HC := Lib.hid (HP.out _ HOW.out.2 j hlt _ hpp _ (Below.refl _ _))
      simp only [] at HC
      have HNEXT := Lib.hid (show (acc ++ [(pa, j, j + pb)]) ++ rowF itP fu (j + pb) ((l.take t).drop (j + pb)) = res by rw [List.append_assoc, ← HALL.out, hrw]; rfl)
      have hal : acc.length + 1 ≤ t - f := by
        have h1 := congrArg List.length HNEXT.out
        have h2 := HRL.out
        simp at h1
        omega
      have HM := Lib.hid (And.intro (show acc.length + 1 ≤ maxLen by unfold maxLen; omega) (show (acc.length + 1) * 24 ≤ 140737488355328 by omega))
      have HCELL := Lib.hid (show [Value.int .i64 (pa : Nat), .int .i64 (j : Nat), .int .i64 ((j : Int) + pb)] = parCells (pa, j, j + pb) by unfold parCells; simp)
      clear hpp hrw HALL
      go_wp2_with (first
        | (go_at_call 42; (with_reducible refine HC.out.mono ?_); rintro e w3 ⟨rfl, hb3⟩; have HO3 := Lib.hid (And.intro (owns_below (owns_below HOW.out.1 hb3) (one_ok w3 (.cells #[.int .i64 (pa : Nat), .int .i64 (j : Nat), .int .i64 ((j : Int) + pb)] 36))) (Below.more (Below.more HOW.out.2 hb3) (one_ok w3 (.cells #[.int .i64 (pa : Nat), .int .i64 (j : Nat), .int .i64 ((j : Int) + pb)] 36)))); have HNE := Lib.hid (show some w3.heap.size ≠ v0.ownBlock from fun h => absurd (HOW.out.1.lt _ h.symm).2 (by have := hb3.size; omega)))
        | (at_builtin; refine wpList_append_own _ rfl _ _ 27 rfl w.heap.size 36 i0 _ 3 24 Try.underlying27 HI.out.1 HI.out.2.1 HI.out.2.2.1 HI.out.2.2.2 rfl (by decide) _ _ _ rfl (HO3.out.1.alloc _) _ _ _ [.int .i64 (pa : Nat), .int .i64 (j : Nat), .int .i64 ((j : Int) + pb)] rfl rfl (new_cells_at _ [.int .i64 (pa : Nat), .int .i64 (j : Nat), .int .i64 ((j : Int) + pb)] _ _ (by simp)) (one_par _ _ _) HM.out.1 HM.out.2 (Nat.le_trans HO3.out.2.size (one_ok _ _).size) ?_; intro v' w4 hown' hg' _; have y2 := hg'.cell (a := ⟨w3.heap.size, 2, none⟩) (kp_alloc _ (box3r w3 _ _ _ _)) HNE.out; have HF := Lib.hid (And.intro hown' (below_grown_alloc HO3.out.2 HO3.out.2.size hg' (fun g hg => (HO3.out.1.lt g hg).1))); clear hown' hg'))
      go_roundw
      case rel => exact ⟨j + pb, fu, acc ++ [(pa, j, j + pb)], _, by go_num, rfl, by omega, by omega, by omega, Lib.hid ⟨by rw [parsCells_snoc, List.length_append, ← HCELL.out]; exact HF.out.1, HF.out.2⟩, HNEXT⟩
      case measure => simp [intOf]; omega
    · obtain rfl : j = t := by omega
      have hall : acc = res := by
        have h1 := HALL.out
        rw [List.drop_eq_nil_of_le (by rw [HML.out]; exact Nat.le_refl _), rowF_end, List.append_nil] at h1
        exact h1
      have HA := Lib.hid hall
      clear hlt hall
      go_wp2
      go_ret
      rw [← HA.out]
      exact ⟨_, rfl, HOW.out.1, HOW.out.2⟩

set_option maxHeartbeats 1000000 in
theorem ritems_0 (a : Option Addr) (cap : Nat) (w : World) :
    Calls Try.prog 17 #[.slice a 0 cap, .int .i64 0, .int .i64 0] w (OwnRP w []) := by
  have HMAY := Lib.hid (fun w => rmay_yes a 0 cap 0 0 (Nat.le_refl _) (Nat.le_refl _) w)
  go_enter Try.func17, Try.ntmps17
  go_wp2_with (go_at_call 36; (refine (HMAY.out _).mono ?_); rintro e w1 ⟨rfl, rfl⟩)
  go_loop [7, 8, 9] (fun v iv _p => iv = .int .i64 0 ∧ v = .slice none 0 0) (fun _ _ _ => 0)
  case atStart => exact ⟨rfl, rfl⟩
  case round =>
    obtain ⟨rfl, rfl⟩ := hrel
    go_wp2
    go_ret
    exact ⟨_, rfl, World.ownsRow_nil _ _ _ _, Below.refl _ _⟩

set_option maxHeartbeats 1000000 in
theorem ritems_bad (a : Option Addr) (n cap : Nat) (f t : Int) (h : f < 0 ∨ t < f ∨ (n : Int) < t) (w : World) :
    Calls Try.prog 17 #[.slice a n cap, .int .i64 f, .int .i64 t] w (OwnRP w []) := by
  have HMAY := Lib.hid (fun w => rmay_no a n cap f t h w)
  clear h
  go_enter Try.func17, Try.ntmps17
  go_wp2_with (go_at_call 36; (with_reducible refine (HMAY.out _).mono ?_); rintro e w1 ⟨rfl, rfl⟩)
  go_ret
  exact ⟨_, rfl, World.ownsRow_nil _ _ _ _, Below.refl _ _⟩

theorem ritems_any {a : Option Addr} {n cap : Nat} {l : List Int} {w : World} (R : NRow w a n cap l) (hwf : ∀ j, -2147483648 ≤ l.getD j 0 ∧ l.getD j 0 ≤ 2147483647) (hn : n ≤ 900) (f t : Int) :
    Calls Try.prog 17 #[.slice a n cap, .int .i64 f, .int .i64 t] w (OwnRP w (inP (rowP itP 0) l f t)) := by
  have hl := R.len
  by_cases h : f < 0 ∨ t < f ∨ (n : Int) < t
  · rw [inP_bad (by rw [hl]; exact h)]
    exact ritems_bad a n cap f t h w
  · obtain ⟨f, rfl⟩ : ∃ k : Nat, f = k := ⟨f.toNat, by omega⟩
    obtain ⟨t, rfl⟩ : ∃ k : Nat, t = k := ⟨t.toNat, by omega⟩
    rw [inP_row hl (by omega) (by omega)]
    by_cases h0 : 0 < n
    · obtain ⟨b, off, rfl, RR⟩ := R.some h0
      exact ritems_in RR hwf f t (by omega) (by omega) hn
    · obtain rfl : n = 0 := by omega
      obtain rfl : f = 0 := by omega
      obtain rfl : t = 0 := by omega
      exact ritems_0 a cap w

end Go.Proofs.Ytpjcheelafegbaa

namespace Go.Proofs.Ytpjcheelafegbaa
open Go.RowKit
set_option linter.unusedVariables false

theorem shiftP_append (d : Nat) (a b : List PartA) : shiftP d (a ++ b) = shiftP d a ++ shiftP d b := by simp [shiftP]
theorem brP_shift (d k : Nat) (s : List Int) : shiftP d (brP k s) = brP (k + d) s := by
  unfold brP
  rw [shiftP_append, shiftP_append]
  generalize sbP (s.drop 1) = q
  have h1 : shiftP d [(5, k, k + 1)] = [(5, k + d, k + d + 1)] := by simp [shiftP]; omega
  rw [h1]
  congr 1
  · congr 1
    split
    · simp [shiftP]; omega
    · rfl
  · split
    · simp [shiftP]; omega
    · rfl
theorem dtF_shift (d : Nat) : ∀ (f : Nat) (op : Bool) (k : Nat) (s : List Int), shiftP d (dtF f op k s) = dtF f op (k + d) s := by
  intro f
  induction f with
  | zero => intro op k s; simp [dtF, shiftP]
  | succ f ih =>
    intro op k s
    cases s with
    | nil => simp [dtF, shiftP]
    | cons r s =>
      rw [dtF, dtF]
      split
      · rw [shiftP_append, brP_shift, ih, Nat.add_right_comm]
      · split
        · simp [shiftP]; omega
        · have := ih op (k + (wdP (r :: s)).2) ((r :: s).drop (wdP (r :: s)).2)
          rw [show k + d + (wdP (r :: s)).2 = k + (wdP (r :: s)).2 + d by omega, ← this]
          simp [shiftP]
theorem wdP_gt (s : List Int) : wdP (62 :: s) = (8, 1) := by
  have h1 : spaceB 62 = false := by decide
  have h2 : startB 62 = false := by decide +kernel
  unfold wdP
  rw [List.getD_cons_zero, h1, h2]
  rfl
theorem wdP_lb (s : List Int) : wdP (91 :: s) = (8, 1) := by
  have h1 : spaceB 91 = false := by decide
  have h2 : startB 91 = false := by decide +kernel
  unfold wdP
  rw [List.getD_cons_zero, h1, h2]
  rfl
/-- Parts that are laid, and all below is as it was. -/
structure LaidR (w wr : World) (v : Value) (acc : List PartA) : Prop where
  own : wr.ownsRow w.heap.size 36 3 v acc.length (parsCells acc)
  below : Below w.heap.size w wr
theorem LaidR.next {w wr w' : World} {v : Value} {acc : List PartA} (h : LaidR w wr v acc) (hb : Below wr.heap.size wr w') : LaidR w w' v acc := ⟨owns_below h.own hb, Below.more h.below hb⟩
theorem LaidR.app {w W w4 : World} {v v' : Value} {acc : List PartA} (h : LaidR w W v acc) (x : PartA) {o : Obj} {C : List Value} (hown : w4.ownsRow w.heap.size 36 3 v' (acc.length + 1) (parsCells acc ++ C)) (hc : C = parCells x) (hg : (W.alloc o).grownBy w4 v.ownBlock) : LaidR w w4 v' (acc ++ [x]) :=
  ⟨by rw [List.length_append, parsCells_snoc, ← hc]; exact hown, below_grown_alloc h.below h.below.size hg (fun g hg => (h.own.lt g hg).1)⟩

set_option maxRecDepth 20000 in
set_option maxHeartbeats 8000000 in
theorem rparts_yes {b off n cap : Nat} {l : List Int} {w : World} (R : RRow w b off n cap l) (hwf : ∀ j, -2147483648 ≤ l.getD j 0 ∧ l.getD j 0 ≤ 2147483647) (f t : Nat) (hft : f ≤ t) (htn : t ≤ n) (hn : n ≤ 900) (hT : sw sTo ((l.take t).drop f) = true) :
    Calls Try.prog 14 #[.slice (some ⟨b, off, none⟩) n cap, .int .i64 f, .int .i64 t] w (OwnRP w ((1, f, f + 9) :: dtF (t - f) false (f + 9) ((l.take t).drop (f + 9)))) := by
  obtain ⟨i0, hi, hz0, hz1, hz2⟩ := info_parts Try.infoRP9
  have HI := Lib.hid (And.intro hi (And.intro hz0 (And.intro hz1 hz2)))
  have hm := R.max
  have hc := R.le
  unfold maxLen at hm
  have htc : t ≤ cap := by omega
  obtain ⟨s, hs⟩ : ∃ s, s = l.take t := ⟨_, rfl⟩
  have hsl : s.length = t := by rw [hs, List.length_take, R.len]; omega
  have RR := R.cut t htn
  have hws := wf_cut hwf t
  rw [← hs] at RR hws hT
  have h9 : f + 9 ≤ t := by have := sw_length hT; rw [List.length_drop, hsl] at this; simp [sTo] at this; omega
  have HW := Lib.hid (fun (w' : World) (hb : Below w.heap.size w w') (k : Nat) (hk : k < t) (p : Nat × Nat) (hp : wdP (s.drop k) = p) => rwordB (RR.below hb) hws (by omega) k hk hp _ (Below.refl _ _))
  have HC := Lib.hid (fun (w' : World) (hb : Below w.heap.size w w') (k : Nat) (hk : k ≤ t) => rclosing_any (RR.below hb) hws (by omega) k hk)
  have HCL := Lib.hid (fun (w' : World) (hb : Below w.heap.size w w') (k : Nat) (hk : k < t) (z : Int) (hz : s.getD k 0 = z) => rcell (RR.below hb) k hk hz)
  have HSL := Lib.hid hsl
  have HMAY := Lib.hid (fun w => rmay_yes (some ⟨b, off, none⟩) n cap f t hft htn w)
  have HST := Lib.hid (refStartsB RR hws sToS f (by omega) hT w (Below.refl _ _))
  obtain ⟨res, hres⟩ : ∃ res, res = (1, f, f + 9) :: dtF (t - f) false (f + 9) (s.drop (f + 9)) := ⟨_, rfl⟩
  have HALL := Lib.hid (show [(1, f, f + 9)] ++ dtF (t - f) false (f + 9) (s.drop (f + 9)) = res by rw [hres]; rfl)
  rw [← hs, ← hres]
  clear R RR hwf hws hs hT hres hi hz0 hz1 hz2 hsl
  go_enter Try.func14, Try.ntmps14
  go_wp2_with (first
    | (go_at_call 36; (with_reducible refine (HMAY.out _).mono ?_); rintro e w1 ⟨rfl, rfl⟩)
    | (go_at_call 37; (with_reducible refine HST.out.mono ?_); rintro e w1 ⟨rfl, hb1⟩; have hz1 := hb1.size; have HL0 := Lib.hid (show LaidR w (w1.alloc (.cells #[.int .i64 1, .int .i64 f, .int .i64 ((f : Int) + 9)] 36)) (.slice (some ⟨w1.heap.size, 0, none⟩) 1 1) [(1, f, f + 9)] from ⟨World.ownsRow_lit (base := w.heap.size) (e := 36) (size := 3) w1 #[.int .i64 1, .int .i64 f, .int .i64 ((f : Int) + 9)] 1 hz1 (by unfold maxLen; omega) (by rfl), hb1.alloc hz1 _⟩)))
  go_loopw [7, 8, 9, 10, 11] (fun pv ov av _p _e wr => ∃ (j fu : Nat) (op : Bool) (acc : List PartA) (v0 : Value), av = .int .i64 (j : Nat) ∧ ov = .bool op ∧ v0 = pv ∧ f ≤ j ∧ j ≤ t ∧ t - j ≤ fu ∧ acc.length ≤ j ∧ Hid (LaidR w wr v0 acc) ∧ Hid (acc ++ dtF fu op j (s.drop j) = res)) (fun _ _ av _ _ _ => t - (intOf av).toNat)
  case atStart => exact ⟨f + 9, t - f, false, [(1, f, f + 9)], _, by go_num, rfl, rfl, by omega, h9, by omega, by simp, HL0, HALL⟩
  case round =>
    clear HALL HL0
    obtain ⟨j, fu, op, acc, v0, rfl, rfl, rfl, hfj, hj, hfu, hal, HL, HA⟩ := hrel
    by_cases hlt : j < t
    · obtain ⟨fu, rfl⟩ : ∃ f', fu = f' + 1 := ⟨fu - 1, by omega⟩
      obtain ⟨z, hz'⟩ : ∃ z, s.getD j 0 = z := ⟨_, rfl⟩
      have hcl := HCL.out _ HL.out.below j hlt z hz'
      have HD := Lib.hid (show s.drop j = z :: s.drop (j + 1) by rw [drop_cons (by rw [HSL.out]; exact hlt), hz'])
      have HM := Lib.hid (show acc.length ≤ 1000 by omega)
      have hbl := cell_lt hcl
      have HZ := Lib.hid hz'
      clear hz'
      by_cases hA : z = 91 ∧ op = false
      · obtain ⟨rfl, rfl⟩ := hA
        have hwd : wdP (s.drop j) = (8, 1) := by rw [HD.out]; exact wdP_lb _
        have HWC := Lib.hid (HW.out _ HL.out.below j hlt _ hwd)
        simp only [Int.cast_ofNat_Int] at HWC
        have hd1 : (s.drop j).drop 1 = s.drop (j + 1) := dd ..
        obtain ⟨E, hE⟩ : ∃ E, E = j + 1 + sbP (s.drop (j + 1)) := ⟨_, rfl⟩
        have hEt : E ≤ t := by have := sbP_le (s.drop (j + 1)); rw [dropl, HSL.out] at this; omega
        have hjE : j + 1 ≤ E := by omega
        have HCC := Lib.hid (fun (w' : World) (hb : Below w.heap.size w w') => show Says 39 #[.slice (some ⟨b, off, none⟩) t cap, .int .i64 ((j : Int) + 1)] (.int .i64 (E : Nat)) w' w' from by
          have := HC.out w' hb (j + 1) (by omega)
          rw [show ((j + 1 : Nat) : Int) + sbP (s.drop (j + 1)) = (E : Nat) by omega, Int.natCast_add] at this
          exact this)
        have hbrL : j + brL (s.drop j) = if E < t then E + 1 else E := by
          unfold brL; rw [hd1, dropl, HSL.out]
          by_cases h : E < t
          · rw [if_pos (by omega), if_pos h]; omega
          · rw [if_neg (by omega), if_neg h]; omega
        have hbrP : brP j (s.drop j) = [(5, j, j + 1)] ++ (if j + 1 < E then [(6, j + 1, E)] else []) ++ (if E < t then [(5, E, E + 1)] else []) := by
          unfold brP; rw [hd1, dropl, HSL.out, hE]
          congr 1
          · congr 1
            by_cases h : 0 < sbP (s.drop (j + 1))
            · rw [if_pos h, if_pos (by omega)]
            · rw [if_neg h, if_neg (by omega)]
          · by_cases h : 1 + sbP (s.drop (j + 1)) < t - j
            · rw [if_pos h, if_pos (by omega)]
            · rw [if_neg h, if_neg (by omega)]
        have HNX : Hid ((acc ++ brP j (s.drop j)) ++ dtF fu true (j + brL (s.drop j)) (s.drop (j + brL (s.drop j))) = res) := Lib.hid (by
          have := HA.out
          rw [HD.out, dtF, if_pos ⟨rfl, rfl⟩, ← HD.out] at this
          simp only [dd] at this
          rw [List.append_assoc]
          exact this)
        rw [hbrP, hbrL] at HNX
        clear hbrP hbrL hE hwd HA hd1
        by_cases hq0 : j + 1 < E
        · rw [if_pos hq0] at HNX
          have i1 : (j : Int) + 1 < (E : Int) := by omega
          by_cases he : E < t
          · rw [if_pos he, if_pos he] at HNX
            have i2 : (E : Int) < t := by omega
            go_wp2_with (first
              | (at_builtin; refine wpList_append_own _ rfl _ _ 27 rfl w.heap.size 36 i0 _ 3 24 Try.underlying27 HI.out.1 HI.out.2.1 HI.out.2.2.1 HI.out.2.2.2 rfl (by decide) _ _ _ rfl (HLd.out.own.alloc _) _ _ _ [.int .i64 5, .int .i64 (E : Nat), .int .i64 ((E : Int) + 1)] rfl rfl (new_cells_at _ [.int .i64 5, .int .i64 (E : Nat), .int .i64 ((E : Int) + 1)] _ _ (by simp)) (one_par _ _ _) (by have := HM.out; unfold maxLen; (try simp only [List.length_append, List.length_singleton]); omega) (by have := HM.out; (try simp only [List.length_append, List.length_singleton]); omega) (Nat.le_trans HLd.out.below.size (one_ok _ _).size) ?_; intro v' w4 hown' hg' _; have HLe := Lib.hid (HLd.out.app (5, E, E + 1) hown' (by unfold parCells; simp) hg'); clear hown' hg')
              | (at_builtin; refine wpList_append_own _ rfl _ _ 27 rfl w.heap.size 36 i0 _ 3 24 Try.underlying27 HI.out.1 HI.out.2.1 HI.out.2.2.1 HI.out.2.2.2 rfl (by decide) _ _ _ rfl (HLc.out.own.alloc _) _ _ _ [.int .i64 6, .int .i64 ((j : Int) + 1), .int .i64 (E : Nat)] rfl rfl (new_cells_at _ [.int .i64 6, .int .i64 ((j : Int) + 1), .int .i64 (E : Nat)] _ _ (by simp)) (one_par _ _ _) (by have := HM.out; unfold maxLen; (try simp only [List.length_append, List.length_singleton]); omega) (by have := HM.out; (try simp only [List.length_append, List.length_singleton]); omega) (Nat.le_trans HLc.out.below.size (one_ok _ _).size) ?_; intro v' w4 hown' hg' _; have HLd := Lib.hid (HLc.out.app (6, j + 1, E) hown' (by unfold parCells; simp) hg'); clear hown' hg')
              | (at_builtin; refine wpList_append_own _ rfl _ _ 27 rfl w.heap.size 36 i0 _ 3 24 Try.underlying27 HI.out.1 HI.out.2.1 HI.out.2.2.1 HI.out.2.2.2 rfl (by decide) _ _ _ rfl (HL3.out.own.alloc _) _ _ _ [.int .i64 5, .int .i64 (j : Nat), .int .i64 ((j : Int) + 1)] rfl rfl (new_cells_at _ [.int .i64 5, .int .i64 (j : Nat), .int .i64 ((j : Int) + 1)] _ _ (by simp)) (one_par _ _ _) (by have := HM.out; unfold maxLen; (try simp only [List.length_append, List.length_singleton]); omega) (by have := HM.out; (try simp only [List.length_append, List.length_singleton]); omega) (Nat.le_trans HL3.out.below.size (one_ok _ _).size) ?_; intro v' w4 hown' hg' _; have HLa := Lib.hid (HL3.out.app (5, j, j + 1) hown' (by unfold parCells; simp) hg'); clear hown' hg')
              | (go_at_call 38; (with_reducible refine HWC.out.mono ?_); rintro e w3 ⟨rfl, hb3⟩; have HL3 := Lib.hid ((HL.out.next hb3).next (one_ok w3 (.cells #[.int .i64 8, .int .i64 (j : Nat), .int .i64 ((j : Int) + 1)] 36))); have hcl := HCL.out _ HL3.out.below j hlt _ HZ.out; have hb3z := hb3.size; have hbl3 : b < w3.heap.size := (by omega); have hbl4 : ¬ b = w3.heap.size := (by omega); have HNE := Lib.hid (show some w3.heap.size ≠ v0.ownBlock from fun h => absurd (HL.out.own.lt _ h.symm).2 (by omega)))
              | (go_at_call 39; (with_reducible refine (HCC.out _ HLa.out.below).mono ?_); rintro e w6 ⟨rfl, hb6⟩; have HLc := Lib.hid (HLa.out.next hb6); clear HLa))
            go_roundw
            case rel => exact ⟨E + 1, fu, true, _, _, by go_num, rfl, rfl, by omega, by omega, by omega, by simp only [List.length_append, List.length_singleton]; omega, HLe, Lib.hid (by have := HNX.out; simpa [List.append_assoc] using this)⟩
            case measure => simp [intOf]; omega
          · rw [if_neg he, if_neg he] at HNX
            have i2 : ¬ (E : Int) < t := by omega
            go_wp2_with (first
              | (at_builtin; refine wpList_append_own _ rfl _ _ 27 rfl w.heap.size 36 i0 _ 3 24 Try.underlying27 HI.out.1 HI.out.2.1 HI.out.2.2.1 HI.out.2.2.2 rfl (by decide) _ _ _ rfl (HLc.out.own.alloc _) _ _ _ [.int .i64 6, .int .i64 ((j : Int) + 1), .int .i64 (E : Nat)] rfl rfl (new_cells_at _ [.int .i64 6, .int .i64 ((j : Int) + 1), .int .i64 (E : Nat)] _ _ (by simp)) (one_par _ _ _) (by have := HM.out; unfold maxLen; (try simp only [List.length_append, List.length_singleton]); omega) (by have := HM.out; (try simp only [List.length_append, List.length_singleton]); omega) (Nat.le_trans HLc.out.below.size (one_ok _ _).size) ?_; intro v' w4 hown' hg' _; have HLd := Lib.hid (HLc.out.app (6, j + 1, E) hown' (by unfold parCells; simp) hg'); clear hown' hg')
              | (at_builtin; refine wpList_append_own _ rfl _ _ 27 rfl w.heap.size 36 i0 _ 3 24 Try.underlying27 HI.out.1 HI.out.2.1 HI.out.2.2.1 HI.out.2.2.2 rfl (by decide) _ _ _ rfl (HL3.out.own.alloc _) _ _ _ [.int .i64 5, .int .i64 (j : Nat), .int .i64 ((j : Int) + 1)] rfl rfl (new_cells_at _ [.int .i64 5, .int .i64 (j : Nat), .int .i64 ((j : Int) + 1)] _ _ (by simp)) (one_par _ _ _) (by have := HM.out; unfold maxLen; (try simp only [List.length_append, List.length_singleton]); omega) (by have := HM.out; (try simp only [List.length_append, List.length_singleton]); omega) (Nat.le_trans HL3.out.below.size (one_ok _ _).size) ?_; intro v' w4 hown' hg' _; have HLa := Lib.hid (HL3.out.app (5, j, j + 1) hown' (by unfold parCells; simp) hg'); clear hown' hg')
              | (go_at_call 38; (with_reducible refine HWC.out.mono ?_); rintro e w3 ⟨rfl, hb3⟩; have HL3 := Lib.hid ((HL.out.next hb3).next (one_ok w3 (.cells #[.int .i64 8, .int .i64 (j : Nat), .int .i64 ((j : Int) + 1)] 36))); have hcl := HCL.out _ HL3.out.below j hlt _ HZ.out; have hb3z := hb3.size; have hbl3 : b < w3.heap.size := (by omega); have hbl4 : ¬ b = w3.heap.size := (by omega); have HNE := Lib.hid (show some w3.heap.size ≠ v0.ownBlock from fun h => absurd (HL.out.own.lt _ h.symm).2 (by omega)))
              | (go_at_call 39; (with_reducible refine (HCC.out _ HLa.out.below).mono ?_); rintro e w6 ⟨rfl, hb6⟩; have HLc := Lib.hid (HLa.out.next hb6); clear HLa))
            go_roundw
            case rel => exact ⟨E, fu, true, _, _, by go_num, rfl, rfl, by omega, by omega, by omega, by simp only [List.length_append, List.length_singleton]; omega, HLd, Lib.hid (by have := HNX.out; simpa [List.append_assoc] using this)⟩
            case measure => simp [intOf]; omega
        · rw [if_neg hq0] at HNX
          have i1 : ¬ (j : Int) + 1 < (E : Int) := by omega
          by_cases he : E < t
          · rw [if_pos he, if_pos he] at HNX
            have i2 : (E : Int) < t := by omega
            go_wp2_with (first
              | (at_builtin; refine wpList_append_own _ rfl _ _ 27 rfl w.heap.size 36 i0 _ 3 24 Try.underlying27 HI.out.1 HI.out.2.1 HI.out.2.2.1 HI.out.2.2.2 rfl (by decide) _ _ _ rfl (HLc.out.own.alloc _) _ _ _ [.int .i64 5, .int .i64 (E : Nat), .int .i64 ((E : Int) + 1)] rfl rfl (new_cells_at _ [.int .i64 5, .int .i64 (E : Nat), .int .i64 ((E : Int) + 1)] _ _ (by simp)) (one_par _ _ _) (by have := HM.out; unfold maxLen; (try simp only [List.length_append, List.length_singleton]); omega) (by have := HM.out; (try simp only [List.length_append, List.length_singleton]); omega) (Nat.le_trans HLc.out.below.size (one_ok _ _).size) ?_; intro v' w4 hown' hg' _; have HLe := Lib.hid (HLc.out.app (5, E, E + 1) hown' (by unfold parCells; simp) hg'); clear hown' hg')
              | (at_builtin; refine wpList_append_own _ rfl _ _ 27 rfl w.heap.size 36 i0 _ 3 24 Try.underlying27 HI.out.1 HI.out.2.1 HI.out.2.2.1 HI.out.2.2.2 rfl (by decide) _ _ _ rfl (HL3.out.own.alloc _) _ _ _ [.int .i64 5, .int .i64 (j : Nat), .int .i64 ((j : Int) + 1)] rfl rfl (new_cells_at _ [.int .i64 5, .int .i64 (j : Nat), .int .i64 ((j : Int) + 1)] _ _ (by simp)) (one_par _ _ _) (by have := HM.out; unfold maxLen; (try simp only [List.length_append, List.length_singleton]); omega) (by have := HM.out; (try simp only [List.length_append, List.length_singleton]); omega) (Nat.le_trans HL3.out.below.size (one_ok _ _).size) ?_; intro v' w4 hown' hg' _; have HLa := Lib.hid (HL3.out.app (5, j, j + 1) hown' (by unfold parCells; simp) hg'); clear hown' hg')
              | (go_at_call 38; (with_reducible refine HWC.out.mono ?_); rintro e w3 ⟨rfl, hb3⟩; have HL3 := Lib.hid ((HL.out.next hb3).next (one_ok w3 (.cells #[.int .i64 8, .int .i64 (j : Nat), .int .i64 ((j : Int) + 1)] 36))); have hcl := HCL.out _ HL3.out.below j hlt _ HZ.out; have hb3z := hb3.size; have hbl3 : b < w3.heap.size := (by omega); have hbl4 : ¬ b = w3.heap.size := (by omega); have HNE := Lib.hid (show some w3.heap.size ≠ v0.ownBlock from fun h => absurd (HL.out.own.lt _ h.symm).2 (by omega)))
              | (go_at_call 39; (with_reducible refine (HCC.out _ HLa.out.below).mono ?_); rintro e w6 ⟨rfl, hb6⟩; have HLc := Lib.hid (HLa.out.next hb6); clear HLa))
            go_roundw
            case rel => exact ⟨E + 1, fu, true, _, _, by go_num, rfl, rfl, by omega, by omega, by omega, by simp only [List.length_append, List.length_singleton]; omega, HLe, Lib.hid (by have := HNX.out; simpa [List.append_assoc] using this)⟩
            case measure => simp [intOf]; omega
          · rw [if_neg he, if_neg he] at HNX
            have i2 : ¬ (E : Int) < t := by omega
            go_wp2_with (first
              | (at_builtin; refine wpList_append_own _ rfl _ _ 27 rfl w.heap.size 36 i0 _ 3 24 Try.underlying27 HI.out.1 HI.out.2.1 HI.out.2.2.1 HI.out.2.2.2 rfl (by decide) _ _ _ rfl (HL3.out.own.alloc _) _ _ _ [.int .i64 5, .int .i64 (j : Nat), .int .i64 ((j : Int) + 1)] rfl rfl (new_cells_at _ [.int .i64 5, .int .i64 (j : Nat), .int .i64 ((j : Int) + 1)] _ _ (by simp)) (one_par _ _ _) (by have := HM.out; unfold maxLen; (try simp only [List.length_append, List.length_singleton]); omega) (by have := HM.out; (try simp only [List.length_append, List.length_singleton]); omega) (Nat.le_trans HL3.out.below.size (one_ok _ _).size) ?_; intro v' w4 hown' hg' _; have HLa := Lib.hid (HL3.out.app (5, j, j + 1) hown' (by unfold parCells; simp) hg'); clear hown' hg')
              | (go_at_call 38; (with_reducible refine HWC.out.mono ?_); rintro e w3 ⟨rfl, hb3⟩; have HL3 := Lib.hid ((HL.out.next hb3).next (one_ok w3 (.cells #[.int .i64 8, .int .i64 (j : Nat), .int .i64 ((j : Int) + 1)] 36))); have hcl := HCL.out _ HL3.out.below j hlt _ HZ.out; have hb3z := hb3.size; have hbl3 : b < w3.heap.size := (by omega); have hbl4 : ¬ b = w3.heap.size := (by omega); have HNE := Lib.hid (show some w3.heap.size ≠ v0.ownBlock from fun h => absurd (HL.out.own.lt _ h.symm).2 (by omega)))
              | (go_at_call 39; (with_reducible refine (HCC.out _ HLa.out.below).mono ?_); rintro e w6 ⟨rfl, hb6⟩; have HLc := Lib.hid (HLa.out.next hb6); clear HLa))
            go_roundw
            case rel => exact ⟨E, fu, true, _, _, by go_num, rfl, rfl, by omega, by omega, by omega, by simp only [List.length_append, List.length_singleton]; omega, HLc, Lib.hid (by have := HNX.out; simpa [List.append_assoc] using this)⟩
            case measure => simp [intOf]; omega
      by_cases hB : z = 62 ∧ j + 1 = t
      · obtain ⟨rfl, hjn⟩ := hB
        have hjn' : (j : Int) + 1 = t := by omega
        have hwd : wdP (s.drop j) = (8, 1) := by rw [HD.out]; exact wdP_gt _
        have HWC := Lib.hid (HW.out _ HL.out.below j hlt _ hwd)
        simp only [Int.cast_ofNat_Int] at HWC
        rw [hjn'] at HWC
        have HNX := Lib.hid (show (acc ++ [(7, j, t)]) ++ dtF fu op t (s.drop t) = res by
          have := HA.out
          have hnil : s.drop (j + 1) = [] := List.drop_eq_nil_of_le (by rw [HSL.out]; omega)
          rw [HD.out, dtF, if_neg (by simp), if_pos ⟨rfl, hnil⟩] at this
          rw [← hjn, hnil, dtF_nil, List.append_nil]
          exact this)
        clear hA hwd
        go_wp2_with (first
          | (go_at_call 38; (with_reducible refine HWC.out.mono ?_); rintro e w3 ⟨rfl, hb3⟩; have HL3 := Lib.hid ((HL.out.next hb3).next (one_ok w3 (.cells #[.int .i64 7, .int .i64 (j : Nat), .int .i64 (t : Nat)] 36))); have hcl := HCL.out _ HL3.out.below j hlt _ HZ.out; have hcl8 := HCL.out _ ((HL.out.next hb3).next (one_ok w3 (.cells #[.int .i64 8, .int .i64 (j : Nat), .int .i64 (t : Nat)] 36))).below j hlt _ HZ.out; have hb3z := hb3.size; have hbl3 : b < w3.heap.size := (by omega); have hbl4 : ¬ b = w3.heap.size := (by omega); have HNE := Lib.hid (show some w3.heap.size ≠ v0.ownBlock from fun h => absurd (HL.out.own.lt _ h.symm).2 (by omega)))
          | (at_builtin; refine wpList_append_own _ rfl _ _ 27 rfl w.heap.size 36 i0 _ 3 24 Try.underlying27 HI.out.1 HI.out.2.1 HI.out.2.2.1 HI.out.2.2.2 rfl (by decide) _ _ _ rfl (HL3.out.own.alloc _) _ _ _ [.int .i64 7, .int .i64 (j : Nat), .int .i64 (t : Nat)] rfl rfl (new_cells_at _ [.int .i64 7, .int .i64 (j : Nat), .int .i64 (t : Nat)] _ _ (by simp)) (one_par _ _ _) (by have := HM.out; unfold maxLen; (try simp only [List.length_append, List.length_singleton]); omega) (by have := HM.out; (try simp only [List.length_append, List.length_singleton]); omega) (Nat.le_trans HL3.out.below.size (one_ok _ _).size) ?_; intro v' w4 hown' hg' _; have y2 := hg'.cell (a := ⟨w3.heap.size, 2, none⟩) (kp_alloc _ (box3r w3 _ _ _ _)) HNE.out; have HLa := Lib.hid (HL3.out.app (7, j, t) hown' (by unfold parCells; simp) hg'); clear hown' hg'))
        go_roundw
        case rel => exact ⟨t, fu, op, acc ++ [(7, j, t)], _, by go_num, rfl, rfl, by omega, by omega, by omega, by rw [List.length_append, List.length_singleton]; omega, HLa, HNX⟩
        case measure => simp [intOf]; omega
      · have hwo := wdP_ok (s.drop j) (by rw [dropl, HSL.out]; omega)
        rw [dropl, HSL.out] at hwo
        obtain ⟨⟨wk, wn⟩, hw⟩ : ∃ t, wdP (s.drop j) = t := ⟨_, rfl⟩
        rw [hw] at hwo
        have HWC := Lib.hid (HW.out _ HL.out.below j hlt _ hw)
        have HNX := Lib.hid (show (acc ++ [(wk, j, j + wn)]) ++ dtF fu op (j + wn) (s.drop (j + wn)) = res by
          have := HA.out
          rw [HD.out, dtF, if_neg hA, if_neg (fun h => hB ⟨h.1, by have e := congrArg List.length h.2; rw [dropl, HSL.out] at e; simp at e; omega⟩), ← HD.out, hw] at this
          simp only [dd] at this
          rw [List.append_assoc]
          exact this)
        simp only at hwo HWC
        clear hw
        have hcs : (z = 91 ∧ op = true) ∨ (¬ z = 91 ∧ ¬ z = 62) ∨ (z = 62 ∧ ¬ (j : Int) + 1 = t) := by
          by_cases h1 : z = 91
          · exact .inl ⟨h1, by cases op with | true => rfl | false => exact absurd ⟨h1, rfl⟩ hA⟩
          · by_cases h2 : z = 62
            · exact .inr (.inr ⟨h2, fun h => hB ⟨h2, by omega⟩⟩)
            · exact .inr (.inl ⟨h1, h2⟩)
        clear hA hB
        have hwo2 := hwo.2.1
        have hwo1 := hwo.1
        clear hwo
        rcases hcs with ⟨rfl, rfl⟩ | ⟨h1, h2⟩ | ⟨rfl, h2⟩
        all_goals
          (try have q1 : (z == 91) = false := by simpa using h1)
          (try have q2 : (z == 62) = false := by simpa using h2)
          go_wp2_with (first
            | (go_at_call 38; (with_reducible refine HWC.out.mono ?_); rintro e w3 ⟨rfl, hb3⟩; have HL3 := Lib.hid ((HL.out.next hb3).next (one_ok w3 (.cells #[.int .i64 wk, .int .i64 (j : Nat), .int .i64 ((j : Int) + wn)] 36))); have hcl := HCL.out _ HL3.out.below j hlt _ HZ.out; have hb3z := hb3.size; have hbl3 : b < w3.heap.size := (by omega); have hbl4 : ¬ b = w3.heap.size := (by omega); have HNE := Lib.hid (show some w3.heap.size ≠ v0.ownBlock from fun h => absurd (HL.out.own.lt _ h.symm).2 (by omega)))
            | (at_builtin; refine wpList_append_own _ rfl _ _ 27 rfl w.heap.size 36 i0 _ 3 24 Try.underlying27 HI.out.1 HI.out.2.1 HI.out.2.2.1 HI.out.2.2.2 rfl (by decide) _ _ _ rfl (HL3.out.own.alloc _) _ _ _ [.int .i64 wk, .int .i64 (j : Nat), .int .i64 ((j : Int) + wn)] rfl rfl (new_cells_at _ [.int .i64 wk, .int .i64 (j : Nat), .int .i64 ((j : Int) + wn)] _ _ (by simp)) (one_par _ _ _) (by have := HM.out; unfold maxLen; (try simp only [List.length_append, List.length_singleton]); omega) (by have := HM.out; (try simp only [List.length_append, List.length_singleton]); omega) (Nat.le_trans HL3.out.below.size (one_ok _ _).size) ?_; intro v' w4 hown' hg' _; have y2 := hg'.cell (a := ⟨w3.heap.size, 2, none⟩) (kp_alloc _ (box3r w3 _ _ _ _)) HNE.out; have HLa := Lib.hid (HL3.out.app (wk, j, j + wn) hown' (by unfold parCells; simp) hg'); clear hown' hg'))
          go_roundw
          case rel => exact ⟨j + wn, fu, _, acc ++ [(wk, j, j + wn)], _, by go_num, rfl, rfl, by omega, by omega, by omega, by rw [List.length_append, List.length_singleton]; omega, HLa, HNX⟩
          case measure => simp [intOf]; omega
    · obtain rfl : j = t := by omega
      have hall := HA.out
      rw [List.drop_eq_nil_of_le (by rw [HSL.out]; exact Nat.le_refl _), dtF_nil, List.append_nil] at hall
      clear hlt HA
      go_wp2
      go_ret
      rw [← hall]
      exact ⟨_, rfl, HL.out.own, HL.out.below⟩
end Go.Proofs.Ytpjcheelafegbaa
