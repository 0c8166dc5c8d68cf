/-
  Contracts of the reference's layer 9: May, Words, Items.
-/
import Derived.Test.YtpjcheelafegbaaRdD
import Derived.Test.YtpjcheelafegbaaDxQ
import Derived.Test.YtpjcheelafegbaaDxR
namespace Go.Proofs.Ytpjcheelafegbaa
open Go.RowKit
set_option linter.unusedVariables false

theorem Try.infoRP9 : (Try.prog.info? 36).map (fun i => (i.zero, i.size, i.bytes)) = some (some (.agg #[.int .i64 0, .int .i64 0, .int .i64 0]), 3, 24) := by kernel_rfl
theorem box3r (w : World) (a0 a1 a2 : Value) (e : TypeId) : (w.alloc (.cells #[a0, a1, a2] e)).cell? ⟨w.heap.size, 2, none⟩ = some a2 := by simp
theorem rmay_yes (a : Option Addr) (n cap : Nat) (f t : Nat) (hft : f ≤ t) (htn : t ≤ n) (w : World) :
    Calls Try.prog 36 #[.slice a n cap, .int .i64 f, .int .i64 t] w fun e w' => e = .returned (.bool true) ∧ w = w' := by
  have q1 : decide (f ≤ t) = true := decide_eq_true hft
  have q2 : decide (t ≤ n) = true := decide_eq_true htn
  have q3 : (0 : Int) ≤ (f : Int) := by omega
  go_enter Try.func36, Try.ntmps36
  go_wp2
  go_ret
  exact ⟨by first | rfl | simp, rfl⟩
theorem rmay_no (a : Option Addr) (n cap : Nat) (f t : Int) (h : f < 0 ∨ t < f ∨ (n : Int) < t) (w : World) :
    Calls Try.prog 36 #[.slice a n cap, .int .i64 f, .int .i64 t] w fun e w' => e = .returned (.bool false) ∧ w = w' := by
  by_cases h1 : f < 0
  · have q1 : ¬ 0 ≤ f := by omega
    go_enter Try.func36, Try.ntmps36
    go_wp2
    all_goals
      go_ret
      exact ⟨by first | rfl | simp, rfl⟩
  · have q1 : 0 ≤ f := by omega
    by_cases h2 : t < f
    · have q2 : ¬ f ≤ t := by omega
      have q2' : decide (f ≤ t) = false := decide_eq_false q2
      clear h
      go_enter Try.func36, Try.ntmps36
      go_wp2
      all_goals
        go_ret
        exact ⟨by first | rfl | simp, rfl⟩
    · have q2 : f ≤ t := by omega
      have q2' : decide (f ≤ t) = true := decide_eq_true q2
      have q3 : ¬ t ≤ (n : Int) := by omega
      have q3' : decide (t ≤ (n : Int)) = false := decide_eq_false q3
      clear h
      go_enter Try.func36, Try.ntmps36
      go_wp2
      all_goals
        go_ret
        exact ⟨by first | rfl | simp, rfl⟩

/-- What a call that answers the reference's parts answers. -/
def OwnRP (w : World) (l : List PartA) (e : Ending) (w' : World) : Prop :=
  ∃ v, e = .returned v ∧ w'.ownsRow w.heap.size 36 3 v l.length (parsCells l) ∧ Below w.heap.size w w'
theorem wf_cut {l : List Int} (hwf : ∀ j, -2147483648 ≤ l.getD j 0 ∧ l.getD j 0 ≤ 2147483647) (t : Nat) : ∀ j, -2147483648 ≤ (l.take t).getD j 0 ∧ (l.take t).getD j 0 ≤ 2147483647 := fun j => by
  by_cases hj : j < t
  · have := hwf j
    rw [List.getD_eq_getElem?_getD, List.getElem?_take, if_pos hj, ← List.getD_eq_getElem?_getD]; exact this
  · rw [List.getD_eq_getElem?_getD, List.getElem?_take, if_neg hj]; decide
theorem inP_row {p : List Int → Nat × Nat} {l : List Int} {f t n : Nat} (hl : l.length = n) (hft : f ≤ t) (htn : t ≤ n) : inP (rowP p 0) l f t = rowF p (t - f) f ((l.take t).drop f) := by
  unfold inP
  rw [if_pos (by omega)]
  simp only [Int.toNat_natCast]
  unfold rowP
  rw [rowF_shift, Nat.zero_add]
  congr 1
  rw [List.length_drop, List.length_take, hl, Nat.min_eq_left htn]
theorem inP_bad {res : List Int → List PartA} {l : List Int} {f t : Int} (h : f < 0 ∨ t < f ∨ (l.length : Int) < t) : inP res l f t = [] := by
  unfold inP; rw [if_neg (by omega)]

set_option maxRecDepth 20000 in
set_option maxHeartbeats 4000000 in
theorem rwords_in {b off n cap : Nat} {l : List Int} {w : World} (R : RRow w b off n cap l) (hwf : ∀ j, -2147483648 ≤ l.getD j 0 ∧ l.getD j 0 ≤ 2147483647) (f t : Nat) (hft : f ≤ t) (htn : t ≤ n) (hn : n ≤ 900) :
    Calls Try.prog 19 #[.slice (some ⟨b, off, none⟩) n cap, .int .i64 f, .int .i64 t] w (OwnRP w (rowF wdP (t - f) f ((l.take t).drop f))) := by
  obtain ⟨i0, hi, hz0, hz1, hz2⟩ := info_parts Try.infoRP9
  have HI := Lib.hid (And.intro hi (And.intro hz0 (And.intro hz1 hz2)))
  have hm := R.max
  have hc := R.le
  unfold maxLen at hm
  have htc : t ≤ cap := by omega
  have HP := Lib.hid (fun (w' : World) hb (k : Nat) (hk : k < t) (p : Nat × Nat) (hp : wdP ((l.take t).drop k) = p) => rwordB ((R.below (w' := w') hb).cut t htn) (wf_cut hwf t) (by omega) k hk hp)
  have HOK := Lib.hid (fun (k : Nat) (hk : k < t) => show 0 < (wdP ((l.take t).drop k)).2 ∧ k + (wdP ((l.take t).drop k)).2 ≤ t from by
    have hl : ((l.take t).drop k).length = t - k := by rw [List.length_drop, List.length_take, R.len]; omega
    have := wdP_reads ((l.take t).drop k) (by omega)
    omega)
  have HML := Lib.hid (show (l.take t).length = t by rw [List.length_take, R.len]; omega)
  obtain ⟨res, hres⟩ : ∃ res, res = rowF wdP (t - f) f ((l.take t).drop f) := ⟨_, rfl⟩
  have HRES := Lib.hid hres
  rw [← hres]
  have HRL := Lib.hid (show res.length ≤ t - f by rw [hres]; have := rowF_len wdP_reads (t - f) f ((l.take t).drop f); rw [List.length_drop, HML.out] at this; exact this)
  have HMAY := Lib.hid (fun w => rmay_yes (some ⟨b, off, none⟩) n cap f t hft htn w)
  clear hi hz0 hz1 hz2 R hwf hres
  go_enter Try.func19, Try.ntmps19
  go_wp2_with (go_at_call 36; (with_reducible refine (HMAY.out _).mono ?_); rintro e w1 ⟨rfl, rfl⟩)
  go_loopw [7, 8, 9] (fun v iv _p wr => ∃ (j fu : Nat) (acc : List PartA) (v' : Value), iv = .int .i64 j ∧ v' = v ∧ f ≤ j ∧ j ≤ t ∧ t - j ≤ fu ∧ Hid (wr.ownsRow w.heap.size 36 3 v' acc.length (parsCells acc) ∧ Below w.heap.size w wr) ∧ Hid (acc ++ rowF wdP fu j ((l.take t).drop j) = res)) (fun _ iv _ _ => t - (intOf iv).toNat)
  case atStart => exact ⟨f, t - f, [], _, rfl, rfl, Nat.le_refl _, hft, Nat.le_refl _, Lib.hid ⟨World.ownsRow_nil _ _ _ _, Below.refl _ _⟩, Lib.hid HRES.out.symm⟩
  case round =>
    obtain ⟨j, fu, acc, v0, rfl, rfl, hfj, hjt, hfu, HOW, HALL⟩ := hrel
    by_cases hlt : j < t
    · obtain ⟨fu, rfl⟩ : ∃ f', fu = f' + 1 := ⟨fu - 1, by omega⟩
      have hok := HOK.out j hlt
      have hrw := rowF_cons (p := wdP) (f := fu) (j := j) (s := l.take t) (by rw [HML.out]; exact hlt) j
      obtain ⟨⟨pa, pb⟩, hpp⟩ : ∃ p, wdP ((l.take t).drop j) = p := ⟨_, rfl⟩
      rw [hpp] at hok hrw
      simp only at hok hrw
      obtain ⟨hp1, hp2⟩ := hok
      have HC := Lib.hid (HP.out _ HOW.out.2 j hlt _ hpp _ (Below.refl _ _))
      simp only [] at HC
      have HNEXT := Lib.hid (show (acc ++ [(pa, j, j + pb)]) ++ rowF wdP fu (j + pb) ((l.take t).drop (j + pb)) = res by rw [List.append_assoc, ← HALL.out, hrw]; rfl)
      have hal : acc.length + 1 ≤ t - f := by
        have h1 := congrArg List.length HNEXT.out
        have h2 := HRL.out
        simp at h1
        omega
      have HM := Lib.hid (And.intro (show acc.length + 1 ≤ maxLen by unfold maxLen; omega) (show (acc.length + 1) * 24 ≤ 140737488355328 by omega))
      have HCELL := Lib.hid (show [Value.int .i64 (pa : Nat), .int .i64 (j : Nat), .int .i64 ((j : Int) + pb)] = parCells (pa, j, j + pb) by unfold parCells; simp)
      clear hpp hrw HALL
      go_wp2_with (first
        | (go_at_call 38; (with_reducible refine HC.out.mono ?_); rintro e w3 ⟨rfl, hb3⟩; have HO3 := Lib.hid (And.intro (owns_below (owns_below HOW.out.1 hb3) (one_ok w3 (.cells #[.int .i64 (pa : Nat), .int .i64 (j : Nat), .int .i64 ((j : Int) + pb)] 36))) (Below.more (Below.more HOW.out.2 hb3) (one_ok w3 (.cells #[.int .i64 (pa : Nat), .int .i64 (j : Nat), .int .i64 ((j : Int) + pb)] 36)))); have HNE := Lib.hid (show some w3.heap.size ≠ v0.ownBlock from fun h => absurd (HOW.out.1.lt _ h.symm).2 (by have := hb3.size; omega)))
        | (at_builtin; refine wpList_append_own _ rfl _ _ 27 rfl w.heap.size 36 i0 _ 3 24 Try.underlying27 HI.out.1 HI.out.2.1 HI.out.2.2.1 HI.out.2.2.2 rfl (by decide) _ _ _ rfl (HO3.out.1.alloc _) _ _ _ [.int .i64 (pa : Nat), .int .i64 (j : Nat), .int .i64 ((j : Int) + pb)] rfl rfl (new_cells_at _ [.int .i64 (pa : Nat), .int .i64 (j : Nat), .int .i64 ((j : Int) + pb)] _ _ (by simp)) (one_par _ _ _) HM.out.1 HM.out.2 (Nat.le_trans HO3.out.2.size (one_ok _ _).size) ?_; intro v' w4 hown' hg' _; have y2 := hg'.cell (a := ⟨w3.heap.size, 2, none⟩) (kp_alloc _ (box3r w3 _ _ _ _)) HNE.out; have HF := Lib.hid (And.intro hown' (below_grown_alloc HO3.out.2 HO3.out.2.size hg' (fun g hg => (HO3.out.1.lt g hg).1))); clear hown' hg'))
      go_roundw
      case rel => exact ⟨j + pb, fu, acc ++ [(pa, j, j + pb)], _, by go_num, rfl, by omega, by omega, by omega, Lib.hid ⟨by rw [parsCells_snoc, List.length_append, ← HCELL.out]; exact HF.out.1, HF.out.2⟩, HNEXT⟩
      case measure => simp [intOf]; omega
    · obtain rfl : j = t := by omega
      have hall : acc = res := by
        have h1 := HALL.out
        rw [List.drop_eq_nil_of_le (by rw [HML.out]; exact Nat.le_refl _), rowF_end, List.append_nil] at h1
        exact h1
      have HA := Lib.hid hall
      clear hlt hall
      go_wp2
      go_ret
      rw [← HA.out]
      exact ⟨_, rfl, HOW.out.1, HOW.out.2⟩

set_option maxHeartbeats 1000000 in
theorem rwords_0 (a : Option Addr) (cap : Nat) (w : World) :
    Calls Try.prog 19 #[.slice a 0 cap, .int .i64 0, .int .i64 0] w (OwnRP w []) := by
  have HMAY := Lib.hid (fun w => rmay_yes a 0 cap 0 0 (Nat.le_refl _) (Nat.le_refl _) w)
  go_enter Try.func19, Try.ntmps19
  go_wp2_with (go_at_call 36; (refine (HMAY.out _).mono ?_); rintro e w1 ⟨rfl, rfl⟩)
  go_loop [7, 8, 9] (fun v iv _p => iv = .int .i64 0 ∧ v = .slice none 0 0) (fun _ _ _ => 0)
  case atStart => exact ⟨rfl, rfl⟩
  case round =>
    obtain ⟨rfl, rfl⟩ := hrel
    go_wp2
    go_ret
    exact ⟨_, rfl, World.ownsRow_nil _ _ _ _, Below.refl _ _⟩

set_option maxHeartbeats 1000000 in
theorem rwords_bad (a : Option Addr) (n cap : Nat) (f t : Int) (h : f < 0 ∨ t < f ∨ (n : Int) < t) (w : World) :
    Calls Try.prog 19 #[.slice a n cap, .int .i64 f, .int .i64 t] w (OwnRP w []) := by
  have HMAY := Lib.hid (fun w => rmay_no a n cap f t h w)
  clear h
  go_enter Try.func19, Try.ntmps19
  go_wp2_with (go_at_call 36; (with_reducible refine (HMAY.out _).mono ?_); rintro e w1 ⟨rfl, rfl⟩)
  go_ret
  exact ⟨_, rfl, World.ownsRow_nil _ _ _ _, Below.refl _ _⟩

theorem rwords_any {a : Option Addr} {n cap : Nat} {l : List Int} {w : World} (R : NRow w a n cap l) (hwf : ∀ j, -2147483648 ≤ l.getD j 0 ∧ l.getD j 0 ≤ 2147483647) (hn : n ≤ 900) (f t : Int) :
    Calls Try.prog 19 #[.slice a n cap, .int .i64 f, .int .i64 t] w (OwnRP w (inP (rowP wdP 0) l f t)) := by
  have hl := R.len
  by_cases h : f < 0 ∨ t < f ∨ (n : Int) < t
  · rw [inP_bad (by rw [hl]; exact h)]
    exact rwords_bad a n cap f t h w
  · obtain ⟨f, rfl⟩ : ∃ k : Nat, f = k := ⟨f.toNat, by omega⟩
    obtain ⟨t, rfl⟩ : ∃ k : Nat, t = k := ⟨t.toNat, by omega⟩
    rw [inP_row hl (by omega) (by omega)]
    by_cases h0 : 0 < n
    · obtain ⟨b, off, rfl, RR⟩ := R.some h0
      exact rwords_in RR hwf f t (by omega) (by omega) hn
    · obtain rfl : n = 0 := by omega
      obtain rfl : f = 0 := by omega
      obtain rfl : t = 0 := by omega
      exact rwords_0 a cap w

set_option maxRecDepth 20000 in
set_option maxHeartbeats 4000000 in
theorem ritems_in {b off n cap : Nat} {l : List Int} {w : World} (R : RRow w b off n cap l) (hwf : ∀ j, -2147483648 ≤ l.getD j 0 ∧ l.getD j 0 ≤ 2147483647) (f t : Nat) (hft : f ≤ t) (htn : t ≤ n) (hn : n ≤ 900) :
    Calls Try.prog 17 #[.slice (some ⟨b, off, none⟩) n cap, .int .i64 f, .int .i64 t] w (OwnRP w (rowF itP (t - f) f ((l.take t).drop f))) := by
  obtain ⟨i0, hi, hz0, hz1, hz2⟩ := info_parts Try.infoRP9
  have HI := Lib.hid (And.intro hi (And.intro hz0 (And.intro hz1 hz2)))
  have hm := R.max
  have hc := R.le
  unfold maxLen at hm
  have htc : t ≤ cap := by omega
  have HP := Lib.hid (fun (w' : World) hb (k : Nat) (hk : k < t) (p : Nat × Nat) (hp : itP ((l.take t).drop k) = p) => ritemB ((R.below (w' := w') hb).cut t htn) (wf_cut hwf t) (by omega) k hk hp)
  have HOK := Lib.hid (fun (k : Nat) (hk : k < t) => show 0 < (itP ((l.take t).drop k)).2 ∧ k + (itP ((l.take t).drop k)).2 ≤ t from by
    have hl : ((l.take t).drop k).length = t - k := by rw [List.length_drop, List.length_take, R.len]; omega
    have := itP_reads ((l.take t).drop k) (by omega)
    omega)
  have HML := Lib.hid (show (l.take t).length = t by rw [List.length_take, R.len]; omega)
  obtain ⟨res, hres⟩ : ∃ res, res = rowF itP (t - f) f ((l.take t).drop f) := ⟨_, rfl⟩
  have HRES := Lib.hid hres
  rw [← hres]
  have HRL := Lib.hid (show res.length ≤ t - f by rw [hres]; have := rowF_len itP_reads (t - f) f ((l.take t).drop f); rw [List.length_drop, HML.out] at this; exact this)
  have HMAY := Lib.hid (fun w => rmay_yes (some ⟨b, off, none⟩) n cap f t hft htn w)
  clear hi hz0 hz1 hz2 R hwf hres
  go_enter Try.func17, Try.ntmps17
  go_wp2_with (go_at_call 36; (with_reducible refine (HMAY.out _).mono ?_); rintro e w1 ⟨rfl, rfl⟩)
  go_loopw [7, 8, 9] (fun v iv _p wr => ∃ (j fu : Nat) (acc : List PartA) (v' : Value), iv = .int .i64 j ∧ v' = v ∧ f ≤ j ∧ j ≤ t ∧ t - j ≤ fu ∧ Hid (wr.ownsRow w.heap.size 36 3 v' acc.length (parsCells acc) ∧ Below w.heap.size w wr) ∧ Hid (acc ++ rowF itP fu j ((l.take t).drop j) = res)) (fun _ iv _ _ => t - (intOf iv).toNat)
  case atStart => exact ⟨f, t - f, [], _, rfl, rfl, Nat.le_refl _, hft, Nat.le_refl _, Lib.hid ⟨World.ownsRow_nil _ _ _ _, Below.refl _ _⟩, Lib.hid HRES.out.symm⟩
  case round =>
    obtain ⟨j, fu, acc, v0, rfl, rfl, hfj, hjt, hfu, HOW, HALL⟩ := hrel
    by_cases hlt : j < t
    · obtain ⟨fu, rfl⟩ : ∃ f', fu = f' + 1 := ⟨fu - 1, by omega⟩
      have hok := HOK.out j hlt
      have hrw := rowF_cons (p := itP) (f := fu) (j := j) (s := l.take t) (by rw [HML.out]; exact hlt) j
      obtain ⟨⟨pa, pb⟩, hpp⟩ : ∃ p, itP ((l.take t).drop j) = p := ⟨_, rfl⟩
      rw [hpp] at hok hrw
      simp only at hok hrw
      obtain ⟨hp1, hp2⟩ := hok
      have HC := Lib.hid (HP.out _ HOW.out.2 j hlt _ hpp _ (Below.refl _ _))
      simp only [] at HC
      have HNEXT := Lib.hid (show (acc ++ [(pa, j, j + pb)]) ++ rowF itP fu (j + pb) ((l.take t).drop (j + pb)) = res by rw [List.append_assoc, ← HALL.out, hrw]; rfl)
      have hal : acc.length + 1 ≤ t - f := by
        have h1 := congrArg List.length HNEXT.out
        have h2 := HRL.out
        simp at h1
        omega
      have HM := Lib.hid (And.intro (show acc.length + 1 ≤ maxLen by unfold maxLen; omega) (show (acc.length + 1) * 24 ≤ 140737488355328 by omega))
      have HCELL := Lib.hid (show [Value.int .i64 (pa : Nat), .int .i64 (j : Nat), .int .i64 ((j : Int) + pb)] = parCells (pa, j, j + pb) by unfold parCells; simp)
      clear hpp hrw HALL
      go_wp2_with (first
        | (go_at_call 42; (with_reducible refine HC.out.mono ?_); rintro e w3 ⟨rfl, hb3⟩; have HO3 := Lib.hid (And.intro (owns_below (owns_below HOW.out.1 hb3) (one_ok w3 (.cells #[.int .i64 (pa : Nat), .int .i64 (j : Nat), .int .i64 ((j : Int) + pb)] 36))) (Below.more (Below.more HOW.out.2 hb3) (one_ok w3 (.cells #[.int .i64 (pa : Nat), .int .i64 (j : Nat), .int .i64 ((j : Int) + pb)] 36)))); have HNE := Lib.hid (show some w3.heap.size ≠ v0.ownBlock from fun h => absurd (HOW.out.1.lt _ h.symm).2 (by have := hb3.size; omega)))
        | (at_builtin; refine wpList_append_own _ rfl _ _ 27 rfl w.heap.size 36 i0 _ 3 24 Try.underlying27 HI.out.1 HI.out.2.1 HI.out.2.2.1 HI.out.2.2.2 rfl (by decide) _ _ _ rfl (HO3.out.1.alloc _) _ _ _ [.int .i64 (pa : Nat), .int .i64 (j : Nat), .int .i64 ((j : Int) + pb)] rfl rfl (new_cells_at _ [.int .i64 (pa : Nat), .int .i64 (j : Nat), .int .i64 ((j : Int) + pb)] _ _ (by simp)) (one_par _ _ _) HM.out.1 HM.out.2 (Nat.le_trans HO3.out.2.size (one_ok _ _).size) ?_; intro v' w4 hown' hg' _; have y2 := hg'.cell (a := ⟨w3.heap.size, 2, none⟩) (kp_alloc _ (box3r w3 _ _ _ _)) HNE.out; have HF := Lib.hid (And.intro hown' (below_grown_alloc HO3.out.2 HO3.out.2.size hg' (fun g hg => (HO3.out.1.lt g hg).1))); clear hown' hg'))
      go_roundw
      case rel => exact ⟨j + pb, fu, acc ++ [(pa, j, j + pb)], _, by go_num, rfl, by omega, by omega, by omega, Lib.hid ⟨by rw [parsCells_snoc, List.length_append, ← HCELL.out]; exact HF.out.1, HF.out.2⟩, HNEXT⟩
      case measure => simp [intOf]; omega
    · obtain rfl : j = t := by omega
      have hall : acc = res := by
        have h1 := HALL.out
        rw [List.drop_eq_nil_of_le (by rw [HML.out]; exact Nat.le_refl _), rowF_end, List.append_nil] at h1
        exact h1
      have HA := Lib.hid hall
      clear hlt hall
      go_wp2
      go_ret
      rw [← HA.out]
      exact ⟨_, rfl, HOW.out.1, HOW.out.2⟩

set_option maxHeartbeats 1000000 in
theorem ritems_0 (a : Option Addr) (cap : Nat) (w : World) :
    Calls Try.prog 17 #[.slice a 0 cap, .int .i64 0, .int .i64 0] w (OwnRP w []) := by
  have HMAY := Lib.hid (fun w => rmay_yes a 0 cap 0 0 (Nat.le_refl _) (Nat.le_refl _) w)
  go_enter Try.func17, Try.ntmps17
  go_wp2_with (go_at_call 36; (refine (HMAY.out _).mono ?_); rintro e w1 ⟨rfl, rfl⟩)
  go_loop [7, 8, 9] (fun v iv _p => iv = .int .i64 0 ∧ v = .slice none 0 0) (fun _ _ _ => 0)
  case atStart => exact ⟨rfl, rfl⟩
  case round =>
    obtain ⟨rfl, rfl⟩ := hrel
    go_wp2
    go_ret
    exact ⟨_, rfl, World.ownsRow_nil _ _ _ _, Below.refl _ _⟩

set_option maxHeartbeats 1000000 in
theorem ritems_bad (a : Option Addr) (n cap : Nat) (f t : Int) (h : f < 0 ∨ t < f ∨ (n : Int) < t) (w : World) :
    Calls Try.prog 17 #[.slice a n cap, .int .i64 f, .int .i64 t] w (OwnRP w []) := by
  have HMAY := Lib.hid (fun w => rmay_no a n cap f t h w)
  clear h
  go_enter Try.func17, Try.ntmps17
  go_wp2_with (go_at_call 36; (with_reducible refine (HMAY.out _).mono ?_); rintro e w1 ⟨rfl, rfl⟩)
  go_ret
  exact ⟨_, rfl, World.ownsRow_nil _ _ _ _, Below.refl _ _⟩

theorem ritems_any {a : Option Addr} {n cap : Nat} {l : List Int} {w : World} (R : NRow w a n cap l) (hwf : ∀ j, -2147483648 ≤ l.getD j 0 ∧ l.getD j 0 ≤ 2147483647) (hn : n ≤ 900) (f t : Int) :
    Calls Try.prog 17 #[.slice a n cap, .int .i64 f, .int .i64 t] w (OwnRP w (inP (rowP itP 0) l f t)) := by
  have hl := R.len
  by_cases h : f < 0 ∨ t < f ∨ (n : Int) < t
  · rw [inP_bad (by rw [hl]; exact h)]
    exact ritems_bad a n cap f t h w
  · obtain ⟨f, rfl⟩ : ∃ k : Nat, f = k := ⟨f.toNat, by omega⟩
    obtain ⟨t, rfl⟩ : ∃ k : Nat, t = k := ⟨t.toNat, by omega⟩
    rw [inP_row hl (by omega) (by omega)]
    by_cases h0 : 0 < n
    · obtain ⟨b, off, rfl, RR⟩ := R.some h0
      exact ritems_in RR hwf f t (by omega) (by omega) hn
    · obtain rfl : n = 0 := by omega
      obtain rfl : f = 0 := by omega
      obtain rfl : t = 0 := by omega
      exact ritems_0 a cap w

end Go.Proofs.Ytpjcheelafegbaa
