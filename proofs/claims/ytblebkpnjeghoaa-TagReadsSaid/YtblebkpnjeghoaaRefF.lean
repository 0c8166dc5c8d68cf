/-
  Contract of the reference's layer 8: Parts of any row.
-/
import Derived.Test.YtblebkpnjeghoaaRefE
namespace Go.Proofs.Ytblebkpnjeghoaa
open Go.RowKit
set_option linter.unusedVariables false

theorem Try.infoRPar : (Try.prog.info? 80).map (fun i => (i.zero, i.size, i.bytes)) = some (some (.agg #[.int .i64 0, .int .i64 0, .int .i64 0]), 3, 24) := by kernel_rfl
theorem box3r (w : World) (a0 a1 a2 : Value) (e : TypeId) : (w.alloc (.cells #[a0, a1, a2] e)).cell? ⟨w.heap.size, 2, none⟩ = some a2 := by simp

/-- What a call that answers the reference's parts answers. -/
def OwnRPars (w : World) (l : List PartA) (e : Ending) (w' : World) : Prop :=
  ∃ v, e = .returned v ∧ w'.ownsRow w.heap.size 80 3 v l.length (parsCells l) ∧ Below w.heap.size w w'

set_option maxRecDepth 20000 in
set_option maxHeartbeats 4000000 in
theorem refParts_in {b off n cap : Nat} {l : List Int} {w : World} (R : RRow w b off n cap l) (hwf : ∀ j, -2147483648 ≤ l.getD j 0 ∧ l.getD j 0 ≤ 2147483647) (f t : Nat) (hft : f ≤ t) (htn : t ≤ n) (hn : n ≤ 1000) :
    Calls Try.prog 79 #[.slice (some ⟨b, off, none⟩) n cap, .int .i64 f, .int .i64 t] w (OwnRPars w (parS f ((l.take t).drop f))) := by
  obtain ⟨i0, hi, hz0, hz1, hz2⟩ := info_parts Try.infoRPar
  have HI := Lib.hid (And.intro hi (And.intro hz0 (And.intro hz1 hz2)))
  have hm := R.max
  have hc := R.le
  unfold maxLen at hm
  have HP := Lib.hid (fun (w' : World) hb (k : Nat) (hk : k < t) (p : Nat × Nat) (hp : rprt (k = f) ((l.take t).drop k) = p) => refPart_any (R.below (w' := w') hb) hwf f k t hk htn hn (by omega) hp)
  have HML := Lib.hid (show (l.take t).length = t by rw [List.length_take, R.len]; omega)
  obtain ⟨res, hres⟩ : ∃ res, res = parS f ((l.take t).drop f) := ⟨_, rfl⟩
  have HRES := Lib.hid hres
  rw [← hres]
  have hmlen : (l.take t).length = t := HML.out
  have HRL := Lib.hid (show res.length ≤ t - f + 1 by rw [hres]; have := parS_len f ((l.take t).drop f); rw [List.length_drop, hmlen] at this; exact this)
  have q1 : decide ((f : Int) < 0) = false := decide_eq_false (by omega)
  have q2 : decide (t < f) = false := decide_eq_false (by omega)
  have q3 : decide (n < t) = false := decide_eq_false (by omega)
  clear hi hz0 hz1 hz2 R hwf hres hmlen
  go_enter Try.func79, Try.ntmps79
  go_wp2
  go_loopw [7, 8, 9] (fun v iv _p wr => ∃ (j : Nat) (acc RR : List PartA) (v' : Value), iv = .int .i64 j ∧ v' = v ∧ f ≤ j ∧ j ≤ t ∧ Hid (wr.ownsRow w.heap.size 80 3 v' acc.length (parsCells acc) ∧ Below w.heap.size w wr) ∧ Hid (acc ++ RR = res) ∧ Hid (RestOk f t (l.take t) j RR)) (fun _ iv _ _ => t - (intOf iv).toNat)
  case atStart => exact ⟨f, [], res, _, rfl, rfl, Nat.le_refl _, hft, Lib.hid ⟨World.ownsRow_nil _ _ _ _, Below.refl _ _⟩, Lib.hid rfl, Lib.hid ⟨fun _ => HRES.out, fun h => absurd rfl h⟩⟩
  case round =>
    obtain ⟨j, acc, RR, v0, rfl, rfl, hfj, hjt, HOW, HALL, HRR⟩ := hrel
    by_cases hlt : j < t
    · obtain ⟨R', hR', hok, hp1, hp2⟩ := rest_step HML.out hlt hfj HRR.out
      obtain ⟨⟨pa, pb⟩, hpp⟩ : ∃ p, rprt (j = f) ((l.take t).drop j) = p := ⟨_, rfl⟩
      rw [hpp] at hR' hok hp1 hp2
      simp only at hR' hok hp1 hp2
      have HC := Lib.hid (HP.out _ HOW.out.2 j hlt _ hpp)
      simp only [] at HC
      have HNEXT := Lib.hid (show (acc ++ [(pa, j, j + pb)]) ++ R' = res by rw [List.append_assoc, ← HALL.out, hR']; rfl)
      have HOK := Lib.hid hok
      have hal : acc.length + 1 ≤ t - f + 1 := by
        have h1 := congrArg List.length HNEXT.out
        have h2 := HRL.out
        simp at h1
        omega
      have HM := Lib.hid (And.intro (show acc.length + 1 ≤ maxLen by unfold maxLen; omega) (show (acc.length + 1) * 24 ≤ 140737488355328 by omega))
      have HCELL := Lib.hid (show [Value.int .i64 (pa : Nat), .int .i64 (j : Nat), .int .i64 ((j : Int) + pb)] = parCells (pa, j, j + pb) by unfold parCells; simp)
      clear hpp hR' hok HALL HRR
      go_wp2_with (first
        | (go_at_call 103; (with_reducible refine HC.out.mono ?_); rintro e w3 ⟨rfl, hb3⟩; have HO3 := Lib.hid (And.intro (owns_below (owns_below HOW.out.1 hb3) (one_ok w3 (.cells #[.int .i64 (pa : Nat), .int .i64 (j : Nat), .int .i64 ((j : Int) + pb)] 80))) (Below.more (Below.more HOW.out.2 hb3) (one_ok w3 (.cells #[.int .i64 (pa : Nat), .int .i64 (j : Nat), .int .i64 ((j : Int) + pb)] 80)))); have HNE := Lib.hid (show some w3.heap.size ≠ v0.ownBlock from fun h => absurd (HOW.out.1.lt _ h.symm).2 (by have := hb3.size; omega)))
        | (at_builtin; refine wpList_append_own _ rfl _ _ 133 rfl w.heap.size 80 i0 _ 3 24 Try.underlying133 HI.out.1 HI.out.2.1 HI.out.2.2.1 HI.out.2.2.2 rfl (by decide) _ _ _ rfl (HO3.out.1.alloc _) _ _ _ [.int .i64 (pa : Nat), .int .i64 (j : Nat), .int .i64 ((j : Int) + pb)] rfl rfl (new_cells_at _ [.int .i64 (pa : Nat), .int .i64 (j : Nat), .int .i64 ((j : Int) + pb)] _ _ (by simp)) (one_par _ _ _) HM.out.1 HM.out.2 (Nat.le_trans HO3.out.2.size (one_ok _ _).size) ?_; intro v' w4 hown' hg' _; have y2 := hg'.cell (a := ⟨w3.heap.size, 2, none⟩) (kp_alloc _ (box3r w3 _ _ _ _)) HNE.out; have HF := Lib.hid (And.intro hown' (below_grown_alloc HO3.out.2 HO3.out.2.size hg' (fun g hg => (HO3.out.1.lt g hg).1))); clear hown' hg'))
      go_roundw
      case rel => exact ⟨j + pb, acc ++ [(pa, j, j + pb)], R', _, by go_num, rfl, by omega, hp2, Lib.hid ⟨by rw [parsCells_snoc, List.length_append, ← HCELL.out]; exact HF.out.1, HF.out.2⟩, HNEXT, HOK⟩
      case measure => simp [intOf]; omega
    · obtain rfl : j = t := by omega
      have hall : acc = res := by
        have h1 := HALL.out
        have hnil : RR = [] := by
          by_cases h : j = f
          · have := HRR.out.1 h
            rw [this, ← h, List.drop_eq_nil_of_le (by rw [HML.out]; exact Nat.le_refl _)]
            rfl
          · obtain ⟨fu, _, hr⟩ := HRR.out.2 h
            rw [hr, List.drop_eq_nil_of_le (by rw [HML.out]; exact Nat.le_refl _)]
            exact parF_end
        rw [hnil, List.append_nil] at h1
        exact h1
      have HA := Lib.hid hall
      clear hlt hall
      go_wp2
      go_ret
      rw [← HA.out]
      exact ⟨_, rfl, HOW.out.1, HOW.out.2⟩

set_option maxHeartbeats 1000000 in
theorem refParts0 (a : Option Addr) (cap : Nat) (w : World) :
    Calls Try.prog 79 #[.slice a 0 cap, .int .i64 0, .int .i64 0] w (OwnRPars w []) := by
  go_enter Try.func79, Try.ntmps79
  go_wp2
  go_loop [7, 8, 9] (fun v iv _p => iv = .int .i64 0 ∧ v = .slice none 0 0) (fun _ _ _ => 0)
  case atStart => exact ⟨rfl, rfl⟩
  case round =>
    obtain ⟨rfl, rfl⟩ := hrel
    go_wp2
    go_ret
    exact ⟨_, rfl, World.ownsRow_nil _ _ _ _, Below.refl _ _⟩

set_option maxHeartbeats 1000000 in
theorem refPartsBad (a : Option Addr) (n cap : Nat) (f t : Int) (h : f < 0 ∨ t < f ∨ (n : Int) < t) (w : World) :
    Calls Try.prog 79 #[.slice a n cap, .int .i64 f, .int .i64 t] w (OwnRPars w []) := by
  by_cases h1 : f < 0
  · go_enter Try.func79, Try.ntmps79
    go_wp2
    go_ret
    exact ⟨_, rfl, World.ownsRow_nil _ _ _ _, Below.refl _ _⟩
  · by_cases h2 : t < f
    · have h1' : 0 ≤ f := by omega
      go_enter Try.func79, Try.ntmps79
      go_wp2
      go_ret
      exact ⟨_, rfl, World.ownsRow_nil _ _ _ _, Below.refl _ _⟩
    · have h3 : (n : Int) < t := by omega
      have h1' : 0 ≤ f := by omega
      have h2' : f ≤ t := by omega
      clear h
      go_enter Try.func79, Try.ntmps79
      go_wp2
      go_ret
      exact ⟨_, rfl, World.ownsRow_nil _ _ _ _, Below.refl _ _⟩

theorem refParts_row (a : Option Addr) (n cap : Nat) (l : List Int) (w : World) (hl : l.length = n) (hc : n ≤ cap) (hm : cap ≤ maxLen) (hn : n ≤ 1000) (hat : AtCells w a (l.map (.int .i32))) (hwf : ∀ j, -2147483648 ≤ l.getD j 0 ∧ l.getD j 0 ≤ 2147483647) (f t : Int) :
    Calls Try.prog 79 #[.slice a n cap, .int .i64 f, .int .i64 t] w (OwnRPars w (parts l f t)) := by
  by_cases h : f < 0 ∨ t < f ∨ (n : Int) < t
  · have : parts l f t = [] := by unfold parts; rw [if_pos (by rw [hl]; exact h)]
    rw [this]
    exact refPartsBad a n cap f t h w
  · have hp : parts l f t = parS f.toNat ((l.take t.toNat).drop f.toNat) := by unfold parts; rw [if_neg (by rw [hl]; exact h)]
    rw [hp]
    obtain ⟨f, rfl⟩ : ∃ k : Nat, f = k := ⟨f.toNat, by omega⟩
    obtain ⟨t, rfl⟩ : ∃ k : Nat, t = k := ⟨t.toNat, by omega⟩
    simp only [Int.toNat_natCast]
    cases n with
    | zero =>
      obtain rfl : f = 0 := by omega
      obtain rfl : t = 0 := by omega
      have : l = [] := List.length_eq_zero_iff.1 hl
      subst this
      exact refParts0 a cap w
    | succ n =>
      obtain ⟨b, off, rfl, _⟩ := hat.int (k := 0) (by omega)
      exact refParts_in ⟨hl, hc, hm, hat⟩ hwf f t (by omega) (by omega) (by omega)

end Go.Proofs.Ytblebkpnjeghoaa
