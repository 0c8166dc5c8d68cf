/-
  Layer 14: the reference's Put.
-/
import Derived.Test.YtbljgoieieoamaaRfH
namespace Go.Proofs.Ytbljgoieieoamaa
open Go.RowKit
set_option linter.unusedVariables false

theorem sg_bd (s : ByteArray) (j : Nat) (h : j < s.size) : (sg s).getD j 0 = ((s[j]).toNat : Int) ∧ ((s[j]).toNat : Int) ≤ 255 := ⟨sg_get s j h, by have := (s[j]).toNat_lt; omega⟩

set_option maxRecDepth 20000 in
set_option maxHeartbeats 2000000 in
theorem text_any (s : ByteArray) (hs : s.size ≤ 10) (w : World) : Calls Try.prog 51 #[.string s] w (OwnRunes w (sg s)) := by
  obtain ⟨i0, hi, hz0, hz1, hz2⟩ := info_parts Try.infoI32
  have HI := Lib.hid (And.intro hi (And.intro hz0 (And.intro hz1 hz2)))
  have HL := Lib.hid (sg_length s)
  clear hi hz0 hz1 hz2
  go_enter Try.func51, Try.ntmps51
  go_wp2
  go_loopw [3, 4] (fun v iv wr => ∃ (j : Nat) (v' : Value), iv = .int .i64 j ∧ v' = v ∧ j ≤ s.size ∧ Hid (wr.ownsRow w.heap.size 21 1 v' j (((sg s).take j).map (Value.int .i32)) ∧ Below w.heap.size w wr)) (fun _ iv _ => s.size - (intOf iv).toNat)
  case atStart => exact ⟨0, _, rfl, rfl, Nat.zero_le _, Lib.hid ⟨World.ownsRow_nil _ _ _ _, Below.refl _ _⟩⟩
  case round =>
    obtain ⟨j, v0, rfl, rfl, hj, HO⟩ := hrel
    by_cases hlt : j < s.size
    · obtain ⟨h1, h2⟩ := sg_bd s j hlt
      have ei : IntKind.i32.wrap ((s[j]).toNat : Int) = ((s[j]).toNat : Int) := IntWalk.i32_in _ (by omega)
      have hjw : IntKind.i64.wrap ((j : Int) + 1) = (j : Int) + 1 := by rw [IntKind.wrap_i64]; omega
      have hjz : (j : Int) < (s.size : Int) := by omega
      have HZ := Lib.hid (show ((sg s).take j).map (Value.int .i32) ++ [.int .i32 ((s[j]).toNat : Int)] = ((sg s).take (j + 1)).map (Value.int .i32) from by
        have hjl : j < (sg s).length := by rw [HL.out]; exact hlt
        rw [List.take_succ_eq_append_getElem hjl, List.map_append, ← h1, List.getD_eq_getElem?_getD, List.getElem?_eq_getElem hjl]; rfl)
      clear h1 h2
      go_wp2_with (at_builtin; refine wpList_append_own _ rfl _ _ 43 rfl w.heap.size 21 i0 _ 1 4 Try.underlying43 HI.out.1 HI.out.2.1 HI.out.2.2.1 HI.out.2.2.2 rfl (by decide) _ _ _ rfl (HO.out.1.alloc _) _ _ _ [.int .i32 ((s[j]).toNat : Int)] rfl rfl (new_cells _ _ _) (by simp [Value.oneCell']) (by unfold maxLen; omega) (by omega) (Nat.le_trans HO.out.2.size (one_ok wr _).size) ?_; intro v' w4 hown' hg' _; have HF := Lib.hid (And.intro hown' (below_grown_alloc HO.out.2 HO.out.2.size hg' (fun g hg => (HO.out.1.lt g hg).1))); clear hown' hg')
      go_roundw
      case rel => exact ⟨j + 1, _, by go_num, rfl, by omega, Lib.hid ⟨by rw [← HZ.out]; exact HF.out.1, HF.out.2⟩⟩
      case measure => simp [intOf]; omega
    · have hje : j = s.size := by omega
      have hjf : ¬ (j : Int) < (s.size : Int) := by omega
      have HF := Lib.hid (show wr.ownsRow w.heap.size 21 1 v0 (sg s).length ((sg s).map (Value.int .i32)) from by
        have h := HO.out.1
        rw [List.take_of_length_le (by rw [HL.out, hje]; exact Nat.le_refl _)] at h
        rw [HL.out, ← hje]; exact h)
      clear hlt hje
      go_wp2
      go_ret
      exact ⟨_, rfl, HF.out, HO.out.2⟩

theorem gt_iff (l : List Int) (k : Nat) (h2 : 2 ≤ k) (hk : k < l.length) : gtB l k = (decide (l.getD (k - 2) 0 = 93) && decide (l.getD (k - 1) 0 = 93)) := by
  have e : k - 2 + 1 = k - 1 := by omega
  have d1 : l.drop (k - 2) = l[k - 2] :: l.drop (k - 1) := by rw [List.drop_eq_getElem_cons (by omega), e]
  have d2 : l.drop (k - 1) = l[k - 1] :: l.drop (k - 1 + 1) := List.drop_eq_getElem_cons (by omega)
  have g1 : l.getD (k - 2) 0 = l[k - 2] := by rw [List.getD_eq_getElem?_getD, List.getElem?_eq_getElem (by omega)]; rfl
  have g2 : l.getD (k - 1) 0 = l[k - 1] := by rw [List.getD_eq_getElem?_getD, List.getElem?_eq_getElem (by omega)]; rfl
  unfold gtB sw
  rw [decide_eq_true h2, Bool.true_and, d1, d2, g1, g2]
  simp only [List.length_cons, List.length_nil, List.take_succ_cons, List.take_zero, Nat.zero_add, List.cons.injEq, and_true, Bool.decide_and]

theorem tx1 {m q : Nat} (h1 : m ≤ 6000) (h2 : q ≤ 10) : m + q ≤ maxLen ∧ (m + q) * 4 ≤ 140737488355328 := by unfold maxLen; omega

theorem addr_addO (b off j : Nat) : (⟨b, off, none⟩ : Addr).add j = ⟨b, off + j, none⟩ := by unfold Addr.add; split <;> simp_all

set_option maxRecDepth 20000 in
set_option maxHeartbeats 8000000 in
theorem refPut_dq {w : World} {a : Option Addr} {n cap : Nat} {l : List Int} (R : NRw w a n cap l) (hn : n ≤ 1000) : Calls Try.prog 31 #[.slice a n cap, .int .i32 34] w (OwnRunes w (putP l 34)) := by
  obtain ⟨i0, hi, hz0, hz1, hz2⟩ := info_parts Try.infoI32
  have HI := Lib.hid (And.intro hi (And.intro hz0 (And.intro hz1 hz2)))
  have HL := Lib.hid R.len
  have HR := Lib.hid R
  clear hi hz0 hz1 hz2 R
  go_enter Try.func31, Try.ntmps31
  go_wp2
  go_loopw [6, 18] (fun v iv wr => ∃ (k : Nat) (v' : Value), iv = .int .i64 k ∧ v' = v ∧ k ≤ n ∧ Hid (wr.ownsRow w.heap.size 21 1 v' (putT l 34 k).length ((putT l 34 k).map (Value.int .i32)) ∧ Below w.heap.size w wr)) (fun _ iv _ => n - (intOf iv).toNat)
  case atStart => exact ⟨0, _, rfl, rfl, Nat.zero_le _, Lib.hid ⟨World.ownsRow_nil _ _ _ _, Below.refl _ _⟩⟩
  case round =>
    obtain ⟨k, v0, rfl, rfl, hk, HO⟩ := hrel
    by_cases hlt : k < n
    · obtain ⟨b, off, rfl, hc⟩ := (HR.out.cells.below HO.out.2).int (k := k) (by rw [HL.out]; exact hlt)
      obtain ⟨z, hz⟩ : ∃ z, z = l.getD k 0 := ⟨_, rfl⟩
      rw [← hz] at hc
      have hml := putT_len l 34 k
      have hsucc := putT_succ l 34 k
      obtain ⟨A, hA⟩ : ∃ A, A = putT l 34 k := ⟨_, rfl⟩
      obtain ⟨m, hm⟩ : ∃ m, m = A.length := ⟨_, rfl⟩
      rw [← hA, ← hm] at HO
      rw [← hA] at hml hsucc
      rw [← hm] at hml
      have hm6 : m ≤ 6000 := by omega
      have HML := Lib.hid hm
      have HSU := Lib.hid hsucc
      have HZE := Lib.hid hz
      have hkz : (k : Int) < (n : Int) := by omega
      have hkw : IntKind.i64.wrap ((k : Int) + 1) = (k : Int) + 1 := by rw [IntKind.wrap_i64]; omega
      have HO1 := Lib.hid (And.intro (owns_below HO.out.1 (one_ok wr (.cells #[.int .i32 z] 21))) (Below.more HO.out.2 (one_ok wr (.cells #[.int .i32 z] 21))))
      clear hA hm hsucc hz
      by_cases h38 : z = 38
      · subst h38
        have HIN := Lib.hid (show insR l 34 k = sg zAmp from by
          have h9 : insS l k 34 = zAmp := by
            unfold insS; rw [← HZE.out]; simp [quotS]
          unfold insR; rw [h9, if_neg (by decide)])
        clear HZE
        go_wp2_with (first
          | (go_at_call 51; (with_reducible refine (text_any _ (by decide) _).mono ?_); rintro e w5 ⟨v5, rfl, own5, hb5⟩; obtain ⟨g5, c5, rfl, _, _⟩ := own5.form (by decide); have HT5 := Lib.hid (And.intro (AtCells.of_owns own5) (And.intro (owns_below HO1.out.1 hb5) (Below.more HO1.out.2 hb5))); clear own5 hb5)
          | (at_builtin; refine wpList_append_own _ rfl _ _ 43 rfl w.heap.size 21 i0 _ 1 4 Try.underlying43 HI.out.1 HI.out.2.1 HI.out.2.2.1 HI.out.2.2.2 rfl (by decide) _ _ _ rfl HT5.out.2.1 _ _ _ ((sg zAmp).map (.int .i32)) rfl rfl (fun j u hu => by obtain ⟨_, _, he, hc⟩ := HT5.out.1 j u hu; cases he; rw [addr_addO]; exact hc) (by decide) (tx1 hm6 (by decide)).1 (tx1 hm6 (by decide)).2 HT5.out.2.2.size ?_; intro v' w6 hown' hg' _; have HF := Lib.hid (And.intro hown' (HT5.out.2.2.grown hg' HT5.out.2.2.size (fun g hg => (HT5.out.2.1.lt g hg).1))); clear hown' hg'))
        go_roundw
        case rel => exact ⟨k + 1, _, by go_num, rfl, by omega, Lib.hid ⟨by rw [HSU.out, HIN.out, List.length_append, List.map_append, ← HML.out]; exact HF.out.1, HF.out.2⟩⟩
        case measure => simp [intOf]; omega
      by_cases h60 : z = 60
      · subst h60
        have HIN := Lib.hid (show insR l 34 k = sg zLt from by
          have h9 : insS l k 34 = zLt := by
            unfold insS; rw [← HZE.out]; simp [quotS]
          unfold insR; rw [h9, if_neg (by decide)])
        clear HZE
        go_wp2_with (first
          | (go_at_call 51; (with_reducible refine (text_any _ (by decide) _).mono ?_); rintro e w5 ⟨v5, rfl, own5, hb5⟩; obtain ⟨g5, c5, rfl, _, _⟩ := own5.form (by decide); have HT5 := Lib.hid (And.intro (AtCells.of_owns own5) (And.intro (owns_below HO1.out.1 hb5) (Below.more HO1.out.2 hb5))); clear own5 hb5)
          | (at_builtin; refine wpList_append_own _ rfl _ _ 43 rfl w.heap.size 21 i0 _ 1 4 Try.underlying43 HI.out.1 HI.out.2.1 HI.out.2.2.1 HI.out.2.2.2 rfl (by decide) _ _ _ rfl HT5.out.2.1 _ _ _ ((sg zLt).map (.int .i32)) rfl rfl (fun j u hu => by obtain ⟨_, _, he, hc⟩ := HT5.out.1 j u hu; cases he; rw [addr_addO]; exact hc) (by decide) (tx1 hm6 (by decide)).1 (tx1 hm6 (by decide)).2 HT5.out.2.2.size ?_; intro v' w6 hown' hg' _; have HF := Lib.hid (And.intro hown' (HT5.out.2.2.grown hg' HT5.out.2.2.size (fun g hg => (HT5.out.2.1.lt g hg).1))); clear hown' hg'))
        go_roundw
        case rel => exact ⟨k + 1, _, by go_num, rfl, by omega, Lib.hid ⟨by rw [HSU.out, HIN.out, List.length_append, List.map_append, ← HML.out]; exact HF.out.1, HF.out.2⟩⟩
        case measure => simp [intOf]; omega
      by_cases h62 : z = 62
      · subst h62
        by_cases hk2 : 2 ≤ k
        · obtain ⟨_, _, he, hc1⟩ := (HR.out.cells.below HO.out.2).int (k := k - 1) (by rw [HL.out]; omega)
          cases he
          obtain ⟨_, _, he, hc2⟩ := (HR.out.cells.below HO.out.2).int (k := k - 2) (by rw [HL.out]; omega)
          cases he
          obtain ⟨y1, hy1⟩ : ∃ y, y = l.getD (k - 1) 0 := ⟨_, rfl⟩
          obtain ⟨y2, hy2⟩ : ∃ y, y = l.getD (k - 2) 0 := ⟨_, rfl⟩
          rw [← hy1] at hc1
          rw [← hy2] at hc2
          have hg := gt_iff l k hk2 (by rw [HL.out]; exact hlt)
          rw [← hy1, ← hy2] at hg
          obtain ⟨kk, rfl⟩ : ∃ kk, k = kk + 2 := ⟨k - 2, by omega⟩
          have e1 : kk + 2 - 1 = kk + 1 := by omega
          have e2 : kk + 2 - 2 = kk := by omega
          rw [e1] at hc1
          rw [e2] at hc2
          have i1 : (1 : Int) < (kk : Int) + 2 := by omega
          have i2 : (kk : Int) + 1 < (n : Int) := by omega
          have i3 : (kk : Int) < (n : Int) := by omega
          have i4 : IntKind.i64.wrap ((kk : Int) + 1) = (kk : Int) + 1 := by rw [IntKind.wrap_i64]; omega
          have i5 : IntKind.i64.wrap (kk : Int) = (kk : Int) := by rw [IntKind.wrap_i64]; omega
          have i6 : kk + 1 < n := by omega
          have i7 : kk < n := by omega
          have f1 := kp_alloc (.cells #[.int .i32 62] 21) hc1
          have f2 := kp_alloc (.cells #[.int .i32 62] 21) hc2
          clear hy1 hy2 e1 e2
          by_cases hy1 : y1 = 93
          · by_cases hy2 : y2 = 93
            · subst hy1 hy2
              have HG := Lib.hid (show gtB l (kk + 2) = true from by rw [hg]; rfl)
              clear hg
              have HIN := Lib.hid (show insR l 34 (kk + 2) = sg zGt from by
                have h9 : insS l (kk + 2) 34 = zGt := by
                  unfold insS; rw [← HZE.out]; simp [HG.out]
                unfold insR; rw [h9, if_neg (by decide)])
              clear HZE
              go_wp2_with (first
                | (go_at_call 51; (with_reducible refine (text_any _ (by decide) _).mono ?_); rintro e w5 ⟨v5, rfl, own5, hb5⟩; obtain ⟨g5, c5, rfl, _, _⟩ := own5.form (by decide); have HT5 := Lib.hid (And.intro (AtCells.of_owns own5) (And.intro (owns_below HO1.out.1 hb5) (Below.more HO1.out.2 hb5))); clear own5 hb5)
                | (at_builtin; refine wpList_append_own _ rfl _ _ 43 rfl w.heap.size 21 i0 _ 1 4 Try.underlying43 HI.out.1 HI.out.2.1 HI.out.2.2.1 HI.out.2.2.2 rfl (by decide) _ _ _ rfl HT5.out.2.1 _ _ _ ((sg zGt).map (.int .i32)) rfl rfl (fun j u hu => by obtain ⟨_, _, he, hc⟩ := HT5.out.1 j u hu; cases he; rw [addr_addO]; exact hc) (by decide) (tx1 hm6 (by decide)).1 (tx1 hm6 (by decide)).2 HT5.out.2.2.size ?_; intro v' w6 hown' hg' _; have HF := Lib.hid (And.intro hown' (HT5.out.2.2.grown hg' HT5.out.2.2.size (fun g hg => (HT5.out.2.1.lt g hg).1))); clear hown' hg'))
              go_roundw
              case rel => exact ⟨kk + 2 + 1, _, by go_num, rfl, by omega, Lib.hid ⟨by rw [HSU.out, HIN.out, List.length_append, List.map_append, ← HML.out]; exact HF.out.1, HF.out.2⟩⟩
              case measure => simp [intOf]; omega
            · have HG := Lib.hid (show gtB l (kk + 2) = false from by rw [hg]; simp [hy2])
              have y2b : (y2 == 93) = false := by simpa using hy2
              subst hy1
              clear hg hy2
              have HIN := Lib.hid (show insR l 34 (kk + 2) = [62] from by
                have h9 : insS l (kk + 2) 34 = zNo := by
                  unfold insS; rw [← HZE.out]; simp [HG.out]
                unfold insR; rw [h9, if_pos rfl, ← HZE.out])
              clear HZE
              go_wp2_with (at_builtin; refine wpList_append_own _ rfl _ _ 43 rfl w.heap.size 21 i0 _ 1 4 Try.underlying43 HI.out.1 HI.out.2.1 HI.out.2.2.1 HI.out.2.2.2 rfl (by decide) _ _ _ rfl (HO.out.1.alloc _) _ _ _ [.int .i32 62] rfl rfl (new_cells _ _ _) (by simp [Value.oneCell']) (by unfold maxLen; omega) (by omega) (Nat.le_trans HO.out.2.size (one_ok wr _).size) ?_; intro v' w6 hown' hg' _; have HF := Lib.hid (And.intro hown' (below_grown_alloc HO.out.2 HO.out.2.size hg' (fun g hg => (HO.out.1.lt g hg).1))); clear hown' hg')
              go_roundw
              case rel => exact ⟨kk + 2 + 1, _, by go_num, rfl, by omega, Lib.hid ⟨by rw [HSU.out, HIN.out, List.length_append, List.map_append, ← HML.out]; exact HF.out.1, HF.out.2⟩⟩
              case measure => simp [intOf]; omega
          · have HG := Lib.hid (show gtB l (kk + 2) = false from by rw [hg]; simp [hy1])
            have y1b : (y1 == 93) = false := by simpa using hy1
            clear hg hy1
            have HIN := Lib.hid (show insR l 34 (kk + 2) = [62] from by
              have h9 : insS l (kk + 2) 34 = zNo := by
                unfold insS; rw [← HZE.out]; simp [HG.out]
              unfold insR; rw [h9, if_pos rfl, ← HZE.out])
            clear HZE
            go_wp2_with (at_builtin; refine wpList_append_own _ rfl _ _ 43 rfl w.heap.size 21 i0 _ 1 4 Try.underlying43 HI.out.1 HI.out.2.1 HI.out.2.2.1 HI.out.2.2.2 rfl (by decide) _ _ _ rfl (HO.out.1.alloc _) _ _ _ [.int .i32 62] rfl rfl (new_cells _ _ _) (by simp [Value.oneCell']) (by unfold maxLen; omega) (by omega) (Nat.le_trans HO.out.2.size (one_ok wr _).size) ?_; intro v' w6 hown' hg' _; have HF := Lib.hid (And.intro hown' (below_grown_alloc HO.out.2 HO.out.2.size hg' (fun g hg => (HO.out.1.lt g hg).1))); clear hown' hg')
            go_roundw
            case rel => exact ⟨kk + 2 + 1, _, by go_num, rfl, by omega, Lib.hid ⟨by rw [HSU.out, HIN.out, List.length_append, List.map_append, ← HML.out]; exact HF.out.1, HF.out.2⟩⟩
            case measure => simp [intOf]; omega
        · have HG := Lib.hid (show gtB l k = false from by unfold gtB; rw [decide_eq_false hk2, Bool.false_and])
          have i1 : ¬ (1 : Int) < (k : Int) := by omega
          clear hk2
          have HIN := Lib.hid (show insR l 34 k = [62] from by
            have h9 : insS l k 34 = zNo := by
              unfold insS; rw [← HZE.out]; simp [HG.out]
            unfold insR; rw [h9, if_pos rfl, ← HZE.out])
          clear HZE
          go_wp2_with (at_builtin; refine wpList_append_own _ rfl _ _ 43 rfl w.heap.size 21 i0 _ 1 4 Try.underlying43 HI.out.1 HI.out.2.1 HI.out.2.2.1 HI.out.2.2.2 rfl (by decide) _ _ _ rfl (HO.out.1.alloc _) _ _ _ [.int .i32 62] rfl rfl (new_cells _ _ _) (by simp [Value.oneCell']) (by unfold maxLen; omega) (by omega) (Nat.le_trans HO.out.2.size (one_ok wr _).size) ?_; intro v' w6 hown' hg' _; have HF := Lib.hid (And.intro hown' (below_grown_alloc HO.out.2 HO.out.2.size hg' (fun g hg => (HO.out.1.lt g hg).1))); clear hown' hg')
          go_roundw
          case rel => exact ⟨k + 1, _, by go_num, rfl, by omega, Lib.hid ⟨by rw [HSU.out, HIN.out, List.length_append, List.map_append, ← HML.out]; exact HF.out.1, HF.out.2⟩⟩
          case measure => simp [intOf]; omega
      by_cases h13 : z = 13
      · subst h13
        have HIN := Lib.hid (show insR l 34 k = sg zCr from by
          have h9 : insS l k 34 = zCr := by
            unfold insS; rw [← HZE.out]; simp [quotS]
          unfold insR; rw [h9, if_neg (by decide)])
        clear HZE
        go_wp2_with (first
          | (go_at_call 51; (with_reducible refine (text_any _ (by decide) _).mono ?_); rintro e w5 ⟨v5, rfl, own5, hb5⟩; obtain ⟨g5, c5, rfl, _, _⟩ := own5.form (by decide); have HT5 := Lib.hid (And.intro (AtCells.of_owns own5) (And.intro (owns_below HO1.out.1 hb5) (Below.more HO1.out.2 hb5))); clear own5 hb5)
          | (at_builtin; refine wpList_append_own _ rfl _ _ 43 rfl w.heap.size 21 i0 _ 1 4 Try.underlying43 HI.out.1 HI.out.2.1 HI.out.2.2.1 HI.out.2.2.2 rfl (by decide) _ _ _ rfl HT5.out.2.1 _ _ _ ((sg zCr).map (.int .i32)) rfl rfl (fun j u hu => by obtain ⟨_, _, he, hc⟩ := HT5.out.1 j u hu; cases he; rw [addr_addO]; exact hc) (by decide) (tx1 hm6 (by decide)).1 (tx1 hm6 (by decide)).2 HT5.out.2.2.size ?_; intro v' w6 hown' hg' _; have HF := Lib.hid (And.intro hown' (HT5.out.2.2.grown hg' HT5.out.2.2.size (fun g hg => (HT5.out.2.1.lt g hg).1))); clear hown' hg'))
        go_roundw
        case rel => exact ⟨k + 1, _, by go_num, rfl, by omega, Lib.hid ⟨by rw [HSU.out, HIN.out, List.length_append, List.map_append, ← HML.out]; exact HF.out.1, HF.out.2⟩⟩
        case measure => simp [intOf]; omega
      by_cases h9 : z = 9
      · subst h9
        have HIN := Lib.hid (show insR l 34 k = sg zTab from by
          have h9 : insS l k 34 = zTab := by
            unfold insS; rw [← HZE.out]; simp [quotS]
          unfold insR; rw [h9, if_neg (by decide)])
        clear HZE
        go_wp2_with (first
          | (go_at_call 51; (with_reducible refine (text_any _ (by decide) _).mono ?_); rintro e w5 ⟨v5, rfl, own5, hb5⟩; obtain ⟨g5, c5, rfl, _, _⟩ := own5.form (by decide); have HT5 := Lib.hid (And.intro (AtCells.of_owns own5) (And.intro (owns_below HO1.out.1 hb5) (Below.more HO1.out.2 hb5))); clear own5 hb5)
          | (at_builtin; refine wpList_append_own _ rfl _ _ 43 rfl w.heap.size 21 i0 _ 1 4 Try.underlying43 HI.out.1 HI.out.2.1 HI.out.2.2.1 HI.out.2.2.2 rfl (by decide) _ _ _ rfl HT5.out.2.1 _ _ _ ((sg zTab).map (.int .i32)) rfl rfl (fun j u hu => by obtain ⟨_, _, he, hc⟩ := HT5.out.1 j u hu; cases he; rw [addr_addO]; exact hc) (by decide) (tx1 hm6 (by decide)).1 (tx1 hm6 (by decide)).2 HT5.out.2.2.size ?_; intro v' w6 hown' hg' _; have HF := Lib.hid (And.intro hown' (HT5.out.2.2.grown hg' HT5.out.2.2.size (fun g hg => (HT5.out.2.1.lt g hg).1))); clear hown' hg'))
        go_roundw
        case rel => exact ⟨k + 1, _, by go_num, rfl, by omega, Lib.hid ⟨by rw [HSU.out, HIN.out, List.length_append, List.map_append, ← HML.out]; exact HF.out.1, HF.out.2⟩⟩
        case measure => simp [intOf]; omega
      by_cases h10 : z = 10
      · subst h10
        have HIN := Lib.hid (show insR l 34 k = sg zLf from by
          have h9 : insS l k 34 = zLf := by
            unfold insS; rw [← HZE.out]; simp [quotS]
          unfold insR; rw [h9, if_neg (by decide)])
        clear HZE
        go_wp2_with (first
          | (go_at_call 51; (with_reducible refine (text_any _ (by decide) _).mono ?_); rintro e w5 ⟨v5, rfl, own5, hb5⟩; obtain ⟨g5, c5, rfl, _, _⟩ := own5.form (by decide); have HT5 := Lib.hid (And.intro (AtCells.of_owns own5) (And.intro (owns_below HO1.out.1 hb5) (Below.more HO1.out.2 hb5))); clear own5 hb5)
          | (at_builtin; refine wpList_append_own _ rfl _ _ 43 rfl w.heap.size 21 i0 _ 1 4 Try.underlying43 HI.out.1 HI.out.2.1 HI.out.2.2.1 HI.out.2.2.2 rfl (by decide) _ _ _ rfl HT5.out.2.1 _ _ _ ((sg zLf).map (.int .i32)) rfl rfl (fun j u hu => by obtain ⟨_, _, he, hc⟩ := HT5.out.1 j u hu; cases he; rw [addr_addO]; exact hc) (by decide) (tx1 hm6 (by decide)).1 (tx1 hm6 (by decide)).2 HT5.out.2.2.size ?_; intro v' w6 hown' hg' _; have HF := Lib.hid (And.intro hown' (HT5.out.2.2.grown hg' HT5.out.2.2.size (fun g hg => (HT5.out.2.1.lt g hg).1))); clear hown' hg'))
        go_roundw
        case rel => exact ⟨k + 1, _, by go_num, rfl, by omega, Lib.hid ⟨by rw [HSU.out, HIN.out, List.length_append, List.map_append, ← HML.out]; exact HF.out.1, HF.out.2⟩⟩
        case measure => simp [intOf]; omega
      by_cases h34 : z = 34
      · subst h34
        have HIN := Lib.hid (show insR l 34 k = sg zQuot from by
          have h9 : insS l k 34 = zQuot := by
            unfold insS; rw [← HZE.out]; simp [quotS]
          unfold insR; rw [h9, if_neg (by decide)])
        clear HZE
        go_wp2_with (first
          | (go_at_call 51; (with_reducible refine (text_any _ (by decide) _).mono ?_); rintro e w5 ⟨v5, rfl, own5, hb5⟩; obtain ⟨g5, c5, rfl, _, _⟩ := own5.form (by decide); have HT5 := Lib.hid (And.intro (AtCells.of_owns own5) (And.intro (owns_below HO1.out.1 hb5) (Below.more HO1.out.2 hb5))); clear own5 hb5)
          | (at_builtin; refine wpList_append_own _ rfl _ _ 43 rfl w.heap.size 21 i0 _ 1 4 Try.underlying43 HI.out.1 HI.out.2.1 HI.out.2.2.1 HI.out.2.2.2 rfl (by decide) _ _ _ rfl HT5.out.2.1 _ _ _ ((sg zQuot).map (.int .i32)) rfl rfl (fun j u hu => by obtain ⟨_, _, he, hc⟩ := HT5.out.1 j u hu; cases he; rw [addr_addO]; exact hc) (by decide) (tx1 hm6 (by decide)).1 (tx1 hm6 (by decide)).2 HT5.out.2.2.size ?_; intro v' w6 hown' hg' _; have HF := Lib.hid (And.intro hown' (HT5.out.2.2.grown hg' HT5.out.2.2.size (fun g hg => (HT5.out.2.1.lt g hg).1))); clear hown' hg'))
        go_roundw
        case rel => exact ⟨k + 1, _, by go_num, rfl, by omega, Lib.hid ⟨by rw [HSU.out, HIN.out, List.length_append, List.map_append, ← HML.out]; exact HF.out.1, HF.out.2⟩⟩
        case measure => simp [intOf]; omega
      by_cases h39 : z = 39
      · subst h39
        have HIN := Lib.hid (show insR l 34 k = [39] from by
          have h9 : insS l k 34 = zNo := by
            unfold insS; rw [← HZE.out]; simp [quotS]
          unfold insR; rw [h9, if_pos rfl, ← HZE.out])
        clear HZE
        go_wp2_with (at_builtin; refine wpList_append_own _ rfl _ _ 43 rfl w.heap.size 21 i0 _ 1 4 Try.underlying43 HI.out.1 HI.out.2.1 HI.out.2.2.1 HI.out.2.2.2 rfl (by decide) _ _ _ rfl (HO.out.1.alloc _) _ _ _ [.int .i32 39] rfl rfl (new_cells _ _ _) (by simp [Value.oneCell']) (by unfold maxLen; omega) (by omega) (Nat.le_trans HO.out.2.size (one_ok wr _).size) ?_; intro v' w6 hown' hg' _; have HF := Lib.hid (And.intro hown' (below_grown_alloc HO.out.2 HO.out.2.size hg' (fun g hg => (HO.out.1.lt g hg).1))); clear hown' hg')
        go_roundw
        case rel => exact ⟨k + 1, _, by go_num, rfl, by omega, Lib.hid ⟨by rw [HSU.out, HIN.out, List.length_append, List.map_append, ← HML.out]; exact HF.out.1, HF.out.2⟩⟩
        case measure => simp [intOf]; omega
      have b38 : (z == 38) = false := by simpa using h38
      have b60 : (z == 60) = false := by simpa using h60
      have b62 : (z == 62) = false := by simpa using h62
      have b13 : (z == 13) = false := by simpa using h13
      have b9 : (z == 9) = false := by simpa using h9
      have b10 : (z == 10) = false := by simpa using h10
      have b34 : (z == 34) = false := by simpa using h34
      have b39 : (z == 39) = false := by simpa using h39
      have HIN := Lib.hid (show insR l 34 k = [z] from by
        have h9 : insS l k 34 = zNo := by
          unfold insS; rw [← HZE.out]; rw [if_neg h38, if_neg h60, if_neg h62, if_neg h13, if_neg (by omega)]
        unfold insR; rw [h9, if_pos rfl, ← HZE.out])
      clear HZE h38 h60 h62 h13 h9 h10 h34 h39
      go_wp2_with (at_builtin; refine wpList_append_own _ rfl _ _ 43 rfl w.heap.size 21 i0 _ 1 4 Try.underlying43 HI.out.1 HI.out.2.1 HI.out.2.2.1 HI.out.2.2.2 rfl (by decide) _ _ _ rfl (HO.out.1.alloc _) _ _ _ [.int .i32 z] rfl rfl (new_cells _ _ _) (by simp [Value.oneCell']) (by unfold maxLen; omega) (by omega) (Nat.le_trans HO.out.2.size (one_ok wr _).size) ?_; intro v' w6 hown' hg' _; have HF := Lib.hid (And.intro hown' (below_grown_alloc HO.out.2 HO.out.2.size hg' (fun g hg => (HO.out.1.lt g hg).1))); clear hown' hg')
      go_roundw
      case rel => exact ⟨k + 1, _, by go_num, rfl, by omega, Lib.hid ⟨by rw [HSU.out, HIN.out, List.length_append, List.map_append, ← HML.out]; exact HF.out.1, HF.out.2⟩⟩
      case measure => simp [intOf]; omega
    · obtain rfl : k = n := by omega
      have hkf : ¬ (k : Int) < (k : Int) := by omega
      have hpp : putT l 34 k = putP l 34 := by unfold putP; rw [HL.out]
      rw [hpp] at HO
      clear hlt
      go_wp2
      go_ret
      exact ⟨_, rfl, HO.out.1, HO.out.2⟩

end Go.Proofs.Ytbljgoieieoamaa
