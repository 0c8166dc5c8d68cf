/-
  Contracts of layer 7: what runes are (text, within an end tag, digits), how far a row of them goes; whether a row has a rune.
-/
import Derived.Test.YtbljgoieieoamaaLexA2
import Derived.Test.YtbljgoieieoamaaLexS
namespace Go.Proofs.Ytbljgoieieoamaa
open Go.RowKit
set_option linter.unusedVariables false

set_option maxHeartbeats 400000 in
theorem plain_at {r : Int} {v : Bool} (h : plainB r = v) (w : World) :
    Calls Try.prog 72 #[.int .i32 r] w fun e w' => e = .returned (.bool v) ∧ Below w.heap.size w w' := by
  have HV := Lib.hid h
  unfold plainB at h
  go_enter Try.func72, Try.ntmps72
  go_wp2
  all_goals
    go_ret
    refine ⟨ret_bool ?_, Below.refl _ _⟩
    rw [← HV.out]
    unfold plainB
    simp_all [bne]

set_option maxHeartbeats 400000 in
theorem inEnd_at {r : Int} {v : Bool} (h : inEndB r = v) (w : World) :
    Calls Try.prog 91 #[.int .i32 r] w fun e w' => e = .returned (.bool v) ∧ Below w.heap.size w w' := by
  have HV := Lib.hid h
  unfold inEndB at h
  go_enter Try.func91, Try.ntmps91
  go_wp2
  all_goals
    go_ret
    refine ⟨ret_bool ?_, Below.refl _ _⟩
    rw [← HV.out]
    unfold inEndB
    simp_all [bne]

set_option maxHeartbeats 400000 in
theorem digit_at {r : Int} {v : Bool} (h : digitB r = v) (w : World) :
    Calls Try.prog 95 #[.int .i32 r] w fun e w' => e = .returned (.bool v) ∧ Below w.heap.size w w' := by
  by_cases h0 : 48 ≤ r ∧ r ≤ 57
  · obtain rfl : v = true := by rw [← h]; simp [digitB, h0.1, h0.2]
    have HD := Lib.hid (fun w => digit_yes r w h0.1 h0.2)
    clear h h0
    go_enter Try.func95, Try.ntmps95
    go_wp2_with (go_at_call 97; (with_reducible refine (HD.out _).mono ?_); rintro e w1 ⟨rfl, rfl⟩)
    go_ret
    exact ⟨rfl, Below.refl _ _⟩
  · obtain rfl : v = false := by rw [← h]; unfold digitB; rw [Bool.and_eq_false_iff]; simp; omega
    have HD := Lib.hid (fun w => digit_no r w (by omega))
    clear h h0
    go_enter Try.func95, Try.ntmps95
    go_wp2_with (go_at_call 97; (with_reducible refine (HD.out _).mono ?_); rintro e w1 ⟨rfl, rfl⟩)
    go_ret
    exact ⟨rfl, Below.refl _ _⟩

set_option maxHeartbeats 1000000 in
theorem hexes (r : Int) (w : World) :
    Calls Try.prog 73 #[.int .i32 r] w fun e w' => ∃ x : Int, e = .returned (.tuple #[.int .i64 x, .bool (hexB r)]) ∧ w = w' := by
  by_cases h1 : 97 ≤ r ∧ r ≤ 102
  · obtain ⟨h1, h2⟩ := h1
    have HV := Lib.hid (show hexB r = true by simp [hexB, h1, h2])
    go_enter Try.func73, Try.ntmps73
    go_wp2
    go_ret2
    first | exact ⟨_, ret_ib rfl HV.out.symm, rfl⟩ | exact ⟨⟨_, ret_ib rfl HV.out.symm⟩, rfl⟩
  · by_cases h2 : 65 ≤ r ∧ r ≤ 70
    · obtain ⟨h2, h3⟩ := h2
      have h1' : ¬ 97 ≤ r := by omega
      have HV := Lib.hid (show hexB r = true by simp [hexB, h2, h3])
      clear h1
      go_enter Try.func73, Try.ntmps73
      go_wp2
      go_ret2
      first | exact ⟨_, ret_ib rfl HV.out.symm, rfl⟩ | exact ⟨⟨_, ret_ib rfl HV.out.symm⟩, rfl⟩
    · by_cases h0 : 48 ≤ r ∧ r ≤ 57
      · have HV := Lib.hid (show hexB r = true by simp [hexB, h0.1, h0.2])
        have HD := Lib.hid (fun w => digit_yes r w h0.1 h0.2)
        have h1' : ¬ 97 ≤ r := by omega
        have h2' : ¬ 65 ≤ r := by omega
        clear h0 h1 h2
        go_enter Try.func73, Try.ntmps73
        go_wp2_with (go_at_call 97; (with_reducible refine (HD.out _).mono ?_); rintro e w1 ⟨rfl, rfl⟩)
        go_ret2
        first | exact ⟨_, ret_ib rfl HV.out.symm, rfl⟩ | exact ⟨⟨_, ret_ib rfl HV.out.symm⟩, rfl⟩
      · have HV := Lib.hid (show hexB r = false by unfold hexB; simp; omega)
        have HD := Lib.hid (fun w => digit_no r w (by omega))
        clear h0
        go_enter Try.func73, Try.ntmps73
        go_wp2_with (go_at_call 97; (with_reducible refine (HD.out _).mono ?_); rintro e w1 ⟨rfl, rfl⟩)
        all_goals first
          | (exfalso; omega)
          | (go_ret2
             first | exact ⟨_, ret_ib rfl HV.out.symm, rfl⟩ | exact ⟨⟨_, ret_ib rfl HV.out.symm⟩, rfl⟩)

set_option maxHeartbeats 400000 in
theorem hex_at {r : Int} {v : Bool} (h : hexB r = v) (w : World) :
    Calls Try.prog 94 #[.int .i32 r] w fun e w' => e = .returned (.bool v) ∧ Below w.heap.size w w' := by
  have HD := Lib.hid (fun w => hexes r w)
  rw [h] at HD
  clear h
  go_enter Try.func94, Try.ntmps94
  go_wp2_with (go_at_call 73; (with_reducible refine (HD.out _).mono ?_); rintro e w1 ⟨x, rfl, rfl⟩)
  go_ret
  exact ⟨rfl, Below.refl _ _⟩

/-- The function plain as a value. -/
abbrev fn_plain : Value := .func (.func 72) #[] #[]

set_option maxHeartbeats 1000000 in
theorem run_plain (b off n cap : Nat) (l : List Int) (k : Nat) (w : World) (hn : l.length = n) (hc : n ≤ cap) (hm : cap ≤ maxLen) (hk : k < n) (hat : AtCells w (some ⟨b, off, none⟩) (l.map (.int .i32))) :
    Calls Try.prog 58 #[.slice (some ⟨b, off, none⟩) n cap, .int .i64 k, fn_plain] w fun e w' => e = .returned (.int .i64 (runP plainB (l.drop k))) ∧ Below w.heap.size w w' := by
  unfold maxLen at hm
  have HAT := Lib.hid hat
  have HN := Lib.hid hn
  clear hat hn
  have q1 : decide (n < k) = false := decide_eq_false (by omega)
  have q2 : decide ((k : Int) < 0) = false := decide_eq_false (by omega)
  have hfn := fun w => func_eql_nil w (.func 72) #[] #[]
  go_enter Try.func58, Try.ntmps58
  go_wp2
  go_loopw [7, 8, 25] (fun _i7 _i8 i wr => ∃ j : Nat, j ≤ n - k ∧ i = .int .i64 j ∧ Below w.heap.size w wr ∧ Hid (∀ x, x < j → plainB ((l.drop k).getD x 0) = true)) (fun _ _ i _ => n - k - (intOf i).toNat)
  case atStart => exact ⟨0, by omega, rfl, Below.refl _ _, Lib.hid (fun x hx => by omega)⟩
  case round =>
    obtain ⟨j, hj, rfl, hbl, HJ⟩ := hrel
    by_cases hlt : j < n - k
    · have hc0 := (((HAT.out.drop k).below hbl))
      rw [← List.map_drop] at hc0
      obtain ⟨b', off', hy, hc1⟩ := hc0.int (k := j) (by have := HN.out; simp; omega)
      simp only [Option.some.injEq, Addr.mk.injEq] at hy
      obtain ⟨rfl, rfl, _⟩ := hy
      obtain ⟨z, hz⟩ : ∃ z, z = (l.drop k).getD j 0 := ⟨_, rfl⟩
      rw [← hz] at hc1
      have HZ := Lib.hid hz
      clear hz hc0
      cases hnz : plainB z
      · have HC := Lib.hid (fun w => plain_at hnz w)
        have HR := Lib.hid (runP_of plainB (l.drop k) j HJ.out (by have := HN.out; simp; omega) (by rw [← HZ.out]; exact hnz))
        clear hnz
        have HBL := Lib.hid hbl
        clear hbl
        go_wp2_with (go_at_call 72; (with_reducible refine (HC.out _).mono ?_); rintro e w1 ⟨rfl, hb1⟩)
        go_ret
        exact ⟨by rw [HR.out]; rfl, HBL.out.trans (hb1.mono HBL.out.size)⟩
      · have HC := Lib.hid (fun w => plain_at hnz w)
        have HK := Lib.hid (show ∀ x, x < j + 1 → plainB ((l.drop k).getD x 0) = true from fun x hx => by
          by_cases h : x = j
          · subst h; rw [← HZ.out]; exact hnz
          · exact HJ.out x (by omega))
        clear hnz
        have HBL := Lib.hid hbl
        clear hbl
        go_wp2_with (go_at_call 72; (with_reducible refine (HC.out _).mono ?_); rintro e w1 ⟨rfl, hb1⟩)
        have HB2 := Lib.hid (HBL.out.trans (hb1.mono HBL.out.size))
        clear hb1
        go_roundw
        case rel => exact ⟨j + 1, by omega, by go_num, HB2.out, HK⟩
        case measure => simp [intOf]; omega
    · obtain rfl : j = n - k := by omega
      have HR := Lib.hid (runP_all plainB (l.drop k) (fun x hx => HJ.out x (by have := HN.out; simp at hx; omega)))
      have HL := Lib.hid (show (l.drop k).length = n - k by have := HN.out; simp; omega)
      clear hj hlt
      go_wp2
      go_ret
      exact ⟨ret_num (by rw [HR.out, HL.out]; omega), hbl⟩


set_option maxHeartbeats 1000000 in
theorem run_plain0 (b off n cap : Nat) (w : World) (hc : n ≤ cap) (hm : cap ≤ maxLen) :
    Calls Try.prog 58 #[.slice (some ⟨b, off, none⟩) n cap, .int .i64 n, fn_plain] w fun e w' => e = .returned (.int .i64 0) ∧ w' = w := by
  unfold maxLen at hm
  have q1 : decide (n < n) = false := decide_eq_false (by omega)
  have q2 : decide ((n : Int) < 0) = false := decide_eq_false (by omega)
  have hfn := fun w => func_eql_nil w (.func 72) #[] #[]
  by_cases hcap : cap = n
  · subst hcap
    go_enter Try.func58, Try.ntmps58
    go_wp2
    go_loopw [7, 8, 25] (fun _i7 _i8 i wr => i = .int .i64 0 ∧ wr = w) (fun _ _ i _ => 0)
    case atStart => exact ⟨rfl, rfl⟩
    case round =>
      obtain ⟨rfl, rfl⟩ := hrel
      go_wp2
      go_ret
      exact ⟨ret_num (by omega), rfl⟩
  · go_enter Try.func58, Try.ntmps58
    go_wp2
    go_loopw [7, 8, 25] (fun _i7 _i8 i wr => i = .int .i64 0 ∧ wr = w) (fun _ _ i _ => 0)
    case atStart => exact ⟨rfl, rfl⟩
    case round =>
      obtain ⟨rfl, rfl⟩ := hrel
      go_wp2
      go_ret
      exact ⟨ret_num (by omega), rfl⟩

theorem runplainC {b off n cap : Nat} {l : List Int} {w : World} (R : RRow w b off n cap l) (k : Nat) (hk : k ≤ n) :
    Calls Try.prog 58 #[.slice (some ⟨b, off, none⟩) n cap, .int .i64 k, fn_plain] w fun e w' => e = .returned (.int .i64 (runP plainB (l.drop k))) ∧ Below w.heap.size w w' := by
  by_cases h : k < n
  · exact run_plain b off n cap l k w R.len R.le R.max h R.cells
  · obtain rfl : k = n := by omega
    have h0 : l.drop k = [] := List.drop_eq_nil_of_le (by rw [R.len]; exact Nat.le_refl _)
    rw [h0]
    exact (run_plain0 b off k cap w R.le R.max).mono fun e w' ⟨he, hw⟩ => ⟨he, hw ▸ Below.refl _ _⟩

/-- The function inEnd as a value. -/
abbrev fn_inEnd : Value := .func (.func 91) #[] #[]

set_option maxHeartbeats 1000000 in
theorem run_inEnd (b off n cap : Nat) (l : List Int) (k : Nat) (w : World) (hn : l.length = n) (hc : n ≤ cap) (hm : cap ≤ maxLen) (hk : k < n) (hat : AtCells w (some ⟨b, off, none⟩) (l.map (.int .i32))) :
    Calls Try.prog 58 #[.slice (some ⟨b, off, none⟩) n cap, .int .i64 k, fn_inEnd] w fun e w' => e = .returned (.int .i64 (runP inEndB (l.drop k))) ∧ Below w.heap.size w w' := by
  unfold maxLen at hm
  have HAT := Lib.hid hat
  have HN := Lib.hid hn
  clear hat hn
  have q1 : decide (n < k) = false := decide_eq_false (by omega)
  have q2 : decide ((k : Int) < 0) = false := decide_eq_false (by omega)
  have hfn := fun w => func_eql_nil w (.func 91) #[] #[]
  go_enter Try.func58, Try.ntmps58
  go_wp2
  go_loopw [7, 8, 25] (fun _i7 _i8 i wr => ∃ j : Nat, j ≤ n - k ∧ i = .int .i64 j ∧ Below w.heap.size w wr ∧ Hid (∀ x, x < j → inEndB ((l.drop k).getD x 0) = true)) (fun _ _ i _ => n - k - (intOf i).toNat)
  case atStart => exact ⟨0, by omega, rfl, Below.refl _ _, Lib.hid (fun x hx => by omega)⟩
  case round =>
    obtain ⟨j, hj, rfl, hbl, HJ⟩ := hrel
    by_cases hlt : j < n - k
    · have hc0 := (((HAT.out.drop k).below hbl))
      rw [← List.map_drop] at hc0
      obtain ⟨b', off', hy, hc1⟩ := hc0.int (k := j) (by have := HN.out; simp; omega)
      simp only [Option.some.injEq, Addr.mk.injEq] at hy
      obtain ⟨rfl, rfl, _⟩ := hy
      obtain ⟨z, hz⟩ : ∃ z, z = (l.drop k).getD j 0 := ⟨_, rfl⟩
      rw [← hz] at hc1
      have HZ := Lib.hid hz
      clear hz hc0
      cases hnz : inEndB z
      · have HC := Lib.hid (fun w => inEnd_at hnz w)
        have HR := Lib.hid (runP_of inEndB (l.drop k) j HJ.out (by have := HN.out; simp; omega) (by rw [← HZ.out]; exact hnz))
        clear hnz
        have HBL := Lib.hid hbl
        clear hbl
        go_wp2_with (go_at_call 91; (with_reducible refine (HC.out _).mono ?_); rintro e w1 ⟨rfl, hb1⟩)
        go_ret
        exact ⟨by rw [HR.out]; rfl, HBL.out.trans (hb1.mono HBL.out.size)⟩
      · have HC := Lib.hid (fun w => inEnd_at hnz w)
        have HK := Lib.hid (show ∀ x, x < j + 1 → inEndB ((l.drop k).getD x 0) = true from fun x hx => by
          by_cases h : x = j
          · subst h; rw [← HZ.out]; exact hnz
          · exact HJ.out x (by omega))
        clear hnz
        have HBL := Lib.hid hbl
        clear hbl
        go_wp2_with (go_at_call 91; (with_reducible refine (HC.out _).mono ?_); rintro e w1 ⟨rfl, hb1⟩)
        have HB2 := Lib.hid (HBL.out.trans (hb1.mono HBL.out.size))
        clear hb1
        go_roundw
        case rel => exact ⟨j + 1, by omega, by go_num, HB2.out, HK⟩
        case measure => simp [intOf]; omega
    · obtain rfl : j = n - k := by omega
      have HR := Lib.hid (runP_all inEndB (l.drop k) (fun x hx => HJ.out x (by have := HN.out; simp at hx; omega)))
      have HL := Lib.hid (show (l.drop k).length = n - k by have := HN.out; simp; omega)
      clear hj hlt
      go_wp2
      go_ret
      exact ⟨ret_num (by rw [HR.out, HL.out]; omega), hbl⟩


set_option maxHeartbeats 1000000 in
theorem run_inEnd0 (b off n cap : Nat) (w : World) (hc : n ≤ cap) (hm : cap ≤ maxLen) :
    Calls Try.prog 58 #[.slice (some ⟨b, off, none⟩) n cap, .int .i64 n, fn_inEnd] w fun e w' => e = .returned (.int .i64 0) ∧ w' = w := by
  unfold maxLen at hm
  have q1 : decide (n < n) = false := decide_eq_false (by omega)
  have q2 : decide ((n : Int) < 0) = false := decide_eq_false (by omega)
  have hfn := fun w => func_eql_nil w (.func 91) #[] #[]
  by_cases hcap : cap = n
  · subst hcap
    go_enter Try.func58, Try.ntmps58
    go_wp2
    go_loopw [7, 8, 25] (fun _i7 _i8 i wr => i = .int .i64 0 ∧ wr = w) (fun _ _ i _ => 0)
    case atStart => exact ⟨rfl, rfl⟩
    case round =>
      obtain ⟨rfl, rfl⟩ := hrel
      go_wp2
      go_ret
      exact ⟨ret_num (by omega), rfl⟩
  · go_enter Try.func58, Try.ntmps58
    go_wp2
    go_loopw [7, 8, 25] (fun _i7 _i8 i wr => i = .int .i64 0 ∧ wr = w) (fun _ _ i _ => 0)
    case atStart => exact ⟨rfl, rfl⟩
    case round =>
      obtain ⟨rfl, rfl⟩ := hrel
      go_wp2
      go_ret
      exact ⟨ret_num (by omega), rfl⟩

theorem runinEndC {b off n cap : Nat} {l : List Int} {w : World} (R : RRow w b off n cap l) (k : Nat) (hk : k ≤ n) :
    Calls Try.prog 58 #[.slice (some ⟨b, off, none⟩) n cap, .int .i64 k, fn_inEnd] w fun e w' => e = .returned (.int .i64 (runP inEndB (l.drop k))) ∧ Below w.heap.size w w' := by
  by_cases h : k < n
  · exact run_inEnd b off n cap l k w R.len R.le R.max h R.cells
  · obtain rfl : k = n := by omega
    have h0 : l.drop k = [] := List.drop_eq_nil_of_le (by rw [R.len]; exact Nat.le_refl _)
    rw [h0]
    exact (run_inEnd0 b off k cap w R.le R.max).mono fun e w' ⟨he, hw⟩ => ⟨he, hw ▸ Below.refl _ _⟩

/-- The function digit as a value. -/
abbrev fn_digit : Value := .func (.func 95) #[] #[]

set_option maxHeartbeats 1000000 in
theorem run_digit (b off n cap : Nat) (l : List Int) (k : Nat) (w : World) (hn : l.length = n) (hc : n ≤ cap) (hm : cap ≤ maxLen) (hk : k < n) (hat : AtCells w (some ⟨b, off, none⟩) (l.map (.int .i32))) :
    Calls Try.prog 58 #[.slice (some ⟨b, off, none⟩) n cap, .int .i64 k, fn_digit] w fun e w' => e = .returned (.int .i64 (runP digitB (l.drop k))) ∧ Below w.heap.size w w' := by
  unfold maxLen at hm
  have HAT := Lib.hid hat
  have HN := Lib.hid hn
  clear hat hn
  have q1 : decide (n < k) = false := decide_eq_false (by omega)
  have q2 : decide ((k : Int) < 0) = false := decide_eq_false (by omega)
  have hfn := fun w => func_eql_nil w (.func 95) #[] #[]
  go_enter Try.func58, Try.ntmps58
  go_wp2
  go_loopw [7, 8, 25] (fun _i7 _i8 i wr => ∃ j : Nat, j ≤ n - k ∧ i = .int .i64 j ∧ Below w.heap.size w wr ∧ Hid (∀ x, x < j → digitB ((l.drop k).getD x 0) = true)) (fun _ _ i _ => n - k - (intOf i).toNat)
  case atStart => exact ⟨0, by omega, rfl, Below.refl _ _, Lib.hid (fun x hx => by omega)⟩
  case round =>
    obtain ⟨j, hj, rfl, hbl, HJ⟩ := hrel
    by_cases hlt : j < n - k
    · have hc0 := (((HAT.out.drop k).below hbl))
      rw [← List.map_drop] at hc0
      obtain ⟨b', off', hy, hc1⟩ := hc0.int (k := j) (by have := HN.out; simp; omega)
      simp only [Option.some.injEq, Addr.mk.injEq] at hy
      obtain ⟨rfl, rfl, _⟩ := hy
      obtain ⟨z, hz⟩ : ∃ z, z = (l.drop k).getD j 0 := ⟨_, rfl⟩
      rw [← hz] at hc1
      have HZ := Lib.hid hz
      clear hz hc0
      cases hnz : digitB z
      · have HC := Lib.hid (fun w => digit_at hnz w)
        have HR := Lib.hid (runP_of digitB (l.drop k) j HJ.out (by have := HN.out; simp; omega) (by rw [← HZ.out]; exact hnz))
        clear hnz
        have HBL := Lib.hid hbl
        clear hbl
        go_wp2_with (go_at_call 95; (with_reducible refine (HC.out _).mono ?_); rintro e w1 ⟨rfl, hb1⟩)
        go_ret
        exact ⟨by rw [HR.out]; rfl, HBL.out.trans (hb1.mono HBL.out.size)⟩
      · have HC := Lib.hid (fun w => digit_at hnz w)
        have HK := Lib.hid (show ∀ x, x < j + 1 → digitB ((l.drop k).getD x 0) = true from fun x hx => by
          by_cases h : x = j
          · subst h; rw [← HZ.out]; exact hnz
          · exact HJ.out x (by omega))
        clear hnz
        have HBL := Lib.hid hbl
        clear hbl
        go_wp2_with (go_at_call 95; (with_reducible refine (HC.out _).mono ?_); rintro e w1 ⟨rfl, hb1⟩)
        have HB2 := Lib.hid (HBL.out.trans (hb1.mono HBL.out.size))
        clear hb1
        go_roundw
        case rel => exact ⟨j + 1, by omega, by go_num, HB2.out, HK⟩
        case measure => simp [intOf]; omega
    · obtain rfl : j = n - k := by omega
      have HR := Lib.hid (runP_all digitB (l.drop k) (fun x hx => HJ.out x (by have := HN.out; simp at hx; omega)))
      have HL := Lib.hid (show (l.drop k).length = n - k by have := HN.out; simp; omega)
      clear hj hlt
      go_wp2
      go_ret
      exact ⟨ret_num (by rw [HR.out, HL.out]; omega), hbl⟩


set_option maxHeartbeats 1000000 in
theorem run_digit0 (b off n cap : Nat) (w : World) (hc : n ≤ cap) (hm : cap ≤ maxLen) :
    Calls Try.prog 58 #[.slice (some ⟨b, off, none⟩) n cap, .int .i64 n, fn_digit] w fun e w' => e = .returned (.int .i64 0) ∧ w' = w := by
  unfold maxLen at hm
  have q1 : decide (n < n) = false := decide_eq_false (by omega)
  have q2 : decide ((n : Int) < 0) = false := decide_eq_false (by omega)
  have hfn := fun w => func_eql_nil w (.func 95) #[] #[]
  by_cases hcap : cap = n
  · subst hcap
    go_enter Try.func58, Try.ntmps58
    go_wp2
    go_loopw [7, 8, 25] (fun _i7 _i8 i wr => i = .int .i64 0 ∧ wr = w) (fun _ _ i _ => 0)
    case atStart => exact ⟨rfl, rfl⟩
    case round =>
      obtain ⟨rfl, rfl⟩ := hrel
      go_wp2
      go_ret
      exact ⟨ret_num (by omega), rfl⟩
  · go_enter Try.func58, Try.ntmps58
    go_wp2
    go_loopw [7, 8, 25] (fun _i7 _i8 i wr => i = .int .i64 0 ∧ wr = w) (fun _ _ i _ => 0)
    case atStart => exact ⟨rfl, rfl⟩
    case round =>
      obtain ⟨rfl, rfl⟩ := hrel
      go_wp2
      go_ret
      exact ⟨ret_num (by omega), rfl⟩

theorem rundigitC {b off n cap : Nat} {l : List Int} {w : World} (R : RRow w b off n cap l) (k : Nat) (hk : k ≤ n) :
    Calls Try.prog 58 #[.slice (some ⟨b, off, none⟩) n cap, .int .i64 k, fn_digit] w fun e w' => e = .returned (.int .i64 (runP digitB (l.drop k))) ∧ Below w.heap.size w w' := by
  by_cases h : k < n
  · exact run_digit b off n cap l k w R.len R.le R.max h R.cells
  · obtain rfl : k = n := by omega
    have h0 : l.drop k = [] := List.drop_eq_nil_of_le (by rw [R.len]; exact Nat.le_refl _)
    rw [h0]
    exact (run_digit0 b off k cap w R.le R.max).mono fun e w' ⟨he, hw⟩ => ⟨he, hw ▸ Below.refl _ _⟩

/-- The function hex as a value. -/
abbrev fn_hex : Value := .func (.func 94) #[] #[]

set_option maxHeartbeats 1000000 in
theorem run_hex (b off n cap : Nat) (l : List Int) (k : Nat) (w : World) (hn : l.length = n) (hc : n ≤ cap) (hm : cap ≤ maxLen) (hk : k < n) (hat : AtCells w (some ⟨b, off, none⟩) (l.map (.int .i32))) :
    Calls Try.prog 58 #[.slice (some ⟨b, off, none⟩) n cap, .int .i64 k, fn_hex] w fun e w' => e = .returned (.int .i64 (runP hexB (l.drop k))) ∧ Below w.heap.size w w' := by
  unfold maxLen at hm
  have HAT := Lib.hid hat
  have HN := Lib.hid hn
  clear hat hn
  have q1 : decide (n < k) = false := decide_eq_false (by omega)
  have q2 : decide ((k : Int) < 0) = false := decide_eq_false (by omega)
  have hfn := fun w => func_eql_nil w (.func 94) #[] #[]
  go_enter Try.func58, Try.ntmps58
  go_wp2
  go_loopw [7, 8, 25] (fun _i7 _i8 i wr => ∃ j : Nat, j ≤ n - k ∧ i = .int .i64 j ∧ Below w.heap.size w wr ∧ Hid (∀ x, x < j → hexB ((l.drop k).getD x 0) = true)) (fun _ _ i _ => n - k - (intOf i).toNat)
  case atStart => exact ⟨0, by omega, rfl, Below.refl _ _, Lib.hid (fun x hx => by omega)⟩
  case round =>
    obtain ⟨j, hj, rfl, hbl, HJ⟩ := hrel
    by_cases hlt : j < n - k
    · have hc0 := (((HAT.out.drop k).below hbl))
      rw [← List.map_drop] at hc0
      obtain ⟨b', off', hy, hc1⟩ := hc0.int (k := j) (by have := HN.out; simp; omega)
      simp only [Option.some.injEq, Addr.mk.injEq] at hy
      obtain ⟨rfl, rfl, _⟩ := hy
      obtain ⟨z, hz⟩ : ∃ z, z = (l.drop k).getD j 0 := ⟨_, rfl⟩
      rw [← hz] at hc1
      have HZ := Lib.hid hz
      clear hz hc0
      cases hnz : hexB z
      · have HC := Lib.hid (fun w => hex_at hnz w)
        have HR := Lib.hid (runP_of hexB (l.drop k) j HJ.out (by have := HN.out; simp; omega) (by rw [← HZ.out]; exact hnz))
        clear hnz
        have HBL := Lib.hid hbl
        clear hbl
        go_wp2_with (go_at_call 94; (with_reducible refine (HC.out _).mono ?_); rintro e w1 ⟨rfl, hb1⟩)
        go_ret
        exact ⟨by rw [HR.out]; rfl, HBL.out.trans (hb1.mono HBL.out.size)⟩
      · have HC := Lib.hid (fun w => hex_at hnz w)
        have HK := Lib.hid (show ∀ x, x < j + 1 → hexB ((l.drop k).getD x 0) = true from fun x hx => by
          by_cases h : x = j
          · subst h; rw [← HZ.out]; exact hnz
          · exact HJ.out x (by omega))
        clear hnz
        have HBL := Lib.hid hbl
        clear hbl
        go_wp2_with (go_at_call 94; (with_reducible refine (HC.out _).mono ?_); rintro e w1 ⟨rfl, hb1⟩)
        have HB2 := Lib.hid (HBL.out.trans (hb1.mono HBL.out.size))
        clear hb1
        go_roundw
        case rel => exact ⟨j + 1, by omega, by go_num, HB2.out, HK⟩
        case measure => simp [intOf]; omega
    · obtain rfl : j = n - k := by omega
      have HR := Lib.hid (runP_all hexB (l.drop k) (fun x hx => HJ.out x (by have := HN.out; simp at hx; omega)))
      have HL := Lib.hid (show (l.drop k).length = n - k by have := HN.out; simp; omega)
      clear hj hlt
      go_wp2
      go_ret
      exact ⟨ret_num (by rw [HR.out, HL.out]; omega), hbl⟩


set_option maxHeartbeats 1000000 in
theorem run_hex0 (b off n cap : Nat) (w : World) (hc : n ≤ cap) (hm : cap ≤ maxLen) :
    Calls Try.prog 58 #[.slice (some ⟨b, off, none⟩) n cap, .int .i64 n, fn_hex] w fun e w' => e = .returned (.int .i64 0) ∧ w' = w := by
  unfold maxLen at hm
  have q1 : decide (n < n) = false := decide_eq_false (by omega)
  have q2 : decide ((n : Int) < 0) = false := decide_eq_false (by omega)
  have hfn := fun w => func_eql_nil w (.func 94) #[] #[]
  by_cases hcap : cap = n
  · subst hcap
    go_enter Try.func58, Try.ntmps58
    go_wp2
    go_loopw [7, 8, 25] (fun _i7 _i8 i wr => i = .int .i64 0 ∧ wr = w) (fun _ _ i _ => 0)
    case atStart => exact ⟨rfl, rfl⟩
    case round =>
      obtain ⟨rfl, rfl⟩ := hrel
      go_wp2
      go_ret
      exact ⟨ret_num (by omega), rfl⟩
  · go_enter Try.func58, Try.ntmps58
    go_wp2
    go_loopw [7, 8, 25] (fun _i7 _i8 i wr => i = .int .i64 0 ∧ wr = w) (fun _ _ i _ => 0)
    case atStart => exact ⟨rfl, rfl⟩
    case round =>
      obtain ⟨rfl, rfl⟩ := hrel
      go_wp2
      go_ret
      exact ⟨ret_num (by omega), rfl⟩

theorem runhexC {b off n cap : Nat} {l : List Int} {w : World} (R : RRow w b off n cap l) (k : Nat) (hk : k ≤ n) :
    Calls Try.prog 58 #[.slice (some ⟨b, off, none⟩) n cap, .int .i64 k, fn_hex] w fun e w' => e = .returned (.int .i64 (runP hexB (l.drop k))) ∧ Below w.heap.size w w' := by
  by_cases h : k < n
  · exact run_hex b off n cap l k w R.len R.le R.max h R.cells
  · obtain rfl : k = n := by omega
    have h0 : l.drop k = [] := List.drop_eq_nil_of_le (by rw [R.len]; exact Nat.le_refl _)
    rw [h0]
    exact (run_hex0 b off k cap w R.le R.max).mono fun e w' ⟨he, hw⟩ => ⟨he, hw ▸ Below.refl _ _⟩

end Go.Proofs.Ytbljgoieieoamaa
