/-
  Contracts of layer 5: how many runes a name has, the program's and the reference's.
-/
import Derived.Test.YtbljgoieieoamaaClsC
import Derived.Outline
namespace Go.Proofs.Ytbljgoieieoamaa
open Go.RowKit
set_option linter.unusedVariables false

/-- How many of a row, from its beginning on, may stand in a name. -/
def run (l : List Int) : Nat := (l.takeWhile nameB).length
/-- How many runes a name has that begins at a place; 0: none. -/
def leadN (l : List Int) (k : Int) : Int := if k < 0 ∨ (l.length : Int) ≤ k then 0 else if startB (l.getD k.toNat 0) then run (l.drop k.toNat) else 0

theorem run_le (l : List Int) : run l ≤ l.length := by unfold run; exact (List.takeWhile_prefix _).length_le
theorem run_of (l : List Int) (k : Nat) (h1 : ∀ j, j < k → nameB (l.getD j 0) = true) (hk : k < l.length) (h2 : nameB (l.getD k 0) = false) : run l = k := by
  induction l generalizing k with
  | nil => simp at hk
  | cons x l ih =>
    cases k with
    | zero => simp only [List.getD_cons_zero] at h2; simp [run, h2]
    | succ k =>
      have hx : nameB x = true := by simpa using h1 0 (by omega)
      have := ih k (fun j hj => by simpa using h1 (j + 1) (by omega)) (by simpa using hk) (by simpa using h2)
      unfold run at this ⊢
      rw [List.takeWhile_cons, if_pos hx, List.length_cons, this]
theorem run_all (l : List Int) (h : ∀ j, j < l.length → nameB (l.getD j 0) = true) : run l = l.length := by
  induction l with
  | nil => rfl
  | cons x l ih =>
    have hx : nameB x = true := by simpa using h 0 (by simp)
    have := ih (fun j hj => by simpa using h (j + 1) (by simpa using hj))
    unfold run at this ⊢
    rw [List.takeWhile_cons, if_pos hx, List.length_cons, this, List.length_cons]

theorem ret_num {a b : Int} (h : a = b) : Ending.returned (.int .i64 a) = .returned (.int .i64 b) := by rw [h]

/-- The function NameChar as a value. -/
abbrev fnChar : Value := .func (.func 107) #[] #[]

theorem func_equal_nil (w : World) (d : Nat) (f : Fn) (a c : Array Value) : (Op.equalIn (d + 1) 83 (.func f a c) .nilFunc).run Try.prog w = .ok false w := by
  have h := Try.underlying83
  unfold Op.equalIn
  simp [run_underlying h]
theorem func_eql_nil (w : World) (f : Fn) (a c : Array Value) : (binOp .eql 83 (.func f a c) .nilFunc).run Try.prog w = .ok (.bool false) w := by
  simp only [binOp]
  simp [Op.equal, Op.maxDepth, func_equal_nil w 9999 f a c]
theorem func_neq_nil (w : World) (f : Fn) (a c : Array Value) : (binOp .neq 83 (.func f a c) .nilFunc).run Try.prog w = .ok (.bool true) w := by
  simp only [binOp]
  simp [Op.equal, Op.maxDepth, func_equal_nil w 9999 f a c]

set_option maxHeartbeats 1000000 in
theorem run_any (b off n cap : Nat) (l : List Int) (k : Nat) (w : World) (hn : l.length = n) (hc : n ≤ cap) (hm : cap ≤ maxLen) (hk : k < n) (hat : AtCells w (some ⟨b, off, none⟩) (l.map (.int .i32))) :
    Calls Try.prog 58 #[.slice (some ⟨b, off, none⟩) n cap, .int .i64 k, fnChar] w fun e w' => e = .returned (.int .i64 (run (l.drop k))) ∧ Below w.heap.size w w' := by
  unfold maxLen at hm
  have HAT := Lib.hid hat
  have HN := Lib.hid hn
  clear hat hn
  have q1 : decide (n < k) = false := decide_eq_false (by omega)
  have q2 : decide ((k : Int) < 0) = false := decide_eq_false (by omega)
  have hfn := fun w => func_eql_nil w (.func 107) #[] #[]
  go_enter Try.func58, Try.ntmps58
  go_wp2
  go_loopw [7, 8, 25] (fun _i7 _i8 i wr => ∃ j : Nat, j ≤ n - k ∧ i = .int .i64 j ∧ Below w.heap.size w wr ∧ Hid (∀ x, x < j → nameB ((l.drop k).getD x 0) = true)) (fun _ _ i _ => n - k - (intOf i).toNat)
  case atStart => exact ⟨0, by omega, rfl, Below.refl _ _, Lib.hid (fun x hx => by omega)⟩
  case round =>
    obtain ⟨j, hj, rfl, hbl, HJ⟩ := hrel
    by_cases hlt : j < n - k
    · have hc0 := (((HAT.out.drop k).below hbl))
      rw [← List.map_drop] at hc0
      obtain ⟨b', off', hy, hc1⟩ := hc0.int (k := j) (by have := HN.out; simp; omega)
      simp only [Option.some.injEq, Addr.mk.injEq] at hy
      obtain ⟨rfl, rfl, _⟩ := hy
      obtain ⟨z, hz⟩ : ∃ z, z = (l.drop k).getD j 0 := ⟨_, rfl⟩
      rw [← hz] at hc1
      have HZ := Lib.hid hz
      clear hz hc0
      cases hnz : nameB z
      · have HC := Lib.hid (fun w => name_at hnz w)
        have HR := Lib.hid (run_of (l.drop k) j HJ.out (by have := HN.out; simp; omega) (by rw [← HZ.out]; exact hnz))
        clear hnz
        have HBL := Lib.hid hbl
        clear hbl
        go_wp2_with (go_at_call 107; (with_reducible refine (HC.out _).mono ?_); rintro e w1 ⟨rfl, hb1⟩)
        go_ret
        exact ⟨by rw [HR.out]; rfl, HBL.out.trans (hb1.mono HBL.out.size)⟩
      · have HC := Lib.hid (fun w => name_at hnz w)
        have HK := Lib.hid (show ∀ x, x < j + 1 → nameB ((l.drop k).getD x 0) = true from fun x hx => by
          by_cases h : x = j
          · subst h; rw [← HZ.out]; exact hnz
          · exact HJ.out x (by omega))
        clear hnz
        have HBL := Lib.hid hbl
        clear hbl
        go_wp2_with (go_at_call 107; (with_reducible refine (HC.out _).mono ?_); rintro e w1 ⟨rfl, hb1⟩)
        have HB2 := Lib.hid (HBL.out.trans (hb1.mono HBL.out.size))
        clear hb1
        go_roundw
        case rel => exact ⟨j + 1, by omega, by go_num, HB2.out, HK⟩
        case measure => simp [intOf]; omega
    · obtain rfl : j = n - k := by omega
      have HR := Lib.hid (run_all (l.drop k) (fun x hx => HJ.out x (by have := HN.out; simp at hx; omega)))
      have HL := Lib.hid (show (l.drop k).length = n - k by have := HN.out; simp; omega)
      clear hj hlt
      go_wp2
      go_ret
      exact ⟨ret_num (by rw [HR.out, HL.out]; omega), hbl⟩

set_option maxHeartbeats 1000000 in
theorem lead_any (a : Option Addr) (n cap : Nat) (l : List Int) (k : Int) (w : World) (hn : l.length = n) (hc : n ≤ cap) (hm : cap ≤ maxLen) (hat : AtCells w a (l.map (.int .i32))) :
    Calls Try.prog 96 #[.slice a n cap, .int .i64 k] w fun e w' => e = .returned (.int .i64 (leadN l k)) ∧ Below w.heap.size w w' := by
  by_cases h0 : k < 0
  · have HR := Lib.hid (show leadN l k = 0 by unfold leadN; rw [if_pos (.inl h0)])
    go_enter Try.func96, Try.ntmps96
    go_wp2
    go_ret
    exact ⟨by rw [HR.out]; rfl, Below.refl _ _⟩
  · obtain ⟨k, rfl⟩ : ∃ j : Nat, k = j := ⟨k.toNat, by omega⟩
    clear h0
    by_cases h1 : n ≤ k
    · have HR := Lib.hid (show leadN l k = 0 by unfold leadN; rw [if_pos (.inr (by omega))])
      have h1' : (n : Int) ≤ k := by omega
      go_enter Try.func96, Try.ntmps96
      go_wp2
      go_ret
      exact ⟨by rw [HR.out]; rfl, Below.refl _ _⟩
    · have h1' : (k : Int) < n := by omega
      obtain ⟨b, off, rfl, hc1⟩ := hat.int (k := k) (by omega)
      have HRN := Lib.hid (fun w' (hb : Below w.heap.size w w') => run_any b off n cap l k w' hn hc hm (by omega) (hat.below hb))
      have hld : leadN l k = if startB (l.getD k 0) then (run (l.drop k) : Int) else 0 := by unfold leadN; rw [if_neg (by omega), Int.toNat_natCast]
      obtain ⟨z, hz⟩ : ∃ z, z = l.getD k 0 := ⟨_, rfl⟩
      rw [← hz] at hc1 hld
      unfold maxLen at hm
      cases hs : startB z
      · have HS := Lib.hid (fun w => start_at hs w)
        have HR := Lib.hid (show leadN l k = 0 by rw [hld, hs]; rfl)
        clear hs hz hld hat hn h1
        go_enter Try.func96, Try.ntmps96
        go_wp2_with (go_at_call 92; (with_reducible refine (HS.out _).mono ?_); rintro e w1 ⟨rfl, hb1⟩)
        go_ret
        exact ⟨by rw [HR.out]; rfl, hb1⟩
      · have HS := Lib.hid (fun w => start_at hs w)
        have HR := Lib.hid (show leadN l k = (run (l.drop k) : Int) by rw [hld, hs]; rfl)
        clear hs hz hld hat hn h1
        go_enter Try.func96, Try.ntmps96
        go_wp2_with (first
          | (go_at_call 92; (with_reducible refine (HS.out _).mono ?_); rintro e w1 ⟨rfl, hb1⟩; have HB1 := Lib.hid hb1; clear hb1)
          | (go_at_call 58; (refine (HRN.out _ HB1.out).mono ?_); rintro e w2 ⟨rfl, hb2⟩))
        go_ret
        exact ⟨by rw [HR.out]; rfl, HB1.out.trans (hb2.mono HB1.out.size)⟩

theorem refStart_at {r : Int} {b : Bool} (h : startB r = b) (w : World) :
    Calls Try.prog 65 #[.int .i32 r] w fun e w' => e = .returned (.bool b) ∧ w = w' := h ▸ refStart_any r w
theorem refName_at {r : Int} {b : Bool} (h : nameB r = b) (w : World) :
    Calls Try.prog 103 #[.int .i32 r] w fun e w' => e = .returned (.bool b) ∧ w = w' := h ▸ refName_any r w
theorem start_is_name {r : Int} (h : startB r = true) : nameB r = true := by simp [nameB, h]

set_option maxHeartbeats 1000000 in
theorem refLead_any (a : Option Addr) (n cap : Nat) (l : List Int) (k : Int) (w : World) (hn : l.length = n) (hc : n ≤ cap) (hm : cap ≤ maxLen) (hat : AtCells w a (l.map (.int .i32))) :
    Calls Try.prog 86 #[.slice a n cap, .int .i64 k] w fun e w' => e = .returned (.int .i64 (leadN l k)) ∧ w = w' := by
  by_cases h0 : k < 0
  · have HR := Lib.hid (show leadN l k = 0 by unfold leadN; rw [if_pos (.inl h0)])
    go_enter Try.func86, Try.ntmps86
    go_wp2
    go_ret
    exact ⟨by rw [HR.out]; rfl, rfl⟩
  · obtain ⟨k, rfl⟩ : ∃ j : Nat, k = j := ⟨k.toNat, by omega⟩
    clear h0
    by_cases h1 : n ≤ k
    · have HR := Lib.hid (show leadN l k = 0 by unfold leadN; rw [if_pos (.inr (by omega))])
      have h1' : (n : Int) ≤ k := by omega
      go_enter Try.func86, Try.ntmps86
      go_wp2
      go_ret
      exact ⟨by rw [HR.out]; rfl, rfl⟩
    · have h1' : (k : Int) < n := by omega
      obtain ⟨b, off, rfl, hc1⟩ := hat.int (k := k) (by omega)
      have hld : leadN l k = if startB (l.getD k 0) then (run (l.drop k) : Int) else 0 := by unfold leadN; rw [if_neg (by omega), Int.toNat_natCast]
      obtain ⟨z, hz⟩ : ∃ z, z = l.getD k 0 := ⟨_, rfl⟩
      rw [← hz] at hc1 hld
      unfold maxLen at hm
      have q1 : decide (n ≤ k) = false := decide_eq_false (by omega)
      have q2 : decide ((k : Int) < 0) = false := decide_eq_false (by omega)
      cases hs : startB z
      · have HS := Lib.hid (fun w => refStart_at hs w)
        have HR := Lib.hid (show leadN l k = 0 by rw [hld, hs]; rfl)
        clear hs hz hld hat hn h1
        go_enter Try.func86, Try.ntmps86
        go_wp2_with (go_at_call 65; (with_reducible refine (HS.out _).mono ?_); rintro e w1 ⟨rfl, rfl⟩)
        go_ret
        exact ⟨by rw [HR.out]; rfl, rfl⟩
      · have HS := Lib.hid (fun w => refStart_at hs w)
        have HR := Lib.hid (show leadN l k = (run (l.drop k) : Int) by rw [hld, hs]; rfl)
        have hdr : (l.drop k).length = n - k := by simp; omega
        have H0 := Lib.hid (show ∀ x, x < 1 → nameB ((l.drop k).getD x 0) = true from fun x hx => by
          obtain rfl : x = 0 := by omega
          have : (l.drop k).getD 0 0 = z := by rw [hz]; simp
          rw [this]; exact start_is_name hs)
        have HAT := Lib.hid (hat.drop k)
        have HN := Lib.hid hdr
        clear hs hz hld hat hn h1 hdr
        go_enter Try.func86, Try.ntmps86
        go_wp2_with (go_at_call 65; (with_reducible refine (HS.out _).mono ?_); rintro e w1 ⟨rfl, rfl⟩)
        go_loop [5] (fun i => ∃ j : Nat, 1 ≤ j ∧ k + j ≤ n ∧ i = .int .i64 j ∧ Hid (∀ x, x < j → nameB ((l.drop k).getD x 0) = true)) (fun i => n - k - (intOf i).toNat)
        case atStart => exact ⟨1, by omega, by omega, rfl, H0⟩
        case round =>
          obtain ⟨j, hj1, hj, rfl, HJ⟩ := hrel
          by_cases hlt : k + j < n
          · have hc0 := HAT.out
            rw [← List.map_drop] at hc0
            obtain ⟨b', off', hy, hc2⟩ := hc0.int (k := j) (by rw [HN.out]; omega)
            simp only [Option.some.injEq, Addr.mk.injEq] at hy
            obtain ⟨rfl, rfl, _⟩ := hy
            obtain ⟨y, hy⟩ : ∃ y, y = (l.drop k).getD j 0 := ⟨_, rfl⟩
            rw [← hy, Nat.add_assoc] at hc2
            have HY := Lib.hid hy
            have hlt' : (k : Int) + j < n := by omega
            clear hy hc0
            cases hnz : nameB y
            · have HC := Lib.hid (fun w => refName_at hnz w)
              have HRR := Lib.hid (run_of (l.drop k) j HJ.out (by rw [HN.out]; omega) (by rw [← HY.out]; exact hnz))
              clear hnz
              go_wp2_with (go_at_call 103; (with_reducible refine (HC.out _).mono ?_); rintro e w1 ⟨rfl, rfl⟩)
              go_ret
              exact ⟨by rw [HR.out, HRR.out]; rfl, rfl⟩
            · have HC := Lib.hid (fun w => refName_at hnz w)
              have HK := Lib.hid (show ∀ x, x < j + 1 → nameB ((l.drop k).getD x 0) = true from fun x hx => by
                by_cases h : x = j
                · subst h; rw [← HY.out]; exact hnz
                · exact HJ.out x (by omega))
              clear hnz
              go_wp2_with (go_at_call 103; (with_reducible refine (HC.out _).mono ?_); rintro e w1 ⟨rfl, rfl⟩)
              go_round
              case rel => exact ⟨j + 1, by omega, by omega, by go_num, HK⟩
              case measure => simp [intOf]; omega
          · have hjj : k + j = n := by omega
            have HRR := Lib.hid (run_all (l.drop k) (fun x hx => HJ.out x (by rw [HN.out] at hx; omega)))
            have hge : (n : Int) ≤ k + j := by omega
            clear hjj hlt
            go_wp2
            go_ret
            exact ⟨ret_num (by rw [HR.out, HRR.out, HN.out]; omega), rfl⟩

end Go.Proofs.Ytbljgoieieoamaa
