/-
  refs: what is plain; how far a row without & goes; what digits are worth.
-/
import Derived.Test.YtbljgoieieoamaaLexI
import Derived.Test.YtbljgoieieoamaaScanR
namespace Go.Proofs.Ytbljgoieieoamaa
open Go.RowKit
set_option linter.unusedVariables false

theorem ret32 {a b : Int} (h : a = b) : Ending.returned (.int .i32 a) = .returned (.int .i32 b) := by rw [h]
def ampB (r : Int) : Bool := !(r == 38)
/-- The worth of a digit of sixteen; 0: it is none. -/
def hexV (r : Int) : Int := if 97 ≤ r ∧ r ≤ 102 then r - 87 else if 65 ≤ r ∧ r ≤ 70 then r - 55 else if 48 ≤ r ∧ r ≤ 57 then r - 48 else 0
theorem hexV_le (r : Int) : 0 ≤ hexV r ∧ hexV r ≤ 15 := by
  unfold hexV
  split
  · omega
  split
  · omega
  split
  · omega
  · omega
def worthF (base : Int) (n r : Int) : Int := min (n * base + hexV r) 1114112
def worthP (base : Int) (l : List Int) : Int := l.foldl (worthF base) 0
theorem worthP_snoc (base : Int) (l : List Int) (k : Nat) (hk : k < l.length) : worthP base (l.take (k + 1)) = worthF base (worthP base (l.take k)) (l.getD k 0) := by
  unfold worthP
  rw [List.take_succ_eq_append_getElem hk, List.foldl_append, List.getD_eq_getElem?_getD, List.getElem?_eq_getElem hk]
  rfl
theorem worthF_bd (base n r : Int) (hb : 0 ≤ base) (h0 : 0 ≤ n) : 0 ≤ worthF base n r ∧ worthF base n r ≤ 1114112 := by
  have h1 := hexV_le r
  have h2 : 0 ≤ n * base := Int.mul_nonneg h0 hb
  unfold worthF
  omega

set_option maxHeartbeats 400000 in
theorem amp_at {r : Int} {v : Bool} (h : ampB r = v) (w : World) :
    Calls Try.prog 59 #[.int .i32 r] w fun e w' => e = .returned (.bool v) ∧ Below w.heap.size w w' := by
  have HV := Lib.hid h
  unfold ampB at h
  go_enter Try.func59, Try.ntmps59
  go_wp2
  all_goals
    go_ret
    refine ⟨ret_bool ?_, Below.refl _ _⟩
    rw [← HV.out]
    unfold ampB
    simp_all [bne]

/-- The function amp as a value. -/
abbrev fn_amp : Value := .func (.func 59) #[] #[]

set_option maxHeartbeats 1000000 in
theorem run_amp (b off n cap : Nat) (l : List Int) (k : Nat) (w : World) (hn : l.length = n) (hc : n ≤ cap) (hm : cap ≤ maxLen) (hk : k < n) (hat : AtCells w (some ⟨b, off, none⟩) (l.map (.int .i32))) :
    Calls Try.prog 58 #[.slice (some ⟨b, off, none⟩) n cap, .int .i64 k, fn_amp] w fun e w' => e = .returned (.int .i64 (runP ampB (l.drop k))) ∧ Below w.heap.size w w' := by
  unfold maxLen at hm
  have HAT := Lib.hid hat
  have HN := Lib.hid hn
  clear hat hn
  have q1 : decide (n < k) = false := decide_eq_false (by omega)
  have q2 : decide ((k : Int) < 0) = false := decide_eq_false (by omega)
  have hfn := fun w => func_eql_nil w (.func 59) #[] #[]
  go_enter Try.func58, Try.ntmps58
  go_wp2
  go_loopw [7, 8, 25] (fun _i7 _i8 i wr => ∃ j : Nat, j ≤ n - k ∧ i = .int .i64 j ∧ Below w.heap.size w wr ∧ Hid (∀ x, x < j → ampB ((l.drop k).getD x 0) = true)) (fun _ _ i _ => n - k - (intOf i).toNat)
  case atStart => exact ⟨0, by omega, rfl, Below.refl _ _, Lib.hid (fun x hx => by omega)⟩
  case round =>
    obtain ⟨j, hj, rfl, hbl, HJ⟩ := hrel
    by_cases hlt : j < n - k
    · have hc0 := (((HAT.out.drop k).below hbl))
      rw [← List.map_drop] at hc0
      obtain ⟨b', off', hy, hc1⟩ := hc0.int (k := j) (by have := HN.out; simp; omega)
      simp only [Option.some.injEq, Addr.mk.injEq] at hy
      obtain ⟨rfl, rfl, _⟩ := hy
      obtain ⟨z, hz⟩ : ∃ z, z = (l.drop k).getD j 0 := ⟨_, rfl⟩
      rw [← hz] at hc1
      have HZ := Lib.hid hz
      clear hz hc0
      cases hnz : ampB z
      · have HC := Lib.hid (fun w => amp_at hnz w)
        have HR := Lib.hid (runP_of ampB (l.drop k) j HJ.out (by have := HN.out; simp; omega) (by rw [← HZ.out]; exact hnz))
        clear hnz
        have HBL := Lib.hid hbl
        clear hbl
        go_wp2_with (go_at_call 59; (with_reducible refine (HC.out _).mono ?_); rintro e w1 ⟨rfl, hb1⟩)
        go_ret
        exact ⟨by rw [HR.out]; rfl, HBL.out.trans (hb1.mono HBL.out.size)⟩
      · have HC := Lib.hid (fun w => amp_at hnz w)
        have HK := Lib.hid (show ∀ x, x < j + 1 → ampB ((l.drop k).getD x 0) = true from fun x hx => by
          by_cases h : x = j
          · subst h; rw [← HZ.out]; exact hnz
          · exact HJ.out x (by omega))
        clear hnz
        have HBL := Lib.hid hbl
        clear hbl
        go_wp2_with (go_at_call 59; (with_reducible refine (HC.out _).mono ?_); rintro e w1 ⟨rfl, hb1⟩)
        have HB2 := Lib.hid (HBL.out.trans (hb1.mono HBL.out.size))
        clear hb1
        go_roundw
        case rel => exact ⟨j + 1, by omega, by go_num, HB2.out, HK⟩
        case measure => simp [intOf]; omega
    · obtain rfl : j = n - k := by omega
      have HR := Lib.hid (runP_all ampB (l.drop k) (fun x hx => HJ.out x (by have := HN.out; simp at hx; omega)))
      have HL := Lib.hid (show (l.drop k).length = n - k by have := HN.out; simp; omega)
      clear hj hlt
      go_wp2
      go_ret
      exact ⟨ret_num (by rw [HR.out, HL.out]; omega), hbl⟩


set_option maxHeartbeats 1000000 in
theorem run_amp0 (b off n cap : Nat) (w : World) (hc : n ≤ cap) (hm : cap ≤ maxLen) :
    Calls Try.prog 58 #[.slice (some ⟨b, off, none⟩) n cap, .int .i64 n, fn_amp] w fun e w' => e = .returned (.int .i64 0) ∧ w' = w := by
  unfold maxLen at hm
  have q1 : decide (n < n) = false := decide_eq_false (by omega)
  have q2 : decide ((n : Int) < 0) = false := decide_eq_false (by omega)
  have hfn := fun w => func_eql_nil w (.func 59) #[] #[]
  by_cases hcap : cap = n
  · subst hcap
    go_enter Try.func58, Try.ntmps58
    go_wp2
    go_loopw [7, 8, 25] (fun _i7 _i8 i wr => i = .int .i64 0 ∧ wr = w) (fun _ _ i _ => 0)
    case atStart => exact ⟨rfl, rfl⟩
    case round =>
      obtain ⟨rfl, rfl⟩ := hrel
      go_wp2
      go_ret
      exact ⟨ret_num (by omega), rfl⟩
  · go_enter Try.func58, Try.ntmps58
    go_wp2
    go_loopw [7, 8, 25] (fun _i7 _i8 i wr => i = .int .i64 0 ∧ wr = w) (fun _ _ i _ => 0)
    case atStart => exact ⟨rfl, rfl⟩
    case round =>
      obtain ⟨rfl, rfl⟩ := hrel
      go_wp2
      go_ret
      exact ⟨ret_num (by omega), rfl⟩

theorem runampC {b off n cap : Nat} {l : List Int} {w : World} (R : RRow w b off n cap l) (k : Nat) (hk : k ≤ n) :
    Calls Try.prog 58 #[.slice (some ⟨b, off, none⟩) n cap, .int .i64 k, fn_amp] w fun e w' => e = .returned (.int .i64 (runP ampB (l.drop k))) ∧ Below w.heap.size w w' := by
  by_cases h : k < n
  · exact run_amp b off n cap l k w R.len R.le R.max h R.cells
  · obtain rfl : k = n := by omega
    have h0 : l.drop k = [] := List.drop_eq_nil_of_le (by rw [R.len]; exact Nat.le_refl _)
    rw [h0]
    exact (run_amp0 b off k cap w R.le R.max).mono fun e w' ⟨he, hw⟩ => ⟨he, hw ▸ Below.refl _ _⟩


theorem runampB {b off n cap : Nat} {l : List Int} {W : World} (R : RRow W b off n cap l) (k : Nat) (hk : k ≤ n) {q : Nat} (hq : runP ampB (l.drop k) = q) (w : World) (hb : Below W.heap.size W w) :
    Says 58 #[.slice (some ⟨b, off, none⟩) n cap, .int .i64 k, fn_amp] (.int .i64 q) W w :=
  (runampC (R.below hb) k hk).mono fun e w' ⟨he, hw⟩ => ⟨hq ▸ he, Below.more hb hw⟩

set_option maxHeartbeats 1000000 in
theorem hexV_any (r : Int) (w : World) :
    Calls Try.prog 73 #[.int .i32 r] w fun e w' => e = .returned (.tuple #[.int .i64 (hexV r), .bool (hexB r)]) ∧ w = w' := by
  by_cases h1 : 97 ≤ r ∧ r ≤ 102
  · obtain ⟨h1, h2⟩ := h1
    have HV := Lib.hid (show hexB r = true by simp [hexB, h1, h2])
    go_enter Try.func73, Try.ntmps73
    go_wp2
    go_ret2
    exact ⟨ret_ib (by unfold hexV; (repeat (first | rw [if_pos ⟨by omega, by omega⟩] | rw [if_neg (by omega)])); omega) HV.out.symm, rfl⟩
  · by_cases h2 : 65 ≤ r ∧ r ≤ 70
    · obtain ⟨h2, h3⟩ := h2
      have h1' : ¬ 97 ≤ r := by omega
      have HV := Lib.hid (show hexB r = true by simp [hexB, h2, h3])
      clear h1
      go_enter Try.func73, Try.ntmps73
      go_wp2
      go_ret2
      exact ⟨ret_ib (by unfold hexV; (repeat (first | rw [if_pos ⟨by omega, by omega⟩] | rw [if_neg (by omega)])); omega) HV.out.symm, rfl⟩
    · by_cases h0 : 48 ≤ r ∧ r ≤ 57
      · have HV := Lib.hid (show hexB r = true by simp [hexB, h0.1, h0.2])
        have HW := Lib.hid (show hexV r = r - 48 by unfold hexV; rw [if_neg h1, if_neg h2, if_pos h0])
        have HD := Lib.hid (fun w => digit_yes r w h0.1 h0.2)
        have h1' : ¬ 97 ≤ r := by omega
        have h2' : ¬ 65 ≤ r := by omega
        clear h0 h1 h2
        go_enter Try.func73, Try.ntmps73
        go_wp2_with (go_at_call 97; (with_reducible refine (HD.out _).mono ?_); rintro e w1 ⟨rfl, rfl⟩)
        go_ret2
        exact ⟨ret_ib (by rw [HW.out]) HV.out.symm, rfl⟩
      · have HV := Lib.hid (show hexB r = false by unfold hexB; simp; omega)
        have HW := Lib.hid (show hexV r = 0 by unfold hexV; rw [if_neg h1, if_neg h2, if_neg h0])
        have HD := Lib.hid (fun w => digit_no r w (by omega))
        clear h0
        go_enter Try.func73, Try.ntmps73
        go_wp2_with (go_at_call 97; (with_reducible refine (HD.out _).mono ?_); rintro e w1 ⟨rfl, rfl⟩)
        all_goals first
          | (exfalso; omega)
          | (go_ret2
             exact ⟨ret_ib (by rw [HW.out]) HV.out.symm, rfl⟩)


set_option maxHeartbeats 1000000 in
theorem worth_any (a : Option Addr) (n cap : Nat) (l : List Int) (base : Int) (w : World) (hn : l.length = n) (hbig : n ≤ 1000000) (hb : 0 ≤ base ∧ base ≤ 16) (hat : AtCells w a (l.map (.int .i32))) :
    Calls Try.prog 44 #[.slice a n cap, .int .i32 base] w fun e w' => e = .returned (.int .i32 (worthP base l)) ∧ Below w.heap.size w w' := by
  obtain ⟨hb0, hb1⟩ := hb
  have HAT := Lib.hid hat
  have HN := Lib.hid hn
  clear hat hn
  go_enter Try.func44, Try.ntmps44
  go_wp2
  go_loopw [5, 12] (fun v i wr => ∃ (k : Nat) (m : Int), k ≤ n ∧ i = .int .i64 k ∧ v = .int .i32 m ∧ 0 ≤ m ∧ m ≤ 1114112 ∧ Hid (m = worthP base (l.take k)) ∧ Hid (Below w.heap.size w wr)) (fun _ i _ => n - (intOf i).toNat)
  case atStart => exact ⟨0, 0, Nat.zero_le _, rfl, rfl, by omega, by omega, Lib.hid rfl, Lib.hid (Below.refl _ _)⟩
  case round =>
    obtain ⟨k, m, hk, rfl, rfl, hm0, hm1, HM, HBL⟩ := hrel
    by_cases hlt : k < n
    · obtain ⟨b, off, rfl, hc⟩ := (HAT.out.below HBL.out).int (k := k) (by rw [HN.out]; exact hlt)
      obtain ⟨z, hz⟩ : ∃ z, z = l.getD k 0 := ⟨_, rfl⟩
      rw [← hz] at hc
      have HX := Lib.hid (show worthP base (l.take (k + 1)) = worthF base m z by rw [worthP_snoc base l k (by rw [HN.out]; exact hlt), ← HM.out, hz])
      obtain ⟨d, hd⟩ : ∃ d, d = hexV z := ⟨_, rfl⟩
      have HH := Lib.hid (fun w => hexV_any z w)
      rw [← hd] at HH
      have hd0 := hexV_le z
      have hbd := worthF_bd base m z hb0 hm0
      obtain ⟨g, hg⟩ : ∃ g, g = worthF base m z := ⟨_, rfl⟩
      have hge := hg
      unfold worthF at hge
      rw [← hd] at hd0 hge
      rw [← hg] at hbd HX
      obtain ⟨hd0, hd1⟩ := hd0
      have hmb : 0 ≤ m * base := Int.mul_nonneg hm0 hb0
      have hmb2 : m * base ≤ 1114112 * 16 := Int.mul_le_mul hm1 hb1 hb0 (by decide)
      obtain ⟨mb, hmbe⟩ : ∃ x, x = m * base := ⟨_, rfl⟩
      rw [← hmbe] at hmb hmb2 hge
      have w1 : IntKind.i32.wrap (m * base) = mb := by rw [← hmbe, IntKind.wrap_i32]; omega
      have w2 : IntKind.i32.wrap d = d := by rw [IntKind.wrap_i32]; omega
      have w3 : IntKind.i32.wrap (mb + d) = mb + d := by rw [IntKind.wrap_i32]; omega
      have HG := Lib.hid hge
      have hkz : (k : Int) < (n : Int) := by omega
      have hkw : IntKind.i64.wrap ((k : Int) + 1) = (k : Int) + 1 := by rw [IntKind.wrap_i64]; omega
      clear hz hd hg hge hmbe
      go_wp2_with (go_at_call 73; (with_reducible refine (HH.out _).mono ?_); rintro e w1 ⟨rfl, rfl⟩)
      go_roundw
      case rel => exact ⟨k + 1, g, by omega, by go_num, by rw [HG.out], hbd.1, hbd.2, Lib.hid HX.out.symm, HBL⟩
      case measure => simp [intOf]; omega
    · obtain rfl : k = n := by omega
      have HE := Lib.hid (show m = worthP base l by have h := HM.out; rwa [List.take_of_length_le (by rw [HN.out]; exact Nat.le_refl _)] at h)
      have hkf : ¬ (k : Int) < (k : Int) := by omega
      clear hlt
      go_wp2
      go_ret
      exact ⟨ret32 HE.out, HBL.out⟩

end Go.Proofs.Ytbljgoieieoamaa
