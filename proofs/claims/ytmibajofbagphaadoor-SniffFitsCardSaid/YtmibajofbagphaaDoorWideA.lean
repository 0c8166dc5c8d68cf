/-
  Contracts: the calls of layer 2, wide, and its reference.
-/
import Derived.Test.YtmibajofbagphaaDoorScanB
import Derived.Test.YtmibajofbagphaaDoorU16
import Derived.Deep.QuietTactic
import Derived.BigQuiet
namespace Go.Proofs.YtmibajofbagphaaDoor
open Go.RowKit

set_option maxHeartbeats 400000 in
theorem wwidth_any (r : Int) (w : World) :
    Calls Tryd.prog 50 #[.int .i32 r] w fun e w' => e = .returned (.int .i64 (U16.width r)) ∧ w = w' := by
  go_enter Tryd.func50, Tryd.ntmps50
  go_wp2
  all_goals
    go_ret
    exact ⟨ret_int (by rw [U16.width_eq]; (repeat' split) <;> omega), rfl⟩

set_option maxHeartbeats 400000 in
theorem wrefWidth_any (r : Int) (w : World) :
    Calls Tryd.prog 51 #[.int .i32 r] w fun e w' => e = .returned (.int .i64 (U16.width r)) ∧ w = w' := by
  go_enter Tryd.func51, Tryd.ntmps51
  go_wp2_with (go_at_call 26; refine (refWidth_any _ _).mono ?_; rintro e w' ⟨rfl, rfl⟩)
  · have h : (U8.width r == 4) = true := by assumption
    have H := Lib.hid (show U16.width r = 4 by unfold U16.width; rw [if_pos (by simpa using h)])
    go_ret
    exact ⟨ret_int H.out.symm, rfl⟩
  · have h : (U8.width r == 4) = false := by assumption
    have h2 : 0 < U8.width r := by assumption
    have H := Lib.hid (show U16.width r = 2 by unfold U16.width; rw [if_neg (by simpa using h), if_pos h2])
    go_ret
    exact ⟨ret_int H.out.symm, rfl⟩
  · have h : (U8.width r == 4) = false := by assumption
    have h2 : U8.width r ≤ 0 := by first | assumption | omega
    have H := Lib.hid (show U16.width r = 0 by unfold U16.width; rw [if_neg (by simpa using h), if_neg (by omega)])
    go_ret
    exact ⟨ret_int H.out.symm, rfl⟩

/-- The function that makes a unit of two bytes. -/
def rd (big : Bool) : Value := if big then .func (.func 73) #[] #[] else .func (.func 74) #[] #[]

theorem rd_true : rd true = .func (.func 73) #[] #[] := rfl
theorem rd_false : rd false = .func (.func 74) #[] #[] := rfl

set_option maxHeartbeats 400000 in
theorem reader_any (big : Bool) (w : World) :
    Calls Tryd.prog 59 #[.bool big] w fun e w' => e = .returned (rd big) ∧ w = w' := by
  cases big
  all_goals
    go_enter Tryd.func59, Tryd.ntmps59
    go_wp2
    go_ret
    exact ⟨rfl, rfl⟩

theorem or8 (x y : Int) (hx : 0 ≤ x ∧ x ≤ 255) (hy : 0 ≤ y ∧ y ≤ 255) : bits .or .i32 (x * 256) y = 256 * x + y := by
  rw [bits_join .i32 31 (by decide) wraps_i32 8 (x * 256) y (by omega) (by omega) (by omega) (by omega) (by omega) (by omega)]
  omega

set_option maxHeartbeats 400000 in
theorem unit_big (x y : Int) (w : World) (hx : 0 ≤ x ∧ x ≤ 255) (hy : 0 ≤ y ∧ y ≤ 255) :
    Calls Tryd.prog 73 #[.int .u8 x, .int .u8 y] w fun e w' => e = .returned (.int .i32 (U16.unit true x y)) ∧ w' = w := by
  have h := Lib.hid (or8 x y hx hy)
  go_enter Tryd.func73, Tryd.ntmps73
  go_wp2
  go_ret
  exact ⟨ret_int (by rw [U16.unit, if_pos rfl]; exact h.out), rfl⟩

set_option maxHeartbeats 400000 in
theorem unit_little (x y : Int) (w : World) (hx : 0 ≤ x ∧ x ≤ 255) (hy : 0 ≤ y ∧ y ≤ 255) :
    Calls Tryd.prog 74 #[.int .u8 x, .int .u8 y] w fun e w' => e = .returned (.int .i32 (U16.unit false x y)) ∧ w' = w := by
  have h := Lib.hid (or8 y x hy hx)
  go_enter Tryd.func74, Tryd.ntmps74
  go_wp2
  go_ret
  exact ⟨ret_int (by rw [U16.unit, if_neg (by decide)]; exact h.out), rfl⟩

/-- What 'first' answers: a piece; nothing is written. -/
def PieceIs (w : World) (p : Int × Int) (e : Ending) (w' : World) : Prop :=
  e = .returned (.tuple #[.int .i32 p.1, .int .i64 p.2]) ∧ ∃ k, w' = w.drewN k

set_option maxHeartbeats 1000000 in
theorem first_any (big : Bool) (a : Option Addr) (n cap : Nat) (zs : List Int) (w : World) (h1 : 1 ≤ n) (hbig : n ≤ 1099511627776) (hat : AtCells w a (zs.map (.int .u8))) (hn : zs.length = n) (hb : U16.Byte zs) :
    Calls Tryd.prog 60 #[.slice a n cap, rd big] w (PieceIs w (U16.piece zs big n 0)) := by
  by_cases hlt : n < 2
  · have HP := Lib.hid (show U16.piece zs big n 0 = (-1, 1) by rw [U16.piece, if_pos (by omega)])
    clear hn hb hat
    go_enter Tryd.func60, Tryd.ntmps60
    go_wp2
    go_ret2
    rw [HP.out]
    exact ⟨rfl, 0, rfl⟩
  · obtain ⟨b, off, rfl, c0⟩ := hat.int (k := 0) (by omega)
    obtain ⟨_, _, he, c1⟩ := hat.int (k := 1) (by omega)
    simp only [Option.some.injEq, Addr.mk.injEq] at he
    obtain ⟨rfl, rfl, _⟩ := he
    have b0 := hb.at 0
    have b1 := hb.at 1
    obtain ⟨x0, hx0⟩ : ∃ x0, x0 = zs.getD 0 0 := ⟨_, rfl⟩
    obtain ⟨x1, hx1⟩ : ∃ x1, x1 = zs.getD 1 0 := ⟨_, rfl⟩
    rw [← hx0] at c0 b0
    rw [← hx1] at c1 b1
    rw [Nat.add_zero] at c0
    have hu := U16.unit_bd (big := big) b0 b1
    obtain ⟨hu0, hu1⟩ := hu
    have n0 : 0 < n := by omega
    have n1 : 1 < n := by omega
    have n2 : (1 : Int) < (n : Int) := by omega
    have n3 : (2 : Int) ≤ (n : Int) := by omega
    have hun : U16.unitAt zs big 0 = U16.unit big x0 x1 := by rw [U16.unitAt, hx0, hx1]
    have HN := Lib.hid (And.intro hn (And.intro hb (And.intro hat hun)))
    clear hx0 hx1 hun hn hb hat
    by_cases hA : U16.unit big x0 x1 < 55296
    · have HP := Lib.hid (show U16.piece zs big n 0 = (U16.unit big x0 x1, 2) by
        unfold U16.piece; rw [HN.out.2.2.2, if_neg (by omega), if_pos (by omega)])
      rw [HP.out]
      cases big
      all_goals
        first | rw [rd_true] | rw [rd_false]
        go_enter Tryd.func60, Tryd.ntmps60
        go_wp2
        go_quiet ((first | (go_at_call 73; exact Calls.quiet_of_same (unit_big _ _ _ b0 b1)) | (go_at_call 74; exact Calls.quiet_of_same (unit_little _ _ _ b0 b1))))
        go_wp2
        go_ret2
        exact ⟨rfl, _, rfl⟩
    by_cases hB : 57344 ≤ U16.unit big x0 x1
    · have HP := Lib.hid (show U16.piece zs big n 0 = (U16.unit big x0 x1, 2) by
        unfold U16.piece; rw [HN.out.2.2.2, if_neg (by omega), if_pos (by omega)])
      rw [HP.out]
      have hA' : 55296 ≤ U16.unit big x0 x1 := by omega
      clear hA
      cases big
      all_goals
        first | rw [rd_true] | rw [rd_false]
        go_enter Tryd.func60, Tryd.ntmps60
        go_wp2
        go_quiet ((first | (go_at_call 73; exact Calls.quiet_of_same (unit_big _ _ _ b0 b1)) | (go_at_call 74; exact Calls.quiet_of_same (unit_little _ _ _ b0 b1))))
        go_wp2
        go_ret2
        exact ⟨rfl, _, rfl⟩
    have hA' : 55296 ≤ U16.unit big x0 x1 := by omega
    have hB' : U16.unit big x0 x1 < 57344 := by omega
    clear hA hB
    by_cases hC : 56320 ≤ U16.unit big x0 x1
    · have HP := Lib.hid (show U16.piece zs big n 0 = (-1, 2) by
        unfold U16.piece; rw [HN.out.2.2.2, if_neg (by omega), if_neg (by omega), if_neg (by omega)])
      rw [HP.out]
      cases big
      all_goals
        first | rw [rd_true] | rw [rd_false]
        go_enter Tryd.func60, Tryd.ntmps60
        go_wp2
        go_quiet ((first | (go_at_call 73; exact Calls.quiet_of_same (unit_big _ _ _ b0 b1)) | (go_at_call 74; exact Calls.quiet_of_same (unit_little _ _ _ b0 b1))))
        go_wp2
        go_ret2
        exact ⟨rfl, _, rfl⟩
    have hC' : U16.unit big x0 x1 < 56320 := by omega
    clear hC
    by_cases h4 : n < 4
    · have HP := Lib.hid (show U16.piece zs big n 0 = (-1, 2) by
        unfold U16.piece; rw [HN.out.2.2.2, if_neg (by omega), if_neg (by omega), if_neg (by omega)])
      rw [HP.out]
      cases big
      all_goals
        first | rw [rd_true] | rw [rd_false]
        go_enter Tryd.func60, Tryd.ntmps60
        go_wp2
        go_quiet ((first | (go_at_call 73; exact Calls.quiet_of_same (unit_big _ _ _ b0 b1)) | (go_at_call 74; exact Calls.quiet_of_same (unit_little _ _ _ b0 b1))))
        go_wp2
        go_ret2
        exact ⟨rfl, _, rfl⟩
    obtain ⟨_, _, he2, c2⟩ := HN.out.2.2.1.int (k := 2) (by have := HN.out.1; omega)
    simp only [Option.some.injEq, Addr.mk.injEq] at he2
    obtain ⟨rfl, rfl, _⟩ := he2
    obtain ⟨_, _, he3, c3⟩ := HN.out.2.2.1.int (k := 3) (by have := HN.out.1; omega)
    simp only [Option.some.injEq, Addr.mk.injEq] at he3
    obtain ⟨rfl, rfl, _⟩ := he3
    have n4 : 2 < n := by omega
    have n5 : 3 < n := by omega
    have n6 : (2 : Int) < (n : Int) := by omega
    have n7 : (3 : Int) < (n : Int) := by omega
    have n8 : (4 : Int) ≤ (n : Int) := by omega
    have b2 := HN.out.2.1.at 2
    have b3 := HN.out.2.1.at 3
    obtain ⟨x2, hx2⟩ : ∃ x2, x2 = zs.getD 2 0 := ⟨_, rfl⟩
    obtain ⟨x3, hx3⟩ : ∃ x3, x3 = zs.getD 3 0 := ⟨_, rfl⟩
    rw [← hx2] at c2 b2
    rw [← hx3] at c3 b3
    have hvn : U16.unitAt zs big (0 + 2) = U16.unit big x2 x3 := by rw [U16.unitAt, hx2, hx3]
    obtain ⟨hv0, hv1⟩ := U16.unit_bd (big := big) b2 b3
    have HV := Lib.hid hvn
    clear hx2 hx3 hvn
    by_cases hD : U16.unit big x2 x3 < 56320
    · have HP := Lib.hid (show U16.piece zs big n 0 = (-1, 2) by
        unfold U16.piece; rw [HN.out.2.2.2, HV.out, if_neg (by omega), if_neg (by omega), if_neg (by omega)])
      rw [HP.out]
      cases big
      all_goals
        first | rw [rd_true] | rw [rd_false]
        go_enter Tryd.func60, Tryd.ntmps60
        go_wp2
        go_quiet ((first | (go_at_call 73; exact Calls.quiet_of_same (unit_big _ _ _ b0 b1)) | (go_at_call 74; exact Calls.quiet_of_same (unit_little _ _ _ b0 b1))))
        go_wp2
        go_quiet ((first | (go_at_call 73; exact quiet_add_same (unit_big _ _ _ b2 b3)) | (go_at_call 74; exact quiet_add_same (unit_little _ _ _ b2 b3))))
        go_wp2
        go_ret2
        exact ⟨rfl, _, rfl⟩
    have hD' : 56320 ≤ U16.unit big x2 x3 := by omega
    clear hD
    by_cases hE : 57344 ≤ U16.unit big x2 x3
    · have HP := Lib.hid (show U16.piece zs big n 0 = (-1, 2) by
        unfold U16.piece; rw [HN.out.2.2.2, HV.out, if_neg (by omega), if_neg (by omega), if_neg (by omega)])
      rw [HP.out]
      cases big
      all_goals
        first | rw [rd_true] | rw [rd_false]
        go_enter Tryd.func60, Tryd.ntmps60
        go_wp2
        go_quiet ((first | (go_at_call 73; exact Calls.quiet_of_same (unit_big _ _ _ b0 b1)) | (go_at_call 74; exact Calls.quiet_of_same (unit_little _ _ _ b0 b1))))
        go_wp2
        go_quiet ((first | (go_at_call 73; exact quiet_add_same (unit_big _ _ _ b2 b3)) | (go_at_call 74; exact quiet_add_same (unit_little _ _ _ b2 b3))))
        go_wp2
        go_ret2
        exact ⟨rfl, _, rfl⟩
    · have hE' : U16.unit big x2 x3 < 57344 := by omega
      clear hE
      have HP := Lib.hid (show U16.piece zs big n 0 = (65536 + (U16.unit big x0 x1 - 55296) * 1024 + (U16.unit big x2 x3 - 56320), 4) by
        unfold U16.piece; rw [HN.out.2.2.2, HV.out, if_neg (by omega), if_neg (by omega), if_pos (by omega)])
      rw [HP.out]
      cases big
      all_goals
        first | rw [rd_true] | rw [rd_false]
        go_enter Tryd.func60, Tryd.ntmps60
        go_wp2
        go_quiet ((first | (go_at_call 73; exact Calls.quiet_of_same (unit_big _ _ _ b0 b1)) | (go_at_call 74; exact Calls.quiet_of_same (unit_little _ _ _ b0 b1))))
        go_wp2
        go_quiet ((first | (go_at_call 73; exact quiet_add_same (unit_big _ _ _ b2 b3)) | (go_at_call 74; exact quiet_add_same (unit_little _ _ _ b2 b3))))
        go_wp2
        go_ret2
        exact ⟨ret_pair (by omega) rfl, _, rfl⟩

end Go.Proofs.YtmibajofbagphaaDoor
