/-
  Contracts of layer 6: where lines end, and Line.
-/
import Derived.Test.YtlkcnfkfccfhmaaSpA
namespace Go.Proofs.Ytlkcnfkfccfhmaa
open Go.RowKit
set_option linter.unusedVariables false

/-- Does a line end behind number i of a row? -/
def endB (l : List Int) (i : Nat) : Bool := decide (l.getD i 0 = 10) || decide (l.getD i 0 = 13) && (decide (i + 1 = l.length) || decide (l.getD (i + 1) 0 ≠ 10))
/-- The line and the column of place i. -/
def lc (l : List Int) : Nat → Int × Int
  | 0 => (1, 1)
  | i + 1 => if endB l i then ((lc l i).1 + 1, 1) else ((lc l i).1, (lc l i).2 + 1)

theorem lc_bd (l : List Int) (i : Nat) : 1 ≤ (lc l i).1 ∧ (lc l i).1 ≤ i + 1 ∧ 1 ≤ (lc l i).2 ∧ (lc l i).2 ≤ i + 1 := by
  induction i with
  | zero => simp [lc]
  | succ i ih => unfold lc; split <;> (simp only []; omega)

theorem lc_yes {l : List Int} {i : Nat} (h : endB l i = true) : lc l (i + 1) = ((lc l i).1 + 1, 1) := by rw [lc, if_pos h]
theorem lc_no {l : List Int} {i : Nat} (h : endB l i = false) : lc l (i + 1) = ((lc l i).1, (lc l i).2 + 1) := by rw [lc, if_neg (by simp [h])]

set_option maxHeartbeats 1000000 in
theorem ends_any (a : Option Addr) (n cap : Nat) (zs : List Int) (i : Nat) (w : World) (hn : zs.length = n) (hc : n ≤ cap) (hm : cap ≤ maxLen) (hi : i < n) (hat : AtCells w a (zs.map (.int .i32))) :
    Calls Try.prog 22 #[.slice a n cap, .int .i64 i] w fun e w' => e = .returned (.bool (endB zs i)) ∧ w = w' := by
  unfold maxLen at hm
  obtain ⟨b, off, rfl, hc0⟩ := hat.int (k := i) (by omega)
  obtain ⟨x, hx⟩ : ∃ x, x = zs.getD i 0 := ⟨_, rfl⟩
  have HE : Hid (endB zs i = (decide (x = 10) || decide (x = 13) && (decide (i + 1 = n) || decide (zs.getD (i + 1) 0 ≠ 10)))) := Lib.hid (by rw [hx, ← hn]; rfl)
  rw [← hx] at hc0
  clear hx
  generalize endB zs i = res at HE ⊢
  by_cases h1 : x = 10
  · have h1' : (x == 10) = true := by simpa using h1
    have HE := Lib.hid (show res = true by rw [HE.out]; simp [h1])
    clear hat hn h1
    go_enter Try.func22, Try.ntmps22
    go_wp2
    go_ret
    exact ⟨ret_b HE.out.symm, rfl⟩
  · have h1' : (x == 10) = false := by simpa using h1
    by_cases h2 : x = 13
    · have h2' : (x == 13) = true := by simpa using h2
      by_cases h3 : i + 1 = n
      · have HE := Lib.hid (show res = true by rw [HE.out]; simp [h2, h3])
        have h3' : ((i : Int) + 1 == (n : Int)) = true := by simp; omega
        clear hat hn h1 h2
        go_enter Try.func22, Try.ntmps22
        go_wp2
        go_ret
        exact ⟨ret_b HE.out.symm, rfl⟩
      · obtain ⟨b', off', hy, hc1⟩ := hat.int (k := i + 1) (by omega)
        simp only [Option.some.injEq, Addr.mk.injEq] at hy
        obtain ⟨rfl, rfl, _⟩ := hy
        obtain ⟨y, hy⟩ : ∃ y, y = zs.getD (i + 1) 0 := ⟨_, rfl⟩
        have HE := Lib.hid (show res = decide (y ≠ 10) by rw [HE.out, hy]; simp [h2, h3])
        rw [← hy] at hc1
        have h3' : ((i : Int) + 1 == (n : Int)) = false := by simp; omega
        clear hat hn h1 h2 hy
        go_enter Try.func22, Try.ntmps22
        go_wp2
        go_ret
        exact ⟨ret_b (by rw [HE.out]; rw [Bool.eq_iff_iff]; simp), rfl⟩
    · have h2' : (x == 13) = false := by simpa using h2
      have HE := Lib.hid (show res = false by rw [HE.out]; simp [h1, h2])
      clear hat hn h1 h2
      go_enter Try.func22, Try.ntmps22
      go_wp2
      go_ret
      exact ⟨ret_b HE.out.symm, rfl⟩

/-- Place at, told within a row of n. -/
def clampN (k : Int) (n : Nat) : Nat := min k.toNat n

set_option maxHeartbeats 1000000 in
theorem line_any (a : Option Addr) (n cap : Nat) (zs : List Int) (k : Int) (w : World) (hn : zs.length = n) (h80 : n ≤ 80) (hc : n ≤ cap) (hm : cap ≤ maxLen) (hat : AtCells w a (zs.map (.int .i32))) :
    Calls Try.prog 16 #[.slice a n cap, .int .i64 k] w fun e w' => e = .returned (.tuple #[.int .i64 (lc zs (clampN k n)).1, .int .i64 (lc zs (clampN k n)).2]) ∧ w = w' := by
  have HEN := fun i hi => Lib.hid (ends_any a n cap zs i w hn hc hm hi hat)
  have HEN := Lib.hid HEN
  unfold maxLen at hm
  obtain ⟨m, hm1⟩ : ∃ m, m = clampN k n := ⟨_, rfl⟩
  rw [← hm1]
  unfold clampN at hm1
  have hmn : m ≤ n := by omega
  have HLB := Lib.hid (lc_bd zs)
  have HY := Lib.hid (fun i (h : endB zs i = true) => lc_yes h)
  have HN := Lib.hid (fun i (h : endB zs i = false) => lc_no h)
  have hlc0 : Hid (lc zs 0 = (1, 1)) := Lib.hid rfl
  clear hat hn
  have hways : (k < 0 ∧ m = 0) ∨ (k = m) ∨ ((n : Int) < k ∧ m = n) := by omega
  clear hm1
  rcases hways with ⟨h1, rfl⟩ | rfl | ⟨h1, rfl⟩
  · go_enter Try.func16, Try.ntmps16
    go_wp2
    refine wp_loop_rounds 1 ?_
    rw [rounds_succ]
    go_wp2
    go_ret2
    exact ⟨by rw [hlc0.out]; rfl, rfl⟩
  all_goals
    go_enter Try.func16, Try.ntmps16
    go_wp2
    go_loop [6, 7, 15] (fun l b i => ∃ (j : Nat) (x y : Int), j ≤ m ∧ Hid (x = (lc zs j).1) ∧ Hid (y = (lc zs j).2) ∧ i = .int .i64 j ∧ l = .int .i64 x ∧ b = .int .i64 ((j : Int) + 1 - y)) (fun _ _ i => m - (intOf i).toNat)
    case atStart => exact ⟨0, 1, 1, by omega, Lib.hid rfl, Lib.hid rfl, rfl, rfl, rfl⟩
    case round =>
      obtain ⟨j, x, y, hj, HX, HY2, rfl, rfl, rfl⟩ := hrel
      obtain ⟨b1, b2, b3, b4⟩ := HLB.out j
      rw [← HX.out] at b1 b2
      rw [← HY2.out] at b3 b4
      by_cases hlt : j < m
      · have hE := HEN.out j (by omega)
        cases he : endB zs j
        · have hs := Lib.hid (HN.out j he)
          rw [he] at hE
          clear he
          go_wp2_with (go_at_call 22; (with_reducible refine hE.out.mono ?_); rintro e w1 ⟨rfl, rfl⟩)
          go_round
          case rel => exact ⟨j + 1, x, y + 1, by omega, Lib.hid (by rw [hs.out, ← HX.out]), Lib.hid (by rw [hs.out, ← HY2.out]), by go_num, rfl, by go_num⟩
          case measure => simp [intOf]; omega
        · have hs := Lib.hid (HY.out j he)
          rw [he] at hE
          clear he
          go_wp2_with (go_at_call 22; (with_reducible refine hE.out.mono ?_); rintro e w1 ⟨rfl, rfl⟩)
          go_round
          case rel => exact ⟨j + 1, x + 1, 1, by omega, Lib.hid (by rw [hs.out, ← HX.out]), Lib.hid (by rw [hs.out]), by go_num, rfl, by go_num⟩
          case measure => simp [intOf]; omega
      · obtain rfl : j = m := by omega
        go_wp2
        go_ret2
        exact ⟨by rw [← HX.out, ← HY2.out]; congr 3; go_num, rfl⟩

end Go.Proofs.Ytlkcnfkfccfhmaa
