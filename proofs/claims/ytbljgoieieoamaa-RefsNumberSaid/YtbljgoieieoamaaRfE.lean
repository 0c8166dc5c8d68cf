/-
  refs: what stands instead of a rune.
-/
import Derived.Test.YtbljgoieieoamaaRfD
namespace Go.Proofs.Ytbljgoieieoamaa
open Go.RowKit
set_option linter.unusedVariables false

abbrev zNo : ByteArray := ⟨#[]⟩
abbrev zAmp : ByteArray := ⟨#[38, 97, 109, 112, 59]⟩
abbrev zLt : ByteArray := ⟨#[38, 108, 116, 59]⟩
abbrev zGt : ByteArray := ⟨#[38, 103, 116, 59]⟩
abbrev zCr : ByteArray := ⟨#[38, 35, 120, 68, 59]⟩
abbrev zTab : ByteArray := ⟨#[38, 35, 120, 57, 59]⟩
abbrev zLf : ByteArray := ⟨#[38, 35, 120, 65, 59]⟩
abbrev zQuot : ByteArray := ⟨#[38, 113, 117, 111, 116, 59]⟩
abbrev zApos : ByteArray := ⟨#[38, 97, 112, 111, 115, 59]⟩

def quotS (r q : Int) : ByteArray := if q ≠ 34 ∧ q ≠ 39 then zNo else if r = 9 then zTab else if r = 10 then zLf else if r ≠ q then zNo else if r = 34 then zQuot else zApos
def gtB (l : List Int) (i : Nat) : Bool := decide (2 ≤ i) && sw [93, 93] (l.drop (i - 2))
def insS (l : List Int) (i : Nat) (q : Int) : ByteArray :=
  if l.getD i 0 = 38 then zAmp else if l.getD i 0 = 60 then zLt else if l.getD i 0 = 62 then (if gtB l i then zGt else zNo) else if l.getD i 0 = 13 then zCr
  else if l.getD i 0 = 34 ∨ l.getD i 0 = 39 ∨ l.getD i 0 = 9 ∨ l.getD i 0 = 10 then quotS (l.getD i 0) q else zNo

theorem rets {a b : ByteArray} (h : a = b) : Ending.returned (.string a) = .returned (.string b) := by rw [h]

set_option maxHeartbeats 1000000 in
theorem quoted_any (r q : Int) (w : World) : Calls Try.prog 76 #[.int .i32 r, .int .i32 q] w fun e w' => e = .returned (.string (quotS r q)) ∧ w' = w := by
  by_cases hq : q ≠ 34 ∧ q ≠ 39
  · obtain ⟨q1, q2⟩ := hq
    have HV := Lib.hid (show quotS r q = zNo by unfold quotS; rw [if_pos ⟨q1, q2⟩])
    have e1 : (q != 34) = true := by simpa [bne] using q1
    have e2 : (q != 39) = true := by simpa [bne] using q2
    go_enter Try.func76, Try.ntmps76
    go_wp2
    go_ret
    exact ⟨rets HV.out.symm, rfl⟩
  · have hv : quotS r q = if r = 9 then zTab else if r = 10 then zLf else if r ≠ q then zNo else if r = 34 then zQuot else zApos := by unfold quotS; rw [if_neg hq]
    have hcs : q = 34 ∨ q = 39 := by omega
    rw [hv]
    clear hv hq
    rcases hcs with rfl | rfl
    all_goals
      by_cases h9 : r = 9
      · subst h9
        go_enter Try.func76, Try.ntmps76
        go_wp2
        go_ret
        exact ⟨rfl, rfl⟩
      by_cases h10 : r = 10
      · subst h10
        go_enter Try.func76, Try.ntmps76
        go_wp2
        go_ret
        exact ⟨rfl, rfl⟩
      rw [if_neg h9, if_neg h10]
    · by_cases hr : r = 34
      · subst hr
        go_enter Try.func76, Try.ntmps76
        go_wp2
        go_ret
        exact ⟨rfl, rfl⟩
      · rw [if_pos hr]
        go_enter Try.func76, Try.ntmps76
        go_wp2
        go_ret
        exact ⟨rfl, rfl⟩
    · by_cases hr : r = 39
      · subst hr
        go_enter Try.func76, Try.ntmps76
        go_wp2
        go_ret
        exact ⟨rfl, rfl⟩
      · rw [if_pos hr]
        go_enter Try.func76, Try.ntmps76
        go_wp2
        go_ret
        exact ⟨rfl, rfl⟩

set_option maxHeartbeats 400000 in
theorem starts_neg (a : Option Addr) (n cap : Nat) (k : Int) (hk : k < 0) (s : ByteArray) (w : World) : Calls Try.prog 46 #[.slice a n cap, .int .i64 k, .string s] w fun e w' => e = .returned (.bool false) ∧ w' = w := by
  go_enter Try.func46, Try.ntmps46
  go_wp2
  go_ret
  exact ⟨rfl, rfl⟩

theorem sBbS : Sign ⟨#[93, 93]⟩ := Sign.of (by decide)

theorem gt_any {b off n cap : Nat} {l : List Int} {w : World} (R : RRow w b off n cap l) (i : Nat) (hi : i < n) {v : Bool} (hv : gtB l i = v) (W : World) (hb : Below w.heap.size w W) :
    Says 46 #[.slice (some ⟨b, off, none⟩) n cap, .int .i64 ((i : Int) - 2), .string ⟨#[93, 93]⟩] (.bool v) w W := by
  unfold gtB at hv
  by_cases h2 : 2 ≤ i
  · rw [decide_eq_true h2, Bool.true_and] at hv
    have h := startsB R sBbS (i - 2) (by omega) hv W hb
    rw [show ((i - 2 : Nat) : Int) = (i : Int) - 2 by omega] at h
    exact h
  · rw [decide_eq_false h2, Bool.false_and] at hv
    subst hv
    exact (starts_neg _ _ _ _ (by omega) _ W).mono fun e w' ⟨h1, h3⟩ => ⟨h1, h3 ▸ hb⟩

set_option maxHeartbeats 2000000 in
theorem instead_any {b off n cap : Nat} {l : List Int} {w : World} (R : RRow w b off n cap l) (i : Nat) (hi : i < n) (q : Int) {s : ByteArray} (hs : insS l i q = s) (W : World) (hb : Below w.heap.size w W) :
    Says 50 #[.slice (some ⟨b, off, none⟩) n cap, .int .i64 i, .int .i32 q] (.string s) w W := by
  obtain ⟨_, _, he, hc⟩ := (R.cells.below hb).int (k := i) (by rw [R.len]; exact hi)
  cases he
  obtain ⟨z, hz⟩ : ∃ z, z = l.getD i 0 := ⟨_, rfl⟩
  unfold insS at hs
  rw [← hz] at hs hc
  have hm := R.max
  have hle := R.le
  unfold maxLen at hm
  have hiz : (i : Int) < (n : Int) := by omega
  have hw : IntKind.i64.wrap ((i : Int) - 2) = (i : Int) - 2 := by rw [IntKind.wrap_i64]; omega
  have HB := Lib.hid hb
  have HG := Lib.hid (fun (v : Bool) (hv : gtB l i = v) => gt_any R i hi hv W hb)
  have HQ := Lib.hid (fun (W : World) => quoted_any z q W)
  clear R hz hb hm hle
  by_cases h1 : z = 38
  · subst h1; subst hs
    go_enter Try.func50, Try.ntmps50
    go_wp2
    go_ret
    exact ⟨rfl, HB.out⟩
  rw [if_neg h1] at hs
  by_cases h2 : z = 60
  · subst h2; subst hs
    go_enter Try.func50, Try.ntmps50
    go_wp2
    go_ret
    exact ⟨rfl, HB.out⟩
  rw [if_neg h2] at hs
  by_cases h3 : z = 62
  · subst h3
    rw [if_pos rfl] at hs
    cases hg : gtB l i
    all_goals
      rw [hg] at hs
      have HG2 := Lib.hid (HG.out _ hg)
      simp at hs
      subst hs
      clear hg HG
      go_enter Try.func50, Try.ntmps50
      go_wp2_with (go_at_call 46; (with_reducible refine HG2.out.mono ?_); rintro e w1 ⟨rfl, hb1⟩; have HB1 := Lib.hid hb1; clear hb1)
      go_ret
      exact ⟨rfl, HB1.out⟩
  rw [if_neg h3] at hs
  by_cases h4 : z = 13
  · subst h4; subst hs
    go_enter Try.func50, Try.ntmps50
    go_wp2
    go_ret
    exact ⟨rfl, HB.out⟩
  rw [if_neg h4] at hs
  by_cases h5 : z = 34 ∨ z = 39 ∨ z = 9 ∨ z = 10
  · rw [if_pos h5] at hs
    subst hs
    rcases h5 with rfl | rfl | rfl | rfl
    all_goals
      go_enter Try.func50, Try.ntmps50
      go_wp2_with (go_at_call 76; (with_reducible refine (HQ.out _).mono ?_); rintro e w1 ⟨rfl, rfl⟩)
      go_ret
      exact ⟨rfl, HB.out⟩
  · rw [if_neg h5] at hs
    subst hs
    have h6 : ¬ z = 34 := by omega
    have h7 : ¬ z = 39 := by omega
    have h8 : ¬ z = 9 := by omega
    have h9 : ¬ z = 10 := by omega
    go_enter Try.func50, Try.ntmps50
    go_wp2
    go_ret
    exact ⟨rfl, HB.out⟩

end Go.Proofs.Ytbljgoieieoamaa
