/-
  Contracts of layer 7: behind a sign; over a >.
-/
import Derived.Test.YtbljgoieieoamaaLexA
namespace Go.Proofs.Ytbljgoieieoamaa
open Go.RowKit
set_option linter.unusedVariables false

set_option maxHeartbeats 400000 in
theorem behind_any {b off n cap : Nat} {l : List Int} {w : World} (R : RRow w b off n cap l) {s : ByteArray} (S : Sign s) (k : Nat) (hk : k ≤ n) :
    Calls Try.prog 88 #[.slice (some ⟨b, off, none⟩) n cap, .int .i64 k, .string s] w fun e w' => e = .returned (.tuple #[.int .i64 ((k + (behP (sg s) (l.drop k)).1 : Nat)), .bool (behP (sg s) (l.drop k)).2]) ∧ ∃ m, w' = w.drewN m := by
  have hf := find_any R S k hk
  have hs2 := S.small
  have hm := R.max
  have hc := R.le
  have HLD := Lib.hid (show (l.drop k).length = n - k by rw [List.length_drop, R.len])
  have hsl := sg_length s
  unfold maxLen at hm
  cases h : fnd (sg s) (l.drop k) with
  | none =>
    rw [h] at hf
    simp only [fndI] at hf
    have HF := Lib.hid hf
    have HB := Lib.hid (behP_none h)
    clear hf h R
    go_enter Try.func88, Try.ntmps88
    go_wp2_with (go_at_call 104; (with_reducible refine HF.out.mono ?_); rintro e w1 ⟨rfl, m1, rfl⟩)
    go_ret2
    rw [HB.out, HLD.out]
    exact ⟨ret_ib (by omega) rfl, m1, rfl⟩
  | some j =>
    have hj := (fnd_le _ _ _ h).1
    rw [HLD.out, hsl] at hj
    rw [h] at hf
    simp only [fndI] at hf
    have HF := Lib.hid hf
    have HB := Lib.hid (behP_some h)
    have HSL := Lib.hid hsl
    clear hf h R hsl
    go_enter Try.func88, Try.ntmps88
    go_wp2_with (go_at_call 104; (with_reducible refine HF.out.mono ?_); rintro e w1 ⟨rfl, m1, rfl⟩)
    go_ret2
    rw [HB.out, HSL.out]
    exact ⟨ret_ib (by show (k : Int) + j + s.size = _; omega) rfl, m1, rfl⟩

set_option maxHeartbeats 400000 in
theorem edge_any {b off n cap : Nat} {l : List Int} {w : World} (R : RRow w b off n cap l) (k : Nat) (hk : k ≤ n) :
    Calls Try.prog 90 #[.slice (some ⟨b, off, none⟩) n cap, .int .i64 k] w fun e w' => e = .returned (.tuple #[.int .i64 ((k + (edgeP (l.drop k)).1 : Nat)), .bool (edgeP (l.drop k)).2]) ∧ ∃ m, w' = w.drewN m := by
  have hm := R.max
  have hc := R.le
  unfold maxLen at hm
  cases h : sw gt (l.drop k)
  · have HC := Lib.hid (startsC R gtS k hk (gt_sg ▸ h))
    have HE := Lib.hid (show edgeP (l.drop k) = (0, false) by unfold edgeP; rw [h]; rfl)
    clear h R
    go_enter Try.func90, Try.ntmps90
    go_wp2_with (go_at_call 46; (with_reducible refine HC.out.mono ?_); rintro e w1 ⟨rfl, m1, rfl⟩)
    go_ret2
    rw [HE.out]
    exact ⟨ret_ib (by simp) rfl, m1, rfl⟩
  · have HC := Lib.hid (startsC R gtS k hk (gt_sg ▸ h))
    have hl := sw_length h
    have HE := Lib.hid (show edgeP (l.drop k) = (1, true) by unfold edgeP; rw [h]; rfl)
    have HLD := Lib.hid (show (l.drop k).length = n - k by rw [List.length_drop, R.len])
    have hk1 : k + 1 ≤ n := by rw [HLD.out] at hl; simp [gt] at hl; omega
    clear h R hl
    go_enter Try.func90, Try.ntmps90
    go_wp2_with (go_at_call 46; (with_reducible refine HC.out.mono ?_); rintro e w1 ⟨rfl, m1, rfl⟩)
    go_ret2
    rw [HE.out]
    exact ⟨ret_ib (by simp) rfl, m1, rfl⟩

end Go.Proofs.Ytbljgoieieoamaa
