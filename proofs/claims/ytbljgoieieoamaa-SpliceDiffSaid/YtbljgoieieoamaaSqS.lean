/-
  bytes.Equal; the contract of splice.Diff.
-/
import Derived.Test.YtbljgoieieoamaaSqL
import Derived.Deep.CutBlock
namespace Go.Proofs.Ytbljgoieieoamaa
open Go.Shelf Go.RowKit Go.Lib Go.Sort
set_option linter.unusedVariables false

set_option maxHeartbeats 1000000 in
theorem beq_any {w : World} {a a' : Option Addr} {n c n' c' : Nat} {B B' : List Int} {S S' : ByteArray} (hn : B.length = n) (hat : AtCells w a (B.map (.int .u8))) (hn' : B'.length = n') (hat' : AtCells w a' (B'.map (.int .u8))) (hS : strOfNums B = S) (hS' : strOfNums B' = S') {v : Bool} (hv : (S.toList == S'.toList) = v) :
    Calls Try.prog 38 #[.slice a n c, .slice a' n' c'] w fun e w' => e = .returned (.bool v) ∧ w' = w := by
  have r1 := run_strB (P := Try.prog) w 22 5 9 Try.underlying22 Try.underlying5 Try.underlying9 a n c B hn hat
  have r2 := run_strB (P := Try.prog) w 22 5 9 Try.underlying22 Try.underlying5 Try.underlying9 a' n' c' B' hn' hat'
  rw [hS] at r1
  rw [hS'] at r2
  clear hn hat hn' hat' hS hS'
  go_enter Try.func38, Try.ntmps38
  go_wp2
  go_ret
  exact ⟨rfl, rfl⟩

/-- What Diff finds: how much is the same at the beginning, where the rest begins in the one and in the other. -/
structure DifR (A B : List Int) (f t e : Nat) : Prop where
  ft : f ≤ t
  fe : f ≤ e
  tA : t ≤ A.length
  eB : e ≤ B.length
  beg : A.take f = B.take f
  fin : A.drop t = B.drop e
  first : f < t → f < e → A[f]? ≠ B[f]?
  last : f < t → f < e → A[t - 1]? ≠ B[e - 1]?

theorem take_more {A B : List Int} {k : Nat} {x : Int} (h : A.take k = B.take k) (ha : A[k]? = some x) (hb : B[k]? = some x) : A.take (k + 1) = B.take (k + 1) := by
  rw [List.take_add_one, List.take_add_one, h, ha, hb]
theorem drop_more {A B : List Int} {t e : Nat} {x : Int} (h : A.drop (t + 1) = B.drop (e + 1)) (ha : A[t]? = some x) (hb : B[e]? = some x) : A.drop t = B.drop e := by
  obtain ⟨h1, h2⟩ := List.getElem?_eq_some_iff.1 ha
  obtain ⟨h3, h4⟩ := List.getElem?_eq_some_iff.1 hb
  rw [List.drop_eq_getElem_cons h1, List.drop_eq_getElem_cons h3, h, h2, h4]

end Go.Proofs.Ytbljgoieieoamaa
