/-
  Contracts of layer 9: is a part some signs? What a reader takes of a subset.
-/
import Derived.Test.YtpjcheelafegbaaDxS
namespace Go.Proofs.Ytpjcheelafegbaa
open Go.RowKit
set_option linter.unusedVariables false

/-- A reader: its row, and what is left of its parts. -/
structure RF (w : World) (rp : Nat) (a : Option Addr) (n cap : Nat) (l : List Int) (Q : List PartA) : Prop where
  rest : RE w rp Q
  c0 : w.cell? ⟨rp, 0, none⟩ = some (.slice a n cap)
  f0 : w.frozen? ⟨rp, 0, none⟩ = false
  len : l.length = n
  le : n ≤ cap
  max : cap ≤ maxLen
  cells : AtB w rp a (l.map (.int .i32))
theorem RF.next {w w' : World} {rp : Nat} {a : Option Addr} {n cap : Nat} {l : List Int} {Q : List PartA} (h : RF w rp a n cap l Q) (hb : Below w.heap.size w w') : RF w' rp a n cap l Q := by
  have hlt := cell_lt h.c0
  obtain ⟨c1, c2⟩ := bcell hb
  exact ⟨h.rest.next hb, (c1 _ _ hlt).trans h.c0, (c2 _ _ hlt).trans h.f0, h.len, h.le, h.max, h.cells.kept (Kept.of_below hb)⟩
theorem RF.took {w w' : World} {rp : Nat} {a : Option Addr} {n cap : Nat} {l : List Int} {Q Q' : List PartA} (h : RF w rp a n cap l Q) (hr : RE w' rp Q') (hk : Kept rp w w') (hc : ∀ i, i ≠ 1 → w'.cell? ⟨rp, i, none⟩ = w.cell? ⟨rp, i, none⟩ ∧ w'.frozen? ⟨rp, i, none⟩ = w.frozen? ⟨rp, i, none⟩) : RF w' rp a n cap l Q' :=
  ⟨hr, (hc 0 (by omega)).1.trans h.c0, (hc 0 (by omega)).2.trans h.f0, h.len, h.le, h.max, h.cells.kept hk⟩

/-- Is a part some signs? -/
def isP (l : List Int) (x : PartA) (s : ByteArray) : Bool := decide (x.2.2 = x.2.1 + s.size) && sw (sg s) (l.drop x.2.1)

set_option maxHeartbeats 1000000 in
theorem isD_any {w : World} {rp : Nat} {b off n cap : Nat} {l : List Int} {Q : List PartA} (h : RF w rp (some ⟨b, off, none⟩) n cap l Q) {s : ByteArray} (S : Sign s) (k f t : Nat) (hft : f ≤ t) (htn : t ≤ n) (hn : n ≤ 1000) {v : Bool} (hv : isP l (k, f, t) s = v) :
    Calls Try.prog 72 #[.pointer (some ⟨rp, 0, none⟩), parI k f t, .string s] w fun e w' => e = .returned (.bool v) ∧ Below w.heap.size w w' := by
  have hs2 := S.small
  have c0 := h.c0
  have hlt := cell_lt c0
  have hne : ¬ rp = w.heap.size := by omega
  have RR : RRow w b off n cap l := ⟨h.len, h.le, h.max, h.cells.at_⟩
  have hb0 := one_ok w (.cells #[.int .i64 (k : Nat), .int .i64 (f : Nat), .int .i64 (t : Nat)] 32)
  have ew : IntKind.i64.wrap ((t : Int) - f) = (t : Int) - f := IntWalk.i64_in _ (by omega)
  unfold isP at hv
  simp only at hv
  by_cases hl : t = f + s.size
  · rw [decide_eq_true hl, Bool.true_and] at hv
    have HST := Lib.hid (fun q => startsC ((RR.below hb0).drewN q) S f (by omega) hv)
    have q1 : ((t : Int) - f == (s.size : Int)) = true := by simp; omega
    have q2 : (t : Int) - f = (s.size : Int) := by omega
    clear RR hv hb0 h hl
    go_enter Try.func72, Try.ntmps72
    go_wp2
    go_quiet ((go_at_call 59; exact Calls.quiet_of (HST.out _)))
    go_wp2
    go_ret
    exact ⟨rfl, below_drewN (one_ok w _) _⟩
  · rw [decide_eq_false hl, Bool.false_and] at hv
    subst hv
    have q1 : ((t : Int) - f == (s.size : Int)) = false := by simp; omega
    have q2 : ¬ (t : Int) - f = (s.size : Int) := by omega
    clear RR hb0 h hl
    go_enter Try.func72, Try.ntmps72
    go_wp2
    go_quiet (fail)
    go_wp2
    go_ret
    exact ⟨rfl, below_drewN (one_ok w _) _⟩

end Go.Proofs.Ytpjcheelafegbaa
