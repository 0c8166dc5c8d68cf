/-
  Contracts of layer 7: Next.
-/
import Derived.Test.YtbljgoieieoamaaLexH
namespace Go.Proofs.Ytbljgoieieoamaa
open Go.RowKit
set_option linter.unusedVariables false

theorem ret_nx {a b c a' b' c' : Int} {d : Bool} (h : a = a') (h' : b = b') (h2 : c = c') : Ending.returned (.tuple #[tokI a b c d, .bool true]) = .returned (.tuple #[tokI a' b' c' d, .bool true]) := by rw [h, h', h2]

set_option maxHeartbeats 1000000 in
theorem next_end (a : Option Addr) (n cap : Nat) (k : Nat) (hk : n ≤ k) (hkb : k < 4611686018427387904) (w : World) :
    Says 43 #[.slice a n cap, .int .i64 k] (.tuple #[tokI 0 0 0 false, .bool false]) w w := by
  have hk' : (n : Int) ≤ k := by omega
  go_enter Try.func43, Try.ntmps43
  go_wp2
  refine bodyPost_ret (v := .tuple #[tokI 0 0 0 false, .bool false]) ?_ rfl ⟨rfl, one_ok _ _⟩
  simp [results, Try.results43, go_sem, tokI]

set_option maxHeartbeats 1000000 in
theorem next_m {b off n cap : Nat} {l : List Int} {w : World} (R : RRow w b off n cap l) (k : Nat) (hk : k < n) (hz : l.getD k 0 = 60) (t : Tok) (ht : mupP (l.drop k) = t) :
    Says 43 #[.slice (some ⟨b, off, none⟩) n cap, .int .i64 k] (.tuple #[tokI t.1 k ((k : Int) + t.2.1) t.2.2, .bool true]) w w := by
  have hm := R.max
  have hc := R.le
  unfold maxLen at hm
  have hk' : ¬ (n : Int) ≤ k := by omega
  obtain ⟨b', off', hy, hc1⟩ := R.cells.int (k := k) (by rw [R.len]; exact hk)
  simp only [Option.some.injEq, Addr.mk.injEq] at hy
  obtain ⟨rfl, rfl, _⟩ := hy
  have hblt := cell_lt hc1
  have hbn : ¬ b = w.heap.size := by omega
  rw [hz] at hc1
  have HM := Lib.hid (markupB (R.below (one_ok w tokB)) k hk ht)
  clear ht hz
  have hb : Below (w.alloc tokB).heap.size (w.alloc tokB) (w.alloc tokB) := Below.refl _ _
  clear R
  go_enter Try.func43, Try.ntmps43
  go_wp2_with (first
    | (go_at_call 69; (with_reducible refine (HM.out _ hb).mono ?_); rintro e w1 ⟨rfl, hb1⟩; obtain ⟨c1, c2⟩ := bcell hb1))
  refine bodyPost_ret (v := .tuple #[tokI t.1 k ((k : Int) + t.2.1) t.2.2, .bool true]) ?_ rfl ⟨rfl, ?_⟩
  · simp [results, Try.results43, go_sem, c1, tokI]
  · exact (((((one_ok w tokB).trans (hb1.mono (by simp))).setCell (by simp) _).setCell (by simp) _).setCell (by simp) _).setCell (by simp) _

set_option maxHeartbeats 1000000 in
theorem next_r {b off n cap : Nat} {l : List Int} {w : World} (R : RRow w b off n cap l) (k : Nat) (hk : k < n) (hz : l.getD k 0 = 38) (t : Tok) (ht : refP (l.drop k) = t) :
    Says 43 #[.slice (some ⟨b, off, none⟩) n cap, .int .i64 k] (.tuple #[tokI t.1 k ((k : Int) + t.2.1) t.2.2, .bool true]) w w := by
  have hm := R.max
  have hc := R.le
  unfold maxLen at hm
  have hk' : ¬ (n : Int) ≤ k := by omega
  obtain ⟨b', off', hy, hc1⟩ := R.cells.int (k := k) (by rw [R.len]; exact hk)
  simp only [Option.some.injEq, Addr.mk.injEq] at hy
  obtain ⟨rfl, rfl, _⟩ := hy
  have hblt := cell_lt hc1
  have hbn : ¬ b = w.heap.size := by omega
  rw [hz] at hc1
  have HM := Lib.hid (referenceB (R.below (one_ok w tokB)) k hk ht)
  clear ht hz
  have hb : Below (w.alloc tokB).heap.size (w.alloc tokB) (w.alloc tokB) := Below.refl _ _
  clear R
  go_enter Try.func43, Try.ntmps43
  go_wp2_with (first
    | (go_at_call 70; (with_reducible refine (HM.out _ hb).mono ?_); rintro e w1 ⟨rfl, hb1⟩; obtain ⟨c1, c2⟩ := bcell hb1))
  refine bodyPost_ret (v := .tuple #[tokI t.1 k ((k : Int) + t.2.1) t.2.2, .bool true]) ?_ rfl ⟨rfl, ?_⟩
  · simp [results, Try.results43, go_sem, c1, tokI]
  · exact (((((one_ok w tokB).trans (hb1.mono (by simp))).setCell (by simp) _).setCell (by simp) _).setCell (by simp) _).setCell (by simp) _

set_option maxHeartbeats 1000000 in
theorem next_b {b off n cap : Nat} {l : List Int} {w : World} (R : RRow w b off n cap l) (k : Nat) (hk : k < n) (hz : l.getD k 0 = -1) :
    Says 43 #[.slice (some ⟨b, off, none⟩) n cap, .int .i64 k] (.tuple #[tokI 11 k ((k : Int) + 1) false, .bool true]) w w := by
  have hm := R.max
  have hc := R.le
  unfold maxLen at hm
  have hk' : ¬ (n : Int) ≤ k := by omega
  obtain ⟨b', off', hy, hc1⟩ := R.cells.int (k := k) (by rw [R.len]; exact hk)
  simp only [Option.some.injEq, Addr.mk.injEq] at hy
  obtain ⟨rfl, rfl, _⟩ := hy
  have hblt := cell_lt hc1
  have hbn : ¬ b = w.heap.size := by omega
  rw [hz] at hc1
  have HM := Lib.hid (brokenB (W := w.alloc tokB) k (by omega))
  clear hz
  unfold tokV at HM
  simp only [Int.natCast_add, Int.cast_ofNat_Int] at HM
  have hb : Below (w.alloc tokB).heap.size (w.alloc tokB) (w.alloc tokB) := Below.refl _ _
  clear R
  go_enter Try.func43, Try.ntmps43
  go_wp2_with (first
    | (go_at_call 71; (with_reducible refine (HM.out _ hb).mono ?_); rintro e w1 ⟨rfl, hb1⟩; obtain ⟨c1, c2⟩ := bcell hb1))
  refine bodyPost_ret (v := .tuple #[tokI 11 k ((k : Int) + 1) false, .bool true]) ?_ rfl ⟨rfl, ?_⟩
  · simp [results, Try.results43, go_sem, c1, tokI]
  · exact (((((one_ok w tokB).trans (hb1.mono (by simp))).setCell (by simp) _).setCell (by simp) _).setCell (by simp) _).setCell (by simp) _

set_option maxHeartbeats 1000000 in
theorem next_t {b off n cap : Nat} {l : List Int} {w : World} (R : RRow w b off n cap l) (k : Nat) (hk : k < n) (z : Int) (hz : l.getD k 0 = z) (h60 : ¬ z = 60) (h38 : ¬ z = 38) (h1 : ¬ z = -1) (q : Nat) (hq : runP plainB (l.drop k) = q) (hqn : k + q ≤ n) :
    Says 43 #[.slice (some ⟨b, off, none⟩) n cap, .int .i64 k] (.tuple #[tokI 1 k ((k : Int) + q) true, .bool true]) w w := by
  have hm := R.max
  have hc := R.le
  unfold maxLen at hm
  have hk' : ¬ (n : Int) ≤ k := by omega
  obtain ⟨b', off', hy, hc1⟩ := R.cells.int (k := k) (by rw [R.len]; exact hk)
  simp only [Option.some.injEq, Addr.mk.injEq] at hy
  obtain ⟨rfl, rfl, _⟩ := hy
  have hblt := cell_lt hc1
  have hbn : ¬ b = w.heap.size := by omega
  rw [hz] at hc1
  have HM := Lib.hid (runplainB (R.below (one_ok w tokB)) k (by omega) hq)
  have e60 : (z == 60) = false := by simpa using h60
  have e38 : (z == 38) = false := by simpa using h38
  have e1 : (z == -1) = false := by simpa using h1
  clear hz hq
  have hb : Below (w.alloc tokB).heap.size (w.alloc tokB) (w.alloc tokB) := Below.refl _ _
  clear R
  go_enter Try.func43, Try.ntmps43
  go_wp2_with (first
    | (go_at_call 58; (with_reducible refine (HM.out _ hb).mono ?_); rintro e w1 ⟨rfl, hb1⟩; obtain ⟨c1, c2⟩ := bcell hb1))
  refine bodyPost_ret (v := .tuple #[tokI 1 k ((k : Int) + q) true, .bool true]) ?_ rfl ⟨rfl, ?_⟩
  · simp [results, Try.results43, go_sem, c1, tokI]
  · exact (((((one_ok w tokB).trans (hb1.mono (by simp))).setCell (by simp) _).setCell (by simp) _).setCell (by simp) _).setCell (by simp) _

theorem next_any {b off n cap : Nat} {l : List Int} {w : World} (R : RRow w b off n cap l) (k : Nat) (hk : k < n) {t : Tok} (ht : tokP (l.drop k) = t) :
    Says 43 #[.slice (some ⟨b, off, none⟩) n cap, .int .i64 k] (.tuple #[tokI t.1 k ((k : Int) + t.2.1) t.2.2, .bool true]) w w := by
  have h0 : (l.drop k).getD 0 0 = l.getD k 0 := by simp
  unfold tokP at ht
  rw [h0] at ht
  by_cases h60 : l.getD k 0 = 60
  · rw [if_pos h60] at ht
    exact next_m R k hk h60 t ht
  rw [if_neg h60] at ht
  by_cases h38 : l.getD k 0 = 38
  · rw [if_pos h38] at ht
    exact next_r R k hk h38 t ht
  rw [if_neg h38] at ht
  by_cases h1 : l.getD k 0 = -1
  · rw [if_pos h1] at ht
    subst ht
    exact next_b R k hk h1
  rw [if_neg h1] at ht
  subst ht
  have hr := runP_le plainB (l.drop k)
  rw [dropl, R.len] at hr
  exact next_t R k hk _ rfl h60 h38 h1 (runP plainB (l.drop k)) rfl (by omega)

theorem nextB {b off n cap : Nat} {l : List Int} {W : World} (R : RRow W b off n cap l) (k : Nat) (hk : k < n) {t : Tok} (ht : tokP (l.drop k) = t) (w : World) (hb : Below W.heap.size W w) :
    Says 43 #[.slice (some ⟨b, off, none⟩) n cap, .int .i64 k] (.tuple #[tokI t.1 k ((k : Int) + t.2.1) t.2.2, .bool true]) W w :=
  (next_any (R.below hb) k hk ht).mono fun e w' ⟨he, hw⟩ => ⟨he, Below.more hb hw⟩
theorem nextEndB {W : World} (a : Option Addr) (n cap : Nat) (k : Nat) (hk : n ≤ k) (hkb : k < 4611686018427387904) (w : World) (hb : Below W.heap.size W w) :
    Says 43 #[.slice a n cap, .int .i64 k] (.tuple #[tokI 0 0 0 false, .bool false]) W w :=
  (next_end a n cap k hk hkb w).mono fun e w' ⟨he, hw⟩ => ⟨he, Below.more hb hw⟩

end Go.Proofs.Ytbljgoieieoamaa
