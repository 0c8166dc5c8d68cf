/-
  Layer 14: the reference's token behind an & (made by gen_rfu.py).
-/
import Derived.Test.YtbljgoieieoamaaRfS
namespace Go.Proofs.Ytbljgoieieoamaa
open Go.RowKit
set_option linter.unusedVariables false

/-- The block of a result that is the reference's token. -/
abbrev tokR : Obj := .cells #[.int .i64 0, .int .i64 0, .int .i64 0, .bool false] 73

theorem RRow.at_ {w : World} {b off n cap : Nat} {l : List Int} (R : RRow w b off n cap l) (k : Nat) (hk : k < n) : w.cell? ⟨b, off + k, none⟩ = some (.int .i32 (l.getD k 0)) := by
  obtain ⟨b', off', hy, hc⟩ := R.cells.int (k := k) (by rw [R.len]; exact hk)
  simp only [Option.some.injEq, Addr.mk.injEq] at hy
  obtain ⟨rfl, rfl, _⟩ := hy
  exact hc

set_option maxHeartbeats 1000000 in
theorem refref_zero {b off n cap : Nat} {l : List Int} {w : World} (R : RRow w b off n cap l) (hwf : ∀ j, -2147483648 ≤ l.getD j 0 ∧ l.getD j 0 ≤ 2147483647) (hn : n ≤ 1000) (k : Nat) (hk : k < n) (h1 : sw sNo (l.drop k) = false) (hq : leadP (l.drop (k + 1)) = 0) :
    Says 67 #[.slice (some ⟨b, off, none⟩) n cap, .int .i64 k] (tokV k (11, 1, false)) w w := by
  have hm := R.max
  have hc := R.le
  unfold maxLen at hm
  have hb : Below (w.alloc tokR).heap.size (w.alloc tokR) (w.alloc tokR) := Below.refl _ _
  obtain ⟨c1, c2⟩ := bcell hb
  have R0 := R.below (one_ok w tokR)
  have H1 := Lib.hid (refStartsB R0 hwf sNoS k (by omega) h1)
  have H3 := Lib.hid (refLeadB R0 (k + 1) hq)
  simp only [Int.natCast_add, Int.cast_ofNat_Int] at H3
  clear R R0 h1 hq
  unfold tokV at *
  go_enter Try.func67, Try.ntmps67
  go_wp2_with (first
    | (go_at_call 61; (with_reducible refine (H1.out _ hb).mono ?_); rintro e w1 ⟨rfl, hb1⟩; replace hb := hb1; clear hb1 c1 c2; obtain ⟨c1, c2⟩ := bcell hb)
    | (go_at_call 86; (with_reducible refine (H3.out _ hb).mono ?_); rintro e w1 ⟨rfl, hb1⟩; replace hb := hb1; clear hb1 c1 c2; obtain ⟨c1, c2⟩ := bcell hb; skip))
  refine bodyPost_ret (v := tokI 11 k (k + 1) false) ?_ rfl ⟨?_, ?_⟩
  · simp [results, Try.results67, go_sem, c1, tokI]
  · exact ret_tok rfl rfl (by first | omega | (simp only []; omega))
  · exact (((((one_ok w tokR).trans (hb.mono (by simp))).setCell (by simp) _).setCell (by simp) _).setCell (by simp) _).setCell (by simp) _

set_option maxHeartbeats 1000000 in
theorem refref_end {b off n cap : Nat} {l : List Int} {w : World} (R : RRow w b off n cap l) (hwf : ∀ j, -2147483648 ≤ l.getD j 0 ∧ l.getD j 0 ≤ 2147483647) (hn : n ≤ 1000) (k : Nat) (hk : k < n) (h1 : sw sNo (l.drop k) = false) (q : Nat) (hq : leadP (l.drop (k + 1)) = q) (h0 : 0 < q) (hin : k + 1 + q = n) :
    Says 67 #[.slice (some ⟨b, off, none⟩) n cap, .int .i64 k] (tokV k (11, 1, false)) w w := by
  have hm := R.max
  have hc := R.le
  unfold maxLen at hm
  have hb : Below (w.alloc tokR).heap.size (w.alloc tokR) (w.alloc tokR) := Below.refl _ _
  obtain ⟨c1, c2⟩ := bcell hb
  have R0 := R.below (one_ok w tokR)
  have H1 := Lib.hid (refStartsB R0 hwf sNoS k (by omega) h1)
  have H3 := Lib.hid (refLeadB R0 (k + 1) hq)
  simp only [Int.natCast_add, Int.cast_ofNat_Int] at H3
  have hin' : ¬ (k : Int) + 1 + q < n := by omega
  have h0' : (0 : Int) < q := by omega
  clear R R0 h1 hq
  unfold tokV at *
  go_enter Try.func67, Try.ntmps67
  go_wp2_with (first
    | (go_at_call 61; (with_reducible refine (H1.out _ hb).mono ?_); rintro e w1 ⟨rfl, hb1⟩; replace hb := hb1; clear hb1 c1 c2; obtain ⟨c1, c2⟩ := bcell hb)
    | (go_at_call 86; (with_reducible refine (H3.out _ hb).mono ?_); rintro e w1 ⟨rfl, hb1⟩; replace hb := hb1; clear hb1 c1 c2; obtain ⟨c1, c2⟩ := bcell hb; skip))
  refine bodyPost_ret (v := tokI 11 k (k + 1) false) ?_ rfl ⟨?_, ?_⟩
  · simp [results, Try.results67, go_sem, c1, tokI]
  · exact ret_tok rfl rfl (by first | omega | (simp only []; omega))
  · exact (((((one_ok w tokR).trans (hb.mono (by simp))).setCell (by simp) _).setCell (by simp) _).setCell (by simp) _).setCell (by simp) _

set_option maxHeartbeats 1000000 in
theorem refref_no {b off n cap : Nat} {l : List Int} {w : World} (R : RRow w b off n cap l) (hwf : ∀ j, -2147483648 ≤ l.getD j 0 ∧ l.getD j 0 ≤ 2147483647) (hn : n ≤ 1000) (k : Nat) (hk : k < n) (h1 : sw sNo (l.drop k) = false) (q : Nat) (hq : leadP (l.drop (k + 1)) = q) (h0 : 0 < q) (hin : k + 1 + q < n) (z : Int) (hz : l.getD (k + 1 + q) 0 = z) (h3 : ¬ z = 59) :
    Says 67 #[.slice (some ⟨b, off, none⟩) n cap, .int .i64 k] (tokV k (11, 1, false)) w w := by
  have hm := R.max
  have hc := R.le
  unfold maxLen at hm
  have hb : Below (w.alloc tokR).heap.size (w.alloc tokR) (w.alloc tokR) := Below.refl _ _
  obtain ⟨c1, c2⟩ := bcell hb
  have R0 := R.below (one_ok w tokR)
  have H1 := Lib.hid (refStartsB R0 hwf sNoS k (by omega) h1)
  have H3 := Lib.hid (refLeadB R0 (k + 1) hq)
  simp only [Int.natCast_add, Int.cast_ofNat_Int] at H3
  have HC := Lib.hid (fun W (hb : Below (w.alloc tokR).heap.size (w.alloc tokR) W) => (R0.below hb).at_ (k + 1 + q) hin)
  simp only [hz] at HC
  have hin' : (k : Int) + 1 + q < n := by omega
  have h0' : (0 : Int) < q := by omega
  have hz59 : (z == 59) = false := by simpa using h3
  clear R R0 h1 hq hz
  unfold tokV at *
  go_enter Try.func67, Try.ntmps67
  go_wp2_with (first
    | (go_at_call 61; (with_reducible refine (H1.out _ hb).mono ?_); rintro e w1 ⟨rfl, hb1⟩; replace hb := hb1; clear hb1 c1 c2; obtain ⟨c1, c2⟩ := bcell hb)
    | (go_at_call 86; (with_reducible refine (H3.out _ hb).mono ?_); rintro e w1 ⟨rfl, hb1⟩; replace hb := hb1; clear hb1 c1 c2; obtain ⟨c1, c2⟩ := bcell hb; have hc1 := HC.out _ hb))
  refine bodyPost_ret (v := tokI 11 k (k + 1) false) ?_ rfl ⟨?_, ?_⟩
  · simp [results, Try.results67, go_sem, c1, tokI]
  · exact ret_tok rfl rfl (by first | omega | (simp only []; omega))
  · exact (((((one_ok w tokR).trans (hb.mono (by simp))).setCell (by simp) _).setCell (by simp) _).setCell (by simp) _).setCell (by simp) _

set_option maxHeartbeats 1000000 in
theorem refref_yes {b off n cap : Nat} {l : List Int} {w : World} (R : RRow w b off n cap l) (hwf : ∀ j, -2147483648 ≤ l.getD j 0 ∧ l.getD j 0 ≤ 2147483647) (hn : n ≤ 1000) (k : Nat) (hk : k < n) (h1 : sw sNo (l.drop k) = false) (q : Nat) (hq : leadP (l.drop (k + 1)) = q) (h0 : 0 < q) (hin : k + 1 + q < n) (hz : l.getD (k + 1 + q) 0 = 59) :
    Says 67 #[.slice (some ⟨b, off, none⟩) n cap, .int .i64 k] (tokV k (2, 1 + q + 1, true)) w w := by
  have hm := R.max
  have hc := R.le
  unfold maxLen at hm
  have hb : Below (w.alloc tokR).heap.size (w.alloc tokR) (w.alloc tokR) := Below.refl _ _
  obtain ⟨c1, c2⟩ := bcell hb
  have R0 := R.below (one_ok w tokR)
  have H1 := Lib.hid (refStartsB R0 hwf sNoS k (by omega) h1)
  have H3 := Lib.hid (refLeadB R0 (k + 1) hq)
  simp only [Int.natCast_add, Int.cast_ofNat_Int] at H3
  have HC := Lib.hid (fun W (hb : Below (w.alloc tokR).heap.size (w.alloc tokR) W) => (R0.below hb).at_ (k + 1 + q) hin)
  simp only [hz] at HC
  have hin' : (k : Int) + 1 + q < n := by omega
  have h0' : (0 : Int) < q := by omega
  clear R R0 h1 hq hz
  go_enter Try.func67, Try.ntmps67
  go_wp2_with (first
    | (go_at_call 61; (with_reducible refine (H1.out _ hb).mono ?_); rintro e w1 ⟨rfl, hb1⟩; replace hb := hb1; clear hb1 c1 c2; obtain ⟨c1, c2⟩ := bcell hb)
    | (go_at_call 86; (with_reducible refine (H3.out _ hb).mono ?_); rintro e w1 ⟨rfl, hb1⟩; replace hb := hb1; clear hb1 c1 c2; obtain ⟨c1, c2⟩ := bcell hb; have hc1 := HC.out _ hb))
  refine bodyPost_ret (v := tokI 2 k ((k : Int) + q + 2) true) ?_ rfl ⟨?_, ?_⟩
  · simp [results, Try.results67, go_sem, c1, tokI]
  · exact ret_tok rfl rfl (by first | omega | (simp only []; omega))
  · exact (((((one_ok w tokR).trans (hb.mono (by simp))).setCell (by simp) _).setCell (by simp) _).setCell (by simp) _).setCell (by simp) _

end Go.Proofs.Ytbljgoieieoamaa
