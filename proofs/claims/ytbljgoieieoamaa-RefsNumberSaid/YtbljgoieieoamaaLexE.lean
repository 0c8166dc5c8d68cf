/-
  Contracts of layer 7: reference.
-/
import Derived.Test.YtbljgoieieoamaaLexD
namespace Go.Proofs.Ytbljgoieieoamaa
open Go.RowKit
set_option linter.unusedVariables false

theorem sDoS : Sign ⟨#[60, 33, 91, 67, 68, 65, 84, 65, 91]⟩ := Sign.of (by decide)
theorem sDcS : Sign ⟨#[93, 93, 62]⟩ := Sign.of (by decide)
theorem sHoS : Sign ⟨#[38, 35, 120]⟩ := Sign.of (by decide)
theorem sNoS : Sign ⟨#[38, 35]⟩ := Sign.of (by decide)
/-- A token as a value, that begins at a place. -/
def tokV (k : Nat) (t : Tok) : Value := .agg #[.int .i64 (t.1 : Nat), .int .i64 (k : Nat), .int .i64 ((k + t.2.1 : Nat)), .bool t.2.2]
/-- The block of a result that is a token. -/
abbrev tokB : Obj := .cells #[.int .i64 0, .int .i64 0, .int .i64 0, .bool false] 77

section
variable {b off n cap : Nat} {l : List Int} {W : World}

theorem behindB (R : RRow W b off n cap l) {s : ByteArray} (S : Sign s) (k : Nat) (hk : k ≤ n) {p : Nat × Bool} (hp : behP (sg s) (l.drop k) = p) (w : World) (hb : Below W.heap.size W w) :
    Says 88 #[.slice (some ⟨b, off, none⟩) n cap, .int .i64 k, .string s] (.tuple #[.int .i64 ((k + p.1 : Nat)), .bool p.2]) W w :=
  (behind_any (R.below hb) S k hk).mono fun e w' ⟨he, m, hw⟩ => ⟨hp ▸ he, hw ▸ below_drewN hb m⟩
theorem edgeB (R : RRow W b off n cap l) (k : Nat) (hk : k ≤ n) {p : Nat × Bool} (hp : edgeP (l.drop k) = p) (w : World) (hb : Below W.heap.size W w) :
    Says 90 #[.slice (some ⟨b, off, none⟩) n cap, .int .i64 k] (.tuple #[.int .i64 ((k + p.1 : Nat)), .bool p.2]) W w :=
  (edge_any (R.below hb) k hk).mono fun e w' ⟨he, m, hw⟩ => ⟨hp ▸ he, hw ▸ below_drewN hb m⟩
theorem doctypeB (R : RRow W b off n cap l) (k : Nat) (hk : k ≤ n) {p : Nat × Bool} (hp : docP (l.drop k) = p) (w : World) (hb : Below W.heap.size W w) :
    Says 89 #[.slice (some ⟨b, off, none⟩) n cap, .int .i64 k] (.tuple #[.int .i64 ((k + p.1 : Nat)), .bool p.2]) W w :=
  (doctype_any (R.below hb) k hk).mono fun e w' ⟨he, hw⟩ => ⟨hp ▸ he, Below.more hb hw⟩
theorem bare2B (R : RRow W b off n cap l) (x y : Int) (k : Nat) (hk : k ≤ n) {q : Nat} (hq : bareP [x, y] 0 (l.drop k) = q) (w : World) (hb : Below W.heap.size W w) (g : Nat) (hg : g = w.heap.size) :
    Says 93 #[.slice (some ⟨b, off, none⟩) n cap, .int .i64 k, .slice (some ⟨g, 0, none⟩) 2 2] (.int .i64 ((k + q : Nat))) W (w.alloc (.cells #[.int .i32 x, .int .i32 y] 21)) :=
  (bare2 (R.below hb) x y k hk g hg).mono fun e w' ⟨he, hw⟩ => ⟨hq ▸ he, Below.more hb hw⟩
theorem runplainB (R : RRow W b off n cap l) (k : Nat) (hk : k ≤ n) {q : Nat} (hq : runP plainB (l.drop k) = q) (w : World) (hb : Below W.heap.size W w) :
    Says 58 #[.slice (some ⟨b, off, none⟩) n cap, .int .i64 k, fn_plain] (.int .i64 q) W w :=
  (runplainC (R.below hb) k hk).mono fun e w' ⟨he, hw⟩ => ⟨hq ▸ he, Below.more hb hw⟩
theorem runinEndB (R : RRow W b off n cap l) (k : Nat) (hk : k ≤ n) {q : Nat} (hq : runP inEndB (l.drop k) = q) (w : World) (hb : Below W.heap.size W w) :
    Says 58 #[.slice (some ⟨b, off, none⟩) n cap, .int .i64 k, fn_inEnd] (.int .i64 q) W w :=
  (runinEndC (R.below hb) k hk).mono fun e w' ⟨he, hw⟩ => ⟨hq ▸ he, Below.more hb hw⟩
theorem rundigitB (R : RRow W b off n cap l) (k : Nat) (hk : k ≤ n) {q : Nat} (hq : runP digitB (l.drop k) = q) (w : World) (hb : Below W.heap.size W w) :
    Says 58 #[.slice (some ⟨b, off, none⟩) n cap, .int .i64 k, fn_digit] (.int .i64 q) W w :=
  (rundigitC (R.below hb) k hk).mono fun e w' ⟨he, hw⟩ => ⟨hq ▸ he, Below.more hb hw⟩
theorem runhexB (R : RRow W b off n cap l) (k : Nat) (hk : k ≤ n) {q : Nat} (hq : runP hexB (l.drop k) = q) (w : World) (hb : Below W.heap.size W w) :
    Says 58 #[.slice (some ⟨b, off, none⟩) n cap, .int .i64 k, fn_hex] (.int .i64 q) W w :=
  (runhexC (R.below hb) k hk).mono fun e w' ⟨he, hw⟩ => ⟨hq ▸ he, Below.more hb hw⟩
set_option maxHeartbeats 400000 in
theorem brokenB (k : Nat) (hk : k < 9223372036854775807) (w : World) (hb : Below W.heap.size W w) :
    Says 71 #[.int .i64 k] (tokV k (11, 1, false)) W w := by
  have hz := hb.size
  have HB := Lib.hid hb
  clear hb
  go_enter Try.func71, Try.ntmps71
  go_wp2
  refine bodyPost_ret (v := tokV k (11, 1, false)) (by simp [results, Try.results71, go_sem]; rfl) rfl ⟨rfl, ?_⟩
  exact HB.out.alloc hz _

/-- A token's value, by integers. -/
abbrev tokI (a b c : Int) (d : Bool) : Value := .agg #[.int .i64 a, .int .i64 b, .int .i64 c, .bool d]
theorem ret_tok {a b c a' b' c' : Int} {d : Bool} (h : a = a') (h' : b = b') (h2 : c = c') : Ending.returned (tokI a b c d) = .returned (tokI a' b' c' d) := by rw [h, h', h2]

end


set_option maxHeartbeats 1000000 in
theorem reference_hex_zero {b off n cap : Nat} {l : List Int} {w : World} (R : RRow w b off n cap l) (k : Nat) (hk : k < n) (hki : k + 3 ≤ n) (h1 : sw sHo (l.drop k) = true) (hq : runP hexB (l.drop (k + 3)) = 0) :
    Says 70 #[.slice (some ⟨b, off, none⟩) n cap, .int .i64 k] (tokV k (11, 1, false)) w w := by
  have hm := R.max
  have hc := R.le
  unfold maxLen at hm
  have hb : Below (w.alloc tokB).heap.size (w.alloc tokB) (w.alloc tokB) := Below.refl _ _
  obtain ⟨c1, c2⟩ := bcell hb
  have R0 := R.below (one_ok w tokB)
  have H1 := Lib.hid (startsB R0 sHoS k (by omega) h1)
  have H3 := Lib.hid (runhexB R0 (k + 3) hki hq)
  simp only [Int.natCast_add, Int.cast_ofNat_Int] at H3
  have H5 := Lib.hid (brokenB (W := w.alloc tokB) k (by omega))
  clear R R0 h1 hq
  unfold tokV at *
  go_enter Try.func70, Try.ntmps70
  go_wp2_with (first
    | (go_at_call 46; (with_reducible refine (H1.out _ hb).mono ?_); rintro e w1 ⟨rfl, hb1⟩; replace hb := hb1; clear hb1 c1 c2; obtain ⟨c1, c2⟩ := bcell hb)
    | (go_at_call 58; (with_reducible refine (H3.out _ hb).mono ?_); rintro e w1 ⟨rfl, hb1⟩; replace hb := hb1; clear hb1 c1 c2; obtain ⟨c1, c2⟩ := bcell hb)
    | (go_at_call 71; (with_reducible refine (H5.out _ hb).mono ?_); rintro e w1 ⟨rfl, hb1⟩; replace hb := hb1; clear hb1 c1 c2; obtain ⟨c1, c2⟩ := bcell hb))
  refine bodyPost_ret (v := tokI 11 k (k + 1) false) ?_ rfl ⟨?_, ?_⟩
  · simp [results, Try.results70, go_sem, c1, tokI]
  · exact ret_tok rfl rfl (by first | omega | (simp only []; omega))
  · exact (((((one_ok w tokB).trans (hb.mono (by simp))).setCell (by simp) _).setCell (by simp) _).setCell (by simp) _).setCell (by simp) _

set_option maxHeartbeats 1000000 in
theorem reference_hex_no {b off n cap : Nat} {l : List Int} {w : World} (R : RRow w b off n cap l) (k : Nat) (hk : k < n) (hki : k + 3 ≤ n) (h1 : sw sHo (l.drop k) = true) (q : Nat) (hq : runP hexB (l.drop (k + 3)) = q) (h0 : 0 < q) (hin : k + 3 + q ≤ n) (h3 : sw sSc (l.drop (k + 3 + q)) = false) :
    Says 70 #[.slice (some ⟨b, off, none⟩) n cap, .int .i64 k] (tokV k (11, 1, false)) w w := by
  have hm := R.max
  have hc := R.le
  unfold maxLen at hm
  have hb : Below (w.alloc tokB).heap.size (w.alloc tokB) (w.alloc tokB) := Below.refl _ _
  obtain ⟨c1, c2⟩ := bcell hb
  have R0 := R.below (one_ok w tokB)
  have H1 := Lib.hid (startsB R0 sHoS k (by omega) h1)
  have H3 := Lib.hid (runhexB R0 (k + 3) hki hq)
  simp only [Int.natCast_add, Int.cast_ofNat_Int] at H3
  have H4 := Lib.hid (startsB R0 sScS (k + 3 + q) (by omega) h3)
  simp only [Int.natCast_add, Int.cast_ofNat_Int] at H4
  have H5 := Lib.hid (brokenB (W := w.alloc tokB) k (by omega))
  have hq0 : ((q : Int) == 0) = false := by simp; omega
  clear R R0 h1 hq h3
  unfold tokV at *
  go_enter Try.func70, Try.ntmps70
  go_wp2_with (first
    | (go_at_call 46; (with_reducible refine (H1.out _ hb).mono ?_); rintro e w1 ⟨rfl, hb1⟩; replace hb := hb1; clear hb1 c1 c2; obtain ⟨c1, c2⟩ := bcell hb)
    | (go_at_call 58; (with_reducible refine (H3.out _ hb).mono ?_); rintro e w1 ⟨rfl, hb1⟩; replace hb := hb1; clear hb1 c1 c2; obtain ⟨c1, c2⟩ := bcell hb)
    | (go_at_call 46; (with_reducible refine (H4.out _ hb).mono ?_); rintro e w1 ⟨rfl, hb1⟩; replace hb := hb1; clear hb1 c1 c2; obtain ⟨c1, c2⟩ := bcell hb)
    | (go_at_call 71; (with_reducible refine (H5.out _ hb).mono ?_); rintro e w1 ⟨rfl, hb1⟩; replace hb := hb1; clear hb1 c1 c2; obtain ⟨c1, c2⟩ := bcell hb))
  refine bodyPost_ret (v := tokI 11 k (k + 1) false) ?_ rfl ⟨?_, ?_⟩
  · simp [results, Try.results70, go_sem, c1, tokI]
  · exact ret_tok rfl rfl (by first | omega | (simp only []; omega))
  · exact (((((one_ok w tokB).trans (hb.mono (by simp))).setCell (by simp) _).setCell (by simp) _).setCell (by simp) _).setCell (by simp) _

set_option maxHeartbeats 1000000 in
theorem reference_hex_yes {b off n cap : Nat} {l : List Int} {w : World} (R : RRow w b off n cap l) (k : Nat) (hk : k < n) (hki : k + 3 ≤ n) (h1 : sw sHo (l.drop k) = true) (q : Nat) (hq : runP hexB (l.drop (k + 3)) = q) (h0 : 0 < q) (hin : k + 3 + q < n) (h3 : sw sSc (l.drop (k + 3 + q)) = true) :
    Says 70 #[.slice (some ⟨b, off, none⟩) n cap, .int .i64 k] (tokV k (3, 3 + q + 1, true)) w w := by
  have hm := R.max
  have hc := R.le
  unfold maxLen at hm
  have hb : Below (w.alloc tokB).heap.size (w.alloc tokB) (w.alloc tokB) := Below.refl _ _
  obtain ⟨c1, c2⟩ := bcell hb
  have R0 := R.below (one_ok w tokB)
  have H1 := Lib.hid (startsB R0 sHoS k (by omega) h1)
  have H3 := Lib.hid (runhexB R0 (k + 3) hki hq)
  simp only [Int.natCast_add, Int.cast_ofNat_Int] at H3
  have H4 := Lib.hid (startsB R0 sScS (k + 3 + q) (by omega) h3)
  simp only [Int.natCast_add, Int.cast_ofNat_Int] at H4
  have hq0 : ((q : Int) == 0) = false := by simp; omega
  clear R R0 h1 hq h3
  go_enter Try.func70, Try.ntmps70
  go_wp2_with (first
    | (go_at_call 46; (with_reducible refine (H1.out _ hb).mono ?_); rintro e w1 ⟨rfl, hb1⟩; replace hb := hb1; clear hb1 c1 c2; obtain ⟨c1, c2⟩ := bcell hb)
    | (go_at_call 58; (with_reducible refine (H3.out _ hb).mono ?_); rintro e w1 ⟨rfl, hb1⟩; replace hb := hb1; clear hb1 c1 c2; obtain ⟨c1, c2⟩ := bcell hb)
    | (go_at_call 46; (with_reducible refine (H4.out _ hb).mono ?_); rintro e w1 ⟨rfl, hb1⟩; replace hb := hb1; clear hb1 c1 c2; obtain ⟨c1, c2⟩ := bcell hb))
  refine bodyPost_ret (v := tokI 3 k ((k : Int) + 3 + q + 1) true) ?_ rfl ⟨?_, ?_⟩
  · simp [results, Try.results70, go_sem, c1, tokI]
  · exact ret_tok rfl rfl (by first | omega | (simp only []; omega))
  · exact (((((one_ok w tokB).trans (hb.mono (by simp))).setCell (by simp) _).setCell (by simp) _).setCell (by simp) _).setCell (by simp) _

set_option maxHeartbeats 1000000 in
theorem reference_num_zero {b off n cap : Nat} {l : List Int} {w : World} (R : RRow w b off n cap l) (k : Nat) (hk : k < n) (hki : k + 2 ≤ n) (h1 : sw sHo (l.drop k) = false) (h2 : sw sNo (l.drop k) = true) (hq : runP digitB (l.drop (k + 2)) = 0) :
    Says 70 #[.slice (some ⟨b, off, none⟩) n cap, .int .i64 k] (tokV k (11, 1, false)) w w := by
  have hm := R.max
  have hc := R.le
  unfold maxLen at hm
  have hb : Below (w.alloc tokB).heap.size (w.alloc tokB) (w.alloc tokB) := Below.refl _ _
  obtain ⟨c1, c2⟩ := bcell hb
  have R0 := R.below (one_ok w tokB)
  have H1 := Lib.hid (startsB R0 sHoS k (by omega) h1)
  have H2 := Lib.hid (startsB R0 sNoS k (by omega) h2)
  have H3 := Lib.hid (rundigitB R0 (k + 2) hki hq)
  simp only [Int.natCast_add, Int.cast_ofNat_Int] at H3
  have H5 := Lib.hid (brokenB (W := w.alloc tokB) k (by omega))
  clear R R0 h1 hq h2
  unfold tokV at *
  go_enter Try.func70, Try.ntmps70
  go_wp2_with (first
    | (go_at_call 46; (with_reducible refine (H1.out _ hb).mono ?_); rintro e w1 ⟨rfl, hb1⟩; replace hb := hb1; clear hb1 c1 c2; obtain ⟨c1, c2⟩ := bcell hb)
    | (go_at_call 46; (with_reducible refine (H2.out _ hb).mono ?_); rintro e w1 ⟨rfl, hb1⟩; replace hb := hb1; clear hb1 c1 c2; obtain ⟨c1, c2⟩ := bcell hb)
    | (go_at_call 58; (with_reducible refine (H3.out _ hb).mono ?_); rintro e w1 ⟨rfl, hb1⟩; replace hb := hb1; clear hb1 c1 c2; obtain ⟨c1, c2⟩ := bcell hb)
    | (go_at_call 71; (with_reducible refine (H5.out _ hb).mono ?_); rintro e w1 ⟨rfl, hb1⟩; replace hb := hb1; clear hb1 c1 c2; obtain ⟨c1, c2⟩ := bcell hb))
  refine bodyPost_ret (v := tokI 11 k (k + 1) false) ?_ rfl ⟨?_, ?_⟩
  · simp [results, Try.results70, go_sem, c1, tokI]
  · exact ret_tok rfl rfl (by first | omega | (simp only []; omega))
  · exact (((((one_ok w tokB).trans (hb.mono (by simp))).setCell (by simp) _).setCell (by simp) _).setCell (by simp) _).setCell (by simp) _

set_option maxHeartbeats 1000000 in
theorem reference_num_no {b off n cap : Nat} {l : List Int} {w : World} (R : RRow w b off n cap l) (k : Nat) (hk : k < n) (hki : k + 2 ≤ n) (h1 : sw sHo (l.drop k) = false) (h2 : sw sNo (l.drop k) = true) (q : Nat) (hq : runP digitB (l.drop (k + 2)) = q) (h0 : 0 < q) (hin : k + 2 + q ≤ n) (h3 : sw sSc (l.drop (k + 2 + q)) = false) :
    Says 70 #[.slice (some ⟨b, off, none⟩) n cap, .int .i64 k] (tokV k (11, 1, false)) w w := by
  have hm := R.max
  have hc := R.le
  unfold maxLen at hm
  have hb : Below (w.alloc tokB).heap.size (w.alloc tokB) (w.alloc tokB) := Below.refl _ _
  obtain ⟨c1, c2⟩ := bcell hb
  have R0 := R.below (one_ok w tokB)
  have H1 := Lib.hid (startsB R0 sHoS k (by omega) h1)
  have H2 := Lib.hid (startsB R0 sNoS k (by omega) h2)
  have H3 := Lib.hid (rundigitB R0 (k + 2) hki hq)
  simp only [Int.natCast_add, Int.cast_ofNat_Int] at H3
  have H4 := Lib.hid (startsB R0 sScS (k + 2 + q) (by omega) h3)
  simp only [Int.natCast_add, Int.cast_ofNat_Int] at H4
  have H5 := Lib.hid (brokenB (W := w.alloc tokB) k (by omega))
  have hq0 : ((q : Int) == 0) = false := by simp; omega
  clear R R0 h1 hq h2 h3
  unfold tokV at *
  go_enter Try.func70, Try.ntmps70
  go_wp2_with (first
    | (go_at_call 46; (with_reducible refine (H1.out _ hb).mono ?_); rintro e w1 ⟨rfl, hb1⟩; replace hb := hb1; clear hb1 c1 c2; obtain ⟨c1, c2⟩ := bcell hb)
    | (go_at_call 46; (with_reducible refine (H2.out _ hb).mono ?_); rintro e w1 ⟨rfl, hb1⟩; replace hb := hb1; clear hb1 c1 c2; obtain ⟨c1, c2⟩ := bcell hb)
    | (go_at_call 58; (with_reducible refine (H3.out _ hb).mono ?_); rintro e w1 ⟨rfl, hb1⟩; replace hb := hb1; clear hb1 c1 c2; obtain ⟨c1, c2⟩ := bcell hb)
    | (go_at_call 46; (with_reducible refine (H4.out _ hb).mono ?_); rintro e w1 ⟨rfl, hb1⟩; replace hb := hb1; clear hb1 c1 c2; obtain ⟨c1, c2⟩ := bcell hb)
    | (go_at_call 71; (with_reducible refine (H5.out _ hb).mono ?_); rintro e w1 ⟨rfl, hb1⟩; replace hb := hb1; clear hb1 c1 c2; obtain ⟨c1, c2⟩ := bcell hb))
  refine bodyPost_ret (v := tokI 11 k (k + 1) false) ?_ rfl ⟨?_, ?_⟩
  · simp [results, Try.results70, go_sem, c1, tokI]
  · exact ret_tok rfl rfl (by first | omega | (simp only []; omega))
  · exact (((((one_ok w tokB).trans (hb.mono (by simp))).setCell (by simp) _).setCell (by simp) _).setCell (by simp) _).setCell (by simp) _

set_option maxHeartbeats 1000000 in
theorem reference_num_yes {b off n cap : Nat} {l : List Int} {w : World} (R : RRow w b off n cap l) (k : Nat) (hk : k < n) (hki : k + 2 ≤ n) (h1 : sw sHo (l.drop k) = false) (h2 : sw sNo (l.drop k) = true) (q : Nat) (hq : runP digitB (l.drop (k + 2)) = q) (h0 : 0 < q) (hin : k + 2 + q < n) (h3 : sw sSc (l.drop (k + 2 + q)) = true) :
    Says 70 #[.slice (some ⟨b, off, none⟩) n cap, .int .i64 k] (tokV k (3, 2 + q + 1, true)) w w := by
  have hm := R.max
  have hc := R.le
  unfold maxLen at hm
  have hb : Below (w.alloc tokB).heap.size (w.alloc tokB) (w.alloc tokB) := Below.refl _ _
  obtain ⟨c1, c2⟩ := bcell hb
  have R0 := R.below (one_ok w tokB)
  have H1 := Lib.hid (startsB R0 sHoS k (by omega) h1)
  have H2 := Lib.hid (startsB R0 sNoS k (by omega) h2)
  have H3 := Lib.hid (rundigitB R0 (k + 2) hki hq)
  simp only [Int.natCast_add, Int.cast_ofNat_Int] at H3
  have H4 := Lib.hid (startsB R0 sScS (k + 2 + q) (by omega) h3)
  simp only [Int.natCast_add, Int.cast_ofNat_Int] at H4
  have hq0 : ((q : Int) == 0) = false := by simp; omega
  clear R R0 h1 hq h2 h3
  go_enter Try.func70, Try.ntmps70
  go_wp2_with (first
    | (go_at_call 46; (with_reducible refine (H1.out _ hb).mono ?_); rintro e w1 ⟨rfl, hb1⟩; replace hb := hb1; clear hb1 c1 c2; obtain ⟨c1, c2⟩ := bcell hb)
    | (go_at_call 46; (with_reducible refine (H2.out _ hb).mono ?_); rintro e w1 ⟨rfl, hb1⟩; replace hb := hb1; clear hb1 c1 c2; obtain ⟨c1, c2⟩ := bcell hb)
    | (go_at_call 58; (with_reducible refine (H3.out _ hb).mono ?_); rintro e w1 ⟨rfl, hb1⟩; replace hb := hb1; clear hb1 c1 c2; obtain ⟨c1, c2⟩ := bcell hb)
    | (go_at_call 46; (with_reducible refine (H4.out _ hb).mono ?_); rintro e w1 ⟨rfl, hb1⟩; replace hb := hb1; clear hb1 c1 c2; obtain ⟨c1, c2⟩ := bcell hb))
  refine bodyPost_ret (v := tokI 3 k ((k : Int) + 2 + q + 1) true) ?_ rfl ⟨?_, ?_⟩
  · simp [results, Try.results70, go_sem, c1, tokI]
  · exact ret_tok rfl rfl (by first | omega | (simp only []; omega))
  · exact (((((one_ok w tokB).trans (hb.mono (by simp))).setCell (by simp) _).setCell (by simp) _).setCell (by simp) _).setCell (by simp) _

set_option maxHeartbeats 1000000 in
theorem reference_name_zero {b off n cap : Nat} {l : List Int} {w : World} (R : RRow w b off n cap l) (k : Nat) (hk : k < n) (hki : k + 1 ≤ n) (h1 : sw sHo (l.drop k) = false) (h2 : sw sNo (l.drop k) = false) (hq : leadP (l.drop (k + 1)) = 0) :
    Says 70 #[.slice (some ⟨b, off, none⟩) n cap, .int .i64 k] (tokV k (11, 1, false)) w w := by
  have hm := R.max
  have hc := R.le
  unfold maxLen at hm
  have hb : Below (w.alloc tokB).heap.size (w.alloc tokB) (w.alloc tokB) := Below.refl _ _
  obtain ⟨c1, c2⟩ := bcell hb
  have R0 := R.below (one_ok w tokB)
  have H1 := Lib.hid (startsB R0 sHoS k (by omega) h1)
  have H2 := Lib.hid (startsB R0 sNoS k (by omega) h2)
  have H3 := Lib.hid (leadB R0 (k + 1) hq)
  simp only [Int.natCast_add, Int.cast_ofNat_Int] at H3
  have H5 := Lib.hid (brokenB (W := w.alloc tokB) k (by omega))
  clear R R0 h1 hq h2
  unfold tokV at *
  go_enter Try.func70, Try.ntmps70
  go_wp2_with (first
    | (go_at_call 46; (with_reducible refine (H1.out _ hb).mono ?_); rintro e w1 ⟨rfl, hb1⟩; replace hb := hb1; clear hb1 c1 c2; obtain ⟨c1, c2⟩ := bcell hb)
    | (go_at_call 46; (with_reducible refine (H2.out _ hb).mono ?_); rintro e w1 ⟨rfl, hb1⟩; replace hb := hb1; clear hb1 c1 c2; obtain ⟨c1, c2⟩ := bcell hb)
    | (go_at_call 96; (with_reducible refine (H3.out _ hb).mono ?_); rintro e w1 ⟨rfl, hb1⟩; replace hb := hb1; clear hb1 c1 c2; obtain ⟨c1, c2⟩ := bcell hb)
    | (go_at_call 71; (with_reducible refine (H5.out _ hb).mono ?_); rintro e w1 ⟨rfl, hb1⟩; replace hb := hb1; clear hb1 c1 c2; obtain ⟨c1, c2⟩ := bcell hb))
  refine bodyPost_ret (v := tokI 11 k (k + 1) false) ?_ rfl ⟨?_, ?_⟩
  · simp [results, Try.results70, go_sem, c1, tokI]
  · exact ret_tok rfl rfl (by first | omega | (simp only []; omega))
  · exact (((((one_ok w tokB).trans (hb.mono (by simp))).setCell (by simp) _).setCell (by simp) _).setCell (by simp) _).setCell (by simp) _

set_option maxHeartbeats 1000000 in
theorem reference_name_no {b off n cap : Nat} {l : List Int} {w : World} (R : RRow w b off n cap l) (k : Nat) (hk : k < n) (hki : k + 1 ≤ n) (h1 : sw sHo (l.drop k) = false) (h2 : sw sNo (l.drop k) = false) (q : Nat) (hq : leadP (l.drop (k + 1)) = q) (h0 : 0 < q) (hin : k + 1 + q ≤ n) (h3 : sw sSc (l.drop (k + 1 + q)) = false) :
    Says 70 #[.slice (some ⟨b, off, none⟩) n cap, .int .i64 k] (tokV k (11, 1, false)) w w := by
  have hm := R.max
  have hc := R.le
  unfold maxLen at hm
  have hb : Below (w.alloc tokB).heap.size (w.alloc tokB) (w.alloc tokB) := Below.refl _ _
  obtain ⟨c1, c2⟩ := bcell hb
  have R0 := R.below (one_ok w tokB)
  have H1 := Lib.hid (startsB R0 sHoS k (by omega) h1)
  have H2 := Lib.hid (startsB R0 sNoS k (by omega) h2)
  have H3 := Lib.hid (leadB R0 (k + 1) hq)
  simp only [Int.natCast_add, Int.cast_ofNat_Int] at H3
  have H4 := Lib.hid (startsB R0 sScS (k + 1 + q) (by omega) h3)
  simp only [Int.natCast_add, Int.cast_ofNat_Int] at H4
  have H5 := Lib.hid (brokenB (W := w.alloc tokB) k (by omega))
  have hq0 : ((q : Int) == 0) = false := by simp; omega
  clear R R0 h1 hq h2 h3
  unfold tokV at *
  go_enter Try.func70, Try.ntmps70
  go_wp2_with (first
    | (go_at_call 46; (with_reducible refine (H1.out _ hb).mono ?_); rintro e w1 ⟨rfl, hb1⟩; replace hb := hb1; clear hb1 c1 c2; obtain ⟨c1, c2⟩ := bcell hb)
    | (go_at_call 46; (with_reducible refine (H2.out _ hb).mono ?_); rintro e w1 ⟨rfl, hb1⟩; replace hb := hb1; clear hb1 c1 c2; obtain ⟨c1, c2⟩ := bcell hb)
    | (go_at_call 96; (with_reducible refine (H3.out _ hb).mono ?_); rintro e w1 ⟨rfl, hb1⟩; replace hb := hb1; clear hb1 c1 c2; obtain ⟨c1, c2⟩ := bcell hb)
    | (go_at_call 46; (with_reducible refine (H4.out _ hb).mono ?_); rintro e w1 ⟨rfl, hb1⟩; replace hb := hb1; clear hb1 c1 c2; obtain ⟨c1, c2⟩ := bcell hb)
    | (go_at_call 71; (with_reducible refine (H5.out _ hb).mono ?_); rintro e w1 ⟨rfl, hb1⟩; replace hb := hb1; clear hb1 c1 c2; obtain ⟨c1, c2⟩ := bcell hb))
  refine bodyPost_ret (v := tokI 11 k (k + 1) false) ?_ rfl ⟨?_, ?_⟩
  · simp [results, Try.results70, go_sem, c1, tokI]
  · exact ret_tok rfl rfl (by first | omega | (simp only []; omega))
  · exact (((((one_ok w tokB).trans (hb.mono (by simp))).setCell (by simp) _).setCell (by simp) _).setCell (by simp) _).setCell (by simp) _

set_option maxHeartbeats 1000000 in
theorem reference_name_yes {b off n cap : Nat} {l : List Int} {w : World} (R : RRow w b off n cap l) (k : Nat) (hk : k < n) (hki : k + 1 ≤ n) (h1 : sw sHo (l.drop k) = false) (h2 : sw sNo (l.drop k) = false) (q : Nat) (hq : leadP (l.drop (k + 1)) = q) (h0 : 0 < q) (hin : k + 1 + q < n) (h3 : sw sSc (l.drop (k + 1 + q)) = true) :
    Says 70 #[.slice (some ⟨b, off, none⟩) n cap, .int .i64 k] (tokV k (2, 1 + q + 1, true)) w w := by
  have hm := R.max
  have hc := R.le
  unfold maxLen at hm
  have hb : Below (w.alloc tokB).heap.size (w.alloc tokB) (w.alloc tokB) := Below.refl _ _
  obtain ⟨c1, c2⟩ := bcell hb
  have R0 := R.below (one_ok w tokB)
  have H1 := Lib.hid (startsB R0 sHoS k (by omega) h1)
  have H2 := Lib.hid (startsB R0 sNoS k (by omega) h2)
  have H3 := Lib.hid (leadB R0 (k + 1) hq)
  simp only [Int.natCast_add, Int.cast_ofNat_Int] at H3
  have H4 := Lib.hid (startsB R0 sScS (k + 1 + q) (by omega) h3)
  simp only [Int.natCast_add, Int.cast_ofNat_Int] at H4
  have hq0 : ((q : Int) == 0) = false := by simp; omega
  clear R R0 h1 hq h2 h3
  go_enter Try.func70, Try.ntmps70
  go_wp2_with (first
    | (go_at_call 46; (with_reducible refine (H1.out _ hb).mono ?_); rintro e w1 ⟨rfl, hb1⟩; replace hb := hb1; clear hb1 c1 c2; obtain ⟨c1, c2⟩ := bcell hb)
    | (go_at_call 46; (with_reducible refine (H2.out _ hb).mono ?_); rintro e w1 ⟨rfl, hb1⟩; replace hb := hb1; clear hb1 c1 c2; obtain ⟨c1, c2⟩ := bcell hb)
    | (go_at_call 96; (with_reducible refine (H3.out _ hb).mono ?_); rintro e w1 ⟨rfl, hb1⟩; replace hb := hb1; clear hb1 c1 c2; obtain ⟨c1, c2⟩ := bcell hb)
    | (go_at_call 46; (with_reducible refine (H4.out _ hb).mono ?_); rintro e w1 ⟨rfl, hb1⟩; replace hb := hb1; clear hb1 c1 c2; obtain ⟨c1, c2⟩ := bcell hb))
  refine bodyPost_ret (v := tokI 2 k ((k : Int) + 1 + q + 1) true) ?_ rfl ⟨?_, ?_⟩
  · simp [results, Try.results70, go_sem, c1, tokI]
  · exact ret_tok rfl rfl (by first | omega | (simp only []; omega))
  · exact (((((one_ok w tokB).trans (hb.mono (by simp))).setCell (by simp) _).setCell (by simp) _).setCell (by simp) _).setCell (by simp) _

end Go.Proofs.Ytbljgoieieoamaa
