/-
  Contracts of layer 7: markup.
-/
import Derived.Test.YtbljgoieieoamaaLexE
namespace Go.Proofs.Ytbljgoieieoamaa
open Go.RowKit
set_option linter.unusedVariables false

abbrev tokK (k : Nat) : Obj := .cells #[.int .i64 0, .int .i64 (k : Nat), .int .i64 0, .bool false] 77
/-- What a call answers, and that what was there when it began stays. -/
abbrev SaysR (f : FuncId) (args : Array Value) (v : Value) (w : World) : Prop := Calls Try.prog f args w fun e w' => e = .returned v ∧ Below w.heap.size w w'

section
variable {b off n cap : Nat} {l : List Int} {W : World}

theorem behindR (R : RRow W b off n cap l) {s : ByteArray} (S : Sign s) (k : Nat) (hk : k ≤ n) {p : Nat × Bool} (hp : behP (sg s) (l.drop k) = p) (w : World) (hb : Below W.heap.size W w) :
    SaysR 88 #[.slice (some ⟨b, off, none⟩) n cap, .int .i64 k, .string s] (.tuple #[.int .i64 ((k + p.1 : Nat)), .bool p.2]) w :=
  behindB (R.below hb) S k hk hp w (Below.refl _ _)
theorem doctypeR (R : RRow W b off n cap l) (k : Nat) (hk : k ≤ n) {p : Nat × Bool} (hp : docP (l.drop k) = p) (w : World) (hb : Below W.heap.size W w) :
    SaysR 89 #[.slice (some ⟨b, off, none⟩) n cap, .int .i64 k] (.tuple #[.int .i64 ((k + p.1 : Nat)), .bool p.2]) w :=
  doctypeB (R.below hb) k hk hp w (Below.refl _ _)
theorem edgeR (R : RRow W b off n cap l) (k : Nat) (hk : k ≤ n) {p : Nat × Bool} (hp : edgeP (l.drop k) = p) (w : World) (hb : Below W.heap.size W w) :
    SaysR 90 #[.slice (some ⟨b, off, none⟩) n cap, .int .i64 k] (.tuple #[.int .i64 ((k + p.1 : Nat)), .bool p.2]) w :=
  edgeB (R.below hb) k hk hp w (Below.refl _ _)
theorem runinEndR (R : RRow W b off n cap l) (k : Nat) (hk : k ≤ n) {q : Nat} (hq : runP inEndB (l.drop k) = q) (w : World) (hb : Below W.heap.size W w) :
    SaysR 58 #[.slice (some ⟨b, off, none⟩) n cap, .int .i64 k, fn_inEnd] (.int .i64 q) w :=
  runinEndB (R.below hb) k hk hq w (Below.refl _ _)
theorem bare2R (R : RRow W b off n cap l) (x y : Int) (k : Nat) (hk : k ≤ n) {q : Nat} (hq : bareP [x, y] 0 (l.drop k) = q) (w : World) (hb : Below W.heap.size W w) (g : Nat) (hg : g = w.heap.size) :
    Calls Try.prog 93 #[.slice (some ⟨b, off, none⟩) n cap, .int .i64 k, .slice (some ⟨g, 0, none⟩) 2 2] (w.alloc (.cells #[.int .i32 x, .int .i32 y] 21)) fun e w' => e = .returned (.int .i64 ((k + q : Nat))) ∧ Below w.heap.size w w' :=
  (bare2 (R.below hb) x y k hk g hg).mono fun e w' ⟨he, hw⟩ => ⟨hq ▸ he, hw⟩
end

set_option maxHeartbeats 2000000 in
theorem markup_c {b off n cap : Nat} {l : List Int} {w : World} (R : RRow w b off n cap l) (k : Nat) (hk : k < n) (hC : sw sCo (l.drop k) = true) (p : Nat × Bool) (hp : behP sCc (l.drop (k + 4)) = p) (hin : k + 4 + p.1 ≤ n) :
    Says 69 #[.slice (some ⟨b, off, none⟩) n cap, .int .i64 k] (tokV k (4, 4 + p.1, p.2)) w w := by
  have hm := R.max
  have hc := R.le
  unfold maxLen at hm
  obtain ⟨q, d⟩ := p
  have R0 := R.below (two_ok w tokB (tokK k))
  have HSC := Lib.hid (startsB R0 sCoS k (by omega) hC)
  have HE := Lib.hid (behindR R sCcS (k + 4) (by omega) hp)
  simp only [Int.natCast_add, Int.cast_ofNat_Int] at HE
  have hb : Below ((w.alloc tokB).alloc (tokK k)).heap.size ((w.alloc tokB).alloc (tokK k)) ((w.alloc tokB).alloc (tokK k)) := Below.refl _ _
  clear R R0 hp hC
  go_enter Try.func69, Try.ntmps69
  go_wp2_with (first
    | (go_at_call 46; (with_reducible refine (HSC.out _ hb).mono ?_); rintro e w1 ⟨rfl, hb1⟩; replace hb := hb1; clear hb1; obtain ⟨c1, c2⟩ := bcell hb; have hz1 : w.heap.size + 1 < w1.heap.size := (by have := hb.size; simp at this; omega); have hz0 : w.heap.size < w1.heap.size := (by omega))
    | (go_at_call 88; (with_reducible refine (HE.out _ (((two_ok w tokB (tokK k)).trans (hb.mono (by simp; omega))).setCell (by simp) _)).mono ?_); rintro e w2 ⟨rfl, hb2⟩; obtain ⟨c3, c4⟩ := bcell hb2))
  have HB2 := (((two_ok w tokB (tokK k)).trans (hb.mono (by simp; omega))).setCell (by simp) _).trans (hb2.mono (by simp; omega))
  have e0 : w2.cell? ⟨w.heap.size, 0, none⟩ = some (.int .i64 0) := by simp [go_sem, c3, c1, hz0, hz1]
  have e1 : w2.cell? ⟨w.heap.size, 1, none⟩ = some (.int .i64 0) := by simp [go_sem, c3, c1, hz0, hz1]
  have e2 : w2.cell? ⟨w.heap.size, 2, none⟩ = some (.int .i64 0) := by simp [go_sem, c3, c1, hz0, hz1]
  have e3 : w2.cell? ⟨w.heap.size, 3, none⟩ = some (.bool false) := by simp [go_sem, c3, c1, hz0, hz1]
  refine bodyPost_ret (v := tokI 4 k ((k : Int) + 4 + q) d) ?_ rfl ⟨?_, ?_⟩
  · simp [results, Try.results69, go_sem, e0, e1, e2, e3, tokI]
  · exact ret_tok rfl rfl (by first | omega | (simp only []; omega))
  · exact ((((((HB2.setCell (by simp) _).setCell (by simp) _).setCell (by simp) _).setCell (by simp) _).setCell (by simp) _).setCell (by simp) _)

set_option maxHeartbeats 2000000 in
theorem markup_d {b off n cap : Nat} {l : List Int} {w : World} (R : RRow w b off n cap l) (k : Nat) (hk : k < n) (hC : sw sCo (l.drop k) = false) (hD : sw sDo (l.drop k) = true) (p : Nat × Bool) (hp : behP sDc (l.drop (k + 9)) = p) (hin : k + 9 + p.1 ≤ n) :
    Says 69 #[.slice (some ⟨b, off, none⟩) n cap, .int .i64 k] (tokV k (6, 9 + p.1, p.2)) w w := by
  have hm := R.max
  have hc := R.le
  unfold maxLen at hm
  obtain ⟨q, d⟩ := p
  have R0 := R.below (two_ok w tokB (tokK k))
  have HSC := Lib.hid (startsB R0 sCoS k (by omega) hC)
  have HSD := Lib.hid (startsB R0 sDoS k (by omega) hD)
  have HE := Lib.hid (behindR R sDcS (k + 9) (by omega) hp)
  simp only [Int.natCast_add, Int.cast_ofNat_Int] at HE
  have hb : Below ((w.alloc tokB).alloc (tokK k)).heap.size ((w.alloc tokB).alloc (tokK k)) ((w.alloc tokB).alloc (tokK k)) := Below.refl _ _
  clear R R0 hp hC hD
  go_enter Try.func69, Try.ntmps69
  go_wp2_with (first
    | (go_at_call 46; (with_reducible refine (HSC.out _ hb).mono ?_); rintro e w1 ⟨rfl, hb1⟩; replace hb := hb1; clear hb1; obtain ⟨c1, c2⟩ := bcell hb; have hz1 : w.heap.size + 1 < w1.heap.size := (by have := hb.size; simp at this; omega); have hz0 : w.heap.size < w1.heap.size := (by omega))
    | (go_at_call 46; (with_reducible refine (HSD.out _ hb).mono ?_); rintro e w1 ⟨rfl, hb1⟩; replace hb := hb1; clear hb1; obtain ⟨c1, c2⟩ := bcell hb; have hz1 : w.heap.size + 1 < w1.heap.size := (by have := hb.size; simp at this; omega); have hz0 : w.heap.size < w1.heap.size := (by omega))
    | (go_at_call 88; (with_reducible refine (HE.out _ (((two_ok w tokB (tokK k)).trans (hb.mono (by simp; omega))).setCell (by simp) _)).mono ?_); rintro e w2 ⟨rfl, hb2⟩; obtain ⟨c3, c4⟩ := bcell hb2))
  have HB2 := (((two_ok w tokB (tokK k)).trans (hb.mono (by simp; omega))).setCell (by simp) _).trans (hb2.mono (by simp; omega))
  have e0 : w2.cell? ⟨w.heap.size, 0, none⟩ = some (.int .i64 0) := by simp [go_sem, c3, c1, hz0, hz1]
  have e1 : w2.cell? ⟨w.heap.size, 1, none⟩ = some (.int .i64 0) := by simp [go_sem, c3, c1, hz0, hz1]
  have e2 : w2.cell? ⟨w.heap.size, 2, none⟩ = some (.int .i64 0) := by simp [go_sem, c3, c1, hz0, hz1]
  have e3 : w2.cell? ⟨w.heap.size, 3, none⟩ = some (.bool false) := by simp [go_sem, c3, c1, hz0, hz1]
  refine bodyPost_ret (v := tokI 6 k ((k : Int) + 9 + q) d) ?_ rfl ⟨?_, ?_⟩
  · simp [results, Try.results69, go_sem, e0, e1, e2, e3, tokI]
  · exact ret_tok rfl rfl (by first | omega | (simp only []; omega))
  · exact ((((((HB2.setCell (by simp) _).setCell (by simp) _).setCell (by simp) _).setCell (by simp) _).setCell (by simp) _).setCell (by simp) _)

set_option maxHeartbeats 2000000 in
theorem markup_p {b off n cap : Nat} {l : List Int} {w : World} (R : RRow w b off n cap l) (k : Nat) (hk : k < n) (hC : sw sCo (l.drop k) = false) (hD : sw sDo (l.drop k) = false) (hP : sw sPo (l.drop k) = true) (p : Nat × Bool) (hp : behP sPc (l.drop (k + 2)) = p) (hin : k + 2 + p.1 ≤ n) :
    Says 69 #[.slice (some ⟨b, off, none⟩) n cap, .int .i64 k] (tokV k (5, 2 + p.1, p.2)) w w := by
  have hm := R.max
  have hc := R.le
  unfold maxLen at hm
  obtain ⟨q, d⟩ := p
  have R0 := R.below (two_ok w tokB (tokK k))
  have HSC := Lib.hid (startsB R0 sCoS k (by omega) hC)
  have HSD := Lib.hid (startsB R0 sDoS k (by omega) hD)
  have HSP := Lib.hid (startsB R0 sPoS k (by omega) hP)
  have HE := Lib.hid (behindR R sPcS (k + 2) (by omega) hp)
  simp only [Int.natCast_add, Int.cast_ofNat_Int] at HE
  have hb : Below ((w.alloc tokB).alloc (tokK k)).heap.size ((w.alloc tokB).alloc (tokK k)) ((w.alloc tokB).alloc (tokK k)) := Below.refl _ _
  clear R R0 hp hC hD hP
  go_enter Try.func69, Try.ntmps69
  go_wp2_with (first
    | (go_at_call 46; (with_reducible refine (HSC.out _ hb).mono ?_); rintro e w1 ⟨rfl, hb1⟩; replace hb := hb1; clear hb1; obtain ⟨c1, c2⟩ := bcell hb; have hz1 : w.heap.size + 1 < w1.heap.size := (by have := hb.size; simp at this; omega); have hz0 : w.heap.size < w1.heap.size := (by omega))
    | (go_at_call 46; (with_reducible refine (HSD.out _ hb).mono ?_); rintro e w1 ⟨rfl, hb1⟩; replace hb := hb1; clear hb1; obtain ⟨c1, c2⟩ := bcell hb; have hz1 : w.heap.size + 1 < w1.heap.size := (by have := hb.size; simp at this; omega); have hz0 : w.heap.size < w1.heap.size := (by omega))
    | (go_at_call 46; (with_reducible refine (HSP.out _ hb).mono ?_); rintro e w1 ⟨rfl, hb1⟩; replace hb := hb1; clear hb1; obtain ⟨c1, c2⟩ := bcell hb; have hz1 : w.heap.size + 1 < w1.heap.size := (by have := hb.size; simp at this; omega); have hz0 : w.heap.size < w1.heap.size := (by omega))
    | (go_at_call 88; (with_reducible refine (HE.out _ (((two_ok w tokB (tokK k)).trans (hb.mono (by simp; omega))).setCell (by simp) _)).mono ?_); rintro e w2 ⟨rfl, hb2⟩; obtain ⟨c3, c4⟩ := bcell hb2))
  have HB2 := (((two_ok w tokB (tokK k)).trans (hb.mono (by simp; omega))).setCell (by simp) _).trans (hb2.mono (by simp; omega))
  have e0 : w2.cell? ⟨w.heap.size, 0, none⟩ = some (.int .i64 0) := by simp [go_sem, c3, c1, hz0, hz1]
  have e1 : w2.cell? ⟨w.heap.size, 1, none⟩ = some (.int .i64 0) := by simp [go_sem, c3, c1, hz0, hz1]
  have e2 : w2.cell? ⟨w.heap.size, 2, none⟩ = some (.int .i64 0) := by simp [go_sem, c3, c1, hz0, hz1]
  have e3 : w2.cell? ⟨w.heap.size, 3, none⟩ = some (.bool false) := by simp [go_sem, c3, c1, hz0, hz1]
  refine bodyPost_ret (v := tokI 5 k ((k : Int) + 2 + q) d) ?_ rfl ⟨?_, ?_⟩
  · simp [results, Try.results69, go_sem, e0, e1, e2, e3, tokI]
  · exact ret_tok rfl rfl (by first | omega | (simp only []; omega))
  · exact ((((((HB2.setCell (by simp) _).setCell (by simp) _).setCell (by simp) _).setCell (by simp) _).setCell (by simp) _).setCell (by simp) _)

set_option maxHeartbeats 2000000 in
theorem markup_t {b off n cap : Nat} {l : List Int} {w : World} (R : RRow w b off n cap l) (k : Nat) (hk : k < n) (hC : sw sCo (l.drop k) = false) (hD : sw sDo (l.drop k) = false) (hP : sw sPo (l.drop k) = false) (hT : sw sTo (l.drop k) = true) (p : Nat × Bool) (hp : docP (l.drop (k + 9)) = p) (hin : k + 9 + p.1 ≤ n) :
    Says 69 #[.slice (some ⟨b, off, none⟩) n cap, .int .i64 k] (tokV k (7, 9 + p.1, p.2)) w w := by
  have hm := R.max
  have hc := R.le
  unfold maxLen at hm
  obtain ⟨q, d⟩ := p
  have R0 := R.below (two_ok w tokB (tokK k))
  have HSC := Lib.hid (startsB R0 sCoS k (by omega) hC)
  have HSD := Lib.hid (startsB R0 sDoS k (by omega) hD)
  have HSP := Lib.hid (startsB R0 sPoS k (by omega) hP)
  have HST := Lib.hid (startsB R0 sToS k (by omega) hT)
  have HE := Lib.hid (doctypeR R (k + 9) (by omega) hp)
  simp only [Int.natCast_add, Int.cast_ofNat_Int] at HE
  have hb : Below ((w.alloc tokB).alloc (tokK k)).heap.size ((w.alloc tokB).alloc (tokK k)) ((w.alloc tokB).alloc (tokK k)) := Below.refl _ _
  clear R R0 hp hC hD hP hT
  go_enter Try.func69, Try.ntmps69
  go_wp2_with (first
    | (go_at_call 46; (with_reducible refine (HSC.out _ hb).mono ?_); rintro e w1 ⟨rfl, hb1⟩; replace hb := hb1; clear hb1; obtain ⟨c1, c2⟩ := bcell hb; have hz1 : w.heap.size + 1 < w1.heap.size := (by have := hb.size; simp at this; omega); have hz0 : w.heap.size < w1.heap.size := (by omega))
    | (go_at_call 46; (with_reducible refine (HSD.out _ hb).mono ?_); rintro e w1 ⟨rfl, hb1⟩; replace hb := hb1; clear hb1; obtain ⟨c1, c2⟩ := bcell hb; have hz1 : w.heap.size + 1 < w1.heap.size := (by have := hb.size; simp at this; omega); have hz0 : w.heap.size < w1.heap.size := (by omega))
    | (go_at_call 46; (with_reducible refine (HSP.out _ hb).mono ?_); rintro e w1 ⟨rfl, hb1⟩; replace hb := hb1; clear hb1; obtain ⟨c1, c2⟩ := bcell hb; have hz1 : w.heap.size + 1 < w1.heap.size := (by have := hb.size; simp at this; omega); have hz0 : w.heap.size < w1.heap.size := (by omega))
    | (go_at_call 46; (with_reducible refine (HST.out _ hb).mono ?_); rintro e w1 ⟨rfl, hb1⟩; replace hb := hb1; clear hb1; obtain ⟨c1, c2⟩ := bcell hb; have hz1 : w.heap.size + 1 < w1.heap.size := (by have := hb.size; simp at this; omega); have hz0 : w.heap.size < w1.heap.size := (by omega))
    | (go_at_call 89; (with_reducible refine (HE.out _ (((two_ok w tokB (tokK k)).trans (hb.mono (by simp; omega))).setCell (by simp) _)).mono ?_); rintro e w2 ⟨rfl, hb2⟩; obtain ⟨c3, c4⟩ := bcell hb2))
  have HB2 := (((two_ok w tokB (tokK k)).trans (hb.mono (by simp; omega))).setCell (by simp) _).trans (hb2.mono (by simp; omega))
  have e0 : w2.cell? ⟨w.heap.size, 0, none⟩ = some (.int .i64 0) := by simp [go_sem, c3, c1, hz0, hz1]
  have e1 : w2.cell? ⟨w.heap.size, 1, none⟩ = some (.int .i64 0) := by simp [go_sem, c3, c1, hz0, hz1]
  have e2 : w2.cell? ⟨w.heap.size, 2, none⟩ = some (.int .i64 0) := by simp [go_sem, c3, c1, hz0, hz1]
  have e3 : w2.cell? ⟨w.heap.size, 3, none⟩ = some (.bool false) := by simp [go_sem, c3, c1, hz0, hz1]
  refine bodyPost_ret (v := tokI 7 k ((k : Int) + 9 + q) d) ?_ rfl ⟨?_, ?_⟩
  · simp [results, Try.results69, go_sem, e0, e1, e2, e3, tokI]
  · exact ret_tok rfl rfl (by first | omega | (simp only []; omega))
  · exact ((((((HB2.setCell (by simp) _).setCell (by simp) _).setCell (by simp) _).setCell (by simp) _).setCell (by simp) _).setCell (by simp) _)

set_option maxHeartbeats 2000000 in
theorem markup_e {b off n cap : Nat} {l : List Int} {w : World} (R : RRow w b off n cap l) (k : Nat) (hk : k < n) (hC : sw sCo (l.drop k) = false) (hD : sw sDo (l.drop k) = false) (hP : sw sPo (l.drop k) = false) (hT : sw sTo (l.drop k) = false) (hE : sw sEo (l.drop k) = true) (q : Nat) (hq : runP inEndB (l.drop (k + 2)) = q) (p : Nat × Bool) (hp : edgeP (l.drop (k + 2 + q)) = p) (hin : k + 2 + q + p.1 ≤ n) :
    Says 69 #[.slice (some ⟨b, off, none⟩) n cap, .int .i64 k] (tokV k (10, 2 + q + p.1, p.2)) w w := by
  have hm := R.max
  have hc := R.le
  unfold maxLen at hm
  obtain ⟨r, d⟩ := p
  have R0 := R.below (two_ok w tokB (tokK k))
  have HSC := Lib.hid (startsB R0 sCoS k (by omega) hC)
  have HSD := Lib.hid (startsB R0 sDoS k (by omega) hD)
  have HSP := Lib.hid (startsB R0 sPoS k (by omega) hP)
  have HST := Lib.hid (startsB R0 sToS k (by omega) hT)
  have HSE := Lib.hid (startsB R0 sEoS k (by omega) hE)
  have HU := Lib.hid (runinEndR R (k + 2) (by omega) hq)
  have HE := Lib.hid (edgeR R (k + 2 + q) (by omega) hp)
  simp only [Int.natCast_add, Int.cast_ofNat_Int] at HU HE
  have hb : Below ((w.alloc tokB).alloc (tokK k)).heap.size ((w.alloc tokB).alloc (tokK k)) ((w.alloc tokB).alloc (tokK k)) := Below.refl _ _
  clear R R0 hp hq hC hD hP hT hE
  go_enter Try.func69, Try.ntmps69
  go_wp2_with (first
    | (go_at_call 46; (with_reducible refine (HSC.out _ hb).mono ?_); rintro e w1 ⟨rfl, hb1⟩; replace hb := hb1; clear hb1; obtain ⟨c1, c2⟩ := bcell hb; have hz1 : w.heap.size + 1 < w1.heap.size := (by have := hb.size; simp at this; omega); have hz0 : w.heap.size < w1.heap.size := (by omega))
    | (go_at_call 46; (with_reducible refine (HSD.out _ hb).mono ?_); rintro e w1 ⟨rfl, hb1⟩; replace hb := hb1; clear hb1; obtain ⟨c1, c2⟩ := bcell hb; have hz1 : w.heap.size + 1 < w1.heap.size := (by have := hb.size; simp at this; omega); have hz0 : w.heap.size < w1.heap.size := (by omega))
    | (go_at_call 46; (with_reducible refine (HSP.out _ hb).mono ?_); rintro e w1 ⟨rfl, hb1⟩; replace hb := hb1; clear hb1; obtain ⟨c1, c2⟩ := bcell hb; have hz1 : w.heap.size + 1 < w1.heap.size := (by have := hb.size; simp at this; omega); have hz0 : w.heap.size < w1.heap.size := (by omega))
    | (go_at_call 46; (with_reducible refine (HST.out _ hb).mono ?_); rintro e w1 ⟨rfl, hb1⟩; replace hb := hb1; clear hb1; obtain ⟨c1, c2⟩ := bcell hb; have hz1 : w.heap.size + 1 < w1.heap.size := (by have := hb.size; simp at this; omega); have hz0 : w.heap.size < w1.heap.size := (by omega))
    | (go_at_call 46; (with_reducible refine (HSE.out _ hb).mono ?_); rintro e w1 ⟨rfl, hb1⟩; replace hb := hb1; clear hb1; obtain ⟨c1, c2⟩ := bcell hb; have hz1 : w.heap.size + 1 < w1.heap.size := (by have := hb.size; simp at this; omega); have hz0 : w.heap.size < w1.heap.size := (by omega))
    | (go_at_call 58; (with_reducible refine (HU.out _ (((two_ok w tokB (tokK k)).trans (hb.mono (by simp; omega))).setCell (by simp) _)).mono ?_); rintro e w2 ⟨rfl, hb2⟩; obtain ⟨c3, c4⟩ := bcell hb2; have HB2 := (((two_ok w tokB (tokK k)).trans (hb.mono (by simp; omega))).setCell (by simp) _).trans (hb2.mono (by simp; omega)); have hz3 : w.heap.size + 1 < w2.heap.size := (by have := hb2.size; simp at this; omega); have hz2 : w.heap.size < w2.heap.size := (by omega))
    | (go_at_call 90; (with_reducible refine (HE.out _ HB2).mono ?_); rintro e w3 ⟨rfl, hb3⟩; obtain ⟨c5, c6⟩ := bcell hb3))
  replace HB2 := HB2.trans (hb3.mono (by omega))
  have e0 : w3.cell? ⟨w.heap.size, 0, none⟩ = some (.int .i64 0) := by simp [go_sem, c5, c3, c1, hz2, hz3, hz0, hz1]
  have e1 : w3.cell? ⟨w.heap.size, 1, none⟩ = some (.int .i64 0) := by simp [go_sem, c5, c3, c1, hz2, hz3, hz0, hz1]
  have e2 : w3.cell? ⟨w.heap.size, 2, none⟩ = some (.int .i64 0) := by simp [go_sem, c5, c3, c1, hz2, hz3, hz0, hz1]
  have e3 : w3.cell? ⟨w.heap.size, 3, none⟩ = some (.bool false) := by simp [go_sem, c5, c3, c1, hz2, hz3, hz0, hz1]
  refine bodyPost_ret (v := tokI 10 k ((k : Int) + 2 + q + r) d) ?_ rfl ⟨?_, ?_⟩
  · simp [results, Try.results69, go_sem, e0, e1, e2, e3, tokI]
  · exact ret_tok rfl rfl (by first | omega | (simp only []; omega))
  · exact ((((((HB2.setCell (by simp) _).setCell (by simp) _).setCell (by simp) _).setCell (by simp) _).setCell (by simp) _).setCell (by simp) _)

set_option maxHeartbeats 2000000 in
theorem markup_b1 {b off n cap : Nat} {l : List Int} {w : World} (R : RRow w b off n cap l) (k : Nat) (hk : k < n) (hC : sw sCo (l.drop k) = false) (hD : sw sDo (l.drop k) = false) (hP : sw sPo (l.drop k) = false) (hT : sw sTo (l.drop k) = false) (hE : sw sEo (l.drop k) = false) (hend : ¬ k + 1 < n) :
    Says 69 #[.slice (some ⟨b, off, none⟩) n cap, .int .i64 k] (tokV k (11, 1, false)) w w := by
  have hm := R.max
  have hc := R.le
  unfold maxLen at hm
  have R0 := R.below (two_ok w tokB (tokK k))
  have HSC := Lib.hid (startsB R0 sCoS k (by omega) hC)
  have HSD := Lib.hid (startsB R0 sDoS k (by omega) hD)
  have HSP := Lib.hid (startsB R0 sPoS k (by omega) hP)
  have HST := Lib.hid (startsB R0 sToS k (by omega) hT)
  have HSE := Lib.hid (startsB R0 sEoS k (by omega) hE)
  have HBR := Lib.hid (brokenB (W := ((w.alloc tokB).alloc (tokK k))) k (by omega))
  unfold tokV at *
  have hb : Below ((w.alloc tokB).alloc (tokK k)).heap.size ((w.alloc tokB).alloc (tokK k)) ((w.alloc tokB).alloc (tokK k)) := Below.refl _ _
  clear R R0 hC hD hP hT hE
  go_enter Try.func69, Try.ntmps69
  go_wp2_with (first
    | (go_at_call 46; (with_reducible refine (HSC.out _ hb).mono ?_); rintro e w1 ⟨rfl, hb1⟩; replace hb := hb1; clear hb1; obtain ⟨c1, c2⟩ := bcell hb; have hz1 : w.heap.size + 1 < w1.heap.size := (by have := hb.size; simp at this; omega); have hz0 : w.heap.size < w1.heap.size := (by omega))
    | (go_at_call 46; (with_reducible refine (HSD.out _ hb).mono ?_); rintro e w1 ⟨rfl, hb1⟩; replace hb := hb1; clear hb1; obtain ⟨c1, c2⟩ := bcell hb; have hz1 : w.heap.size + 1 < w1.heap.size := (by have := hb.size; simp at this; omega); have hz0 : w.heap.size < w1.heap.size := (by omega))
    | (go_at_call 46; (with_reducible refine (HSP.out _ hb).mono ?_); rintro e w1 ⟨rfl, hb1⟩; replace hb := hb1; clear hb1; obtain ⟨c1, c2⟩ := bcell hb; have hz1 : w.heap.size + 1 < w1.heap.size := (by have := hb.size; simp at this; omega); have hz0 : w.heap.size < w1.heap.size := (by omega))
    | (go_at_call 46; (with_reducible refine (HST.out _ hb).mono ?_); rintro e w1 ⟨rfl, hb1⟩; replace hb := hb1; clear hb1; obtain ⟨c1, c2⟩ := bcell hb; have hz1 : w.heap.size + 1 < w1.heap.size := (by have := hb.size; simp at this; omega); have hz0 : w.heap.size < w1.heap.size := (by omega))
    | (go_at_call 46; (with_reducible refine (HSE.out _ hb).mono ?_); rintro e w1 ⟨rfl, hb1⟩; replace hb := hb1; clear hb1; obtain ⟨c1, c2⟩ := bcell hb; have hz1 : w.heap.size + 1 < w1.heap.size := (by have := hb.size; simp at this; omega); have hz0 : w.heap.size < w1.heap.size := (by omega))
    | (go_at_call 71; (with_reducible refine (HBR.out _ hb).mono ?_); rintro e w2 ⟨rfl, hb2⟩; obtain ⟨c3, c4⟩ := bcell hb2))
  have HB2 := ((two_ok w tokB (tokK k)).trans (hb2.mono (by simp; omega)))
  have e0 : w2.cell? ⟨w.heap.size, 0, none⟩ = some (.int .i64 0) := by simp [go_sem, c3, hz0, hz1]
  have e1 : w2.cell? ⟨w.heap.size, 1, none⟩ = some (.int .i64 0) := by simp [go_sem, c3, hz0, hz1]
  have e2 : w2.cell? ⟨w.heap.size, 2, none⟩ = some (.int .i64 0) := by simp [go_sem, c3, hz0, hz1]
  have e3 : w2.cell? ⟨w.heap.size, 3, none⟩ = some (.bool false) := by simp [go_sem, c3, hz0, hz1]
  refine bodyPost_ret (v := tokI 11 k ((k : Int) + 1) false) ?_ rfl ⟨?_, ?_⟩
  · simp [results, Try.results69, go_sem, e0, e1, e2, e3, tokI]
  · exact ret_tok rfl rfl (by first | omega | (simp only []; omega))
  · exact ((((HB2.setCell (by simp) _).setCell (by simp) _).setCell (by simp) _).setCell (by simp) _)

set_option maxHeartbeats 2000000 in
theorem markup_b2 {b off n cap : Nat} {l : List Int} {w : World} (R : RRow w b off n cap l) (k : Nat) (hk : k < n) (hC : sw sCo (l.drop k) = false) (hD : sw sDo (l.drop k) = false) (hP : sw sPo (l.drop k) = false) (hT : sw sTo (l.drop k) = false) (hE : sw sEo (l.drop k) = false) (hk1 : k + 1 < n) (z : Int) (hz : l.getD (k + 1) 0 = z) (hst : startB z = false) :
    Says 69 #[.slice (some ⟨b, off, none⟩) n cap, .int .i64 k] (tokV k (11, 1, false)) w w := by
  have hm := R.max
  have hc := R.le
  unfold maxLen at hm
  have R0 := R.below (two_ok w tokB (tokK k))
  have HSC := Lib.hid (startsB R0 sCoS k (by omega) hC)
  have HSD := Lib.hid (startsB R0 sDoS k (by omega) hD)
  have HSP := Lib.hid (startsB R0 sPoS k (by omega) hP)
  have HST := Lib.hid (startsB R0 sToS k (by omega) hT)
  have HSE := Lib.hid (startsB R0 sEoS k (by omega) hE)
  have hcl0 := R0.cells
  have HCL := Lib.hid (fun (w' : World) (hb : Below ((w.alloc tokB).alloc (tokK k)).heap.size ((w.alloc tokB).alloc (tokK k)) w') => show w'.cell? ⟨b, off + (k + 1), none⟩ = some (.int .i32 z) from by
    obtain ⟨b', off', hy, hc1⟩ := (hcl0.below hb).int (k := k + 1) (by rw [R.len]; exact hk1)
    simp only [Option.some.injEq, Addr.mk.injEq] at hy
    obtain ⟨rfl, rfl, _⟩ := hy
    rw [hz] at hc1
    exact hc1)
  clear hcl0 hz
  have HN := Lib.hid (nameStartB (W := ((w.alloc tokB).alloc (tokK k))) (r := z) (v := false) hst)
  clear hst
  have HBR := Lib.hid (brokenB (W := ((w.alloc tokB).alloc (tokK k))) k (by omega))
  unfold tokV at *
  have hb : Below ((w.alloc tokB).alloc (tokK k)).heap.size ((w.alloc tokB).alloc (tokK k)) ((w.alloc tokB).alloc (tokK k)) := Below.refl _ _
  clear R R0 hC hD hP hT hE
  go_enter Try.func69, Try.ntmps69
  go_wp2_with (first
    | (go_at_call 46; (with_reducible refine (HSC.out _ hb).mono ?_); rintro e w1 ⟨rfl, hb1⟩; replace hb := hb1; clear hb1; obtain ⟨c1, c2⟩ := bcell hb; have hz1 : w.heap.size + 1 < w1.heap.size := (by have := hb.size; simp at this; omega); have hz0 : w.heap.size < w1.heap.size := (by omega); have hcl := HCL.out _ hb)
    | (go_at_call 46; (with_reducible refine (HSD.out _ hb).mono ?_); rintro e w1 ⟨rfl, hb1⟩; replace hb := hb1; clear hb1; obtain ⟨c1, c2⟩ := bcell hb; have hz1 : w.heap.size + 1 < w1.heap.size := (by have := hb.size; simp at this; omega); have hz0 : w.heap.size < w1.heap.size := (by omega); have hcl := HCL.out _ hb)
    | (go_at_call 46; (with_reducible refine (HSP.out _ hb).mono ?_); rintro e w1 ⟨rfl, hb1⟩; replace hb := hb1; clear hb1; obtain ⟨c1, c2⟩ := bcell hb; have hz1 : w.heap.size + 1 < w1.heap.size := (by have := hb.size; simp at this; omega); have hz0 : w.heap.size < w1.heap.size := (by omega); have hcl := HCL.out _ hb)
    | (go_at_call 46; (with_reducible refine (HST.out _ hb).mono ?_); rintro e w1 ⟨rfl, hb1⟩; replace hb := hb1; clear hb1; obtain ⟨c1, c2⟩ := bcell hb; have hz1 : w.heap.size + 1 < w1.heap.size := (by have := hb.size; simp at this; omega); have hz0 : w.heap.size < w1.heap.size := (by omega); have hcl := HCL.out _ hb)
    | (go_at_call 46; (with_reducible refine (HSE.out _ hb).mono ?_); rintro e w1 ⟨rfl, hb1⟩; replace hb := hb1; clear hb1; obtain ⟨c1, c2⟩ := bcell hb; have hz1 : w.heap.size + 1 < w1.heap.size := (by have := hb.size; simp at this; omega); have hz0 : w.heap.size < w1.heap.size := (by omega); have hcl := HCL.out _ hb)
    | (go_at_call 92; (with_reducible refine (HN.out _ hb).mono ?_); rintro e w1 ⟨rfl, hb1⟩; replace hb := hb1; clear hb1; obtain ⟨c1, c2⟩ := bcell hb; have hz1 : w.heap.size + 1 < w1.heap.size := (by have := hb.size; simp at this; omega); have hz0 : w.heap.size < w1.heap.size := (by omega))
    | (go_at_call 71; (with_reducible refine (HBR.out _ hb).mono ?_); rintro e w2 ⟨rfl, hb2⟩; obtain ⟨c3, c4⟩ := bcell hb2))
  have HB2 := ((two_ok w tokB (tokK k)).trans (hb2.mono (by simp; omega)))
  have e0 : w2.cell? ⟨w.heap.size, 0, none⟩ = some (.int .i64 0) := by simp [go_sem, c3, hz0, hz1]
  have e1 : w2.cell? ⟨w.heap.size, 1, none⟩ = some (.int .i64 0) := by simp [go_sem, c3, hz0, hz1]
  have e2 : w2.cell? ⟨w.heap.size, 2, none⟩ = some (.int .i64 0) := by simp [go_sem, c3, hz0, hz1]
  have e3 : w2.cell? ⟨w.heap.size, 3, none⟩ = some (.bool false) := by simp [go_sem, c3, hz0, hz1]
  refine bodyPost_ret (v := tokI 11 k ((k : Int) + 1) false) ?_ rfl ⟨?_, ?_⟩
  · simp [results, Try.results69, go_sem, e0, e1, e2, e3, tokI]
  · exact ret_tok rfl rfl (by first | omega | (simp only []; omega))
  · exact ((((HB2.setCell (by simp) _).setCell (by simp) _).setCell (by simp) _).setCell (by simp) _)

end Go.Proofs.Ytbljgoieieoamaa
