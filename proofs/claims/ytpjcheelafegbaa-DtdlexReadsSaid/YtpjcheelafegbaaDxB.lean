/-
  Contract of layer 9: word, its ways.
-/
import Derived.Test.YtpjcheelafegbaaDxP
namespace Go.Proofs.Ytpjcheelafegbaa
open Go.RowKit
set_option linter.unusedVariables false

abbrev dparB : Obj := .cells #[.int .i64 0, .int .i64 0, .int .i64 0] 32
abbrev dparK (k : Nat) : Obj := .cells #[.int .i64 8, .int .i64 (k : Nat), .int .i64 ((k : Int) + 1)] 32

set_option maxHeartbeats 2000000 in
theorem wrd_sp {b off n cap : Nat} {l : List Int} {w : World} (R : RRow w b off n cap l) (k : Nat) (hk : k < n) (z : Int) (hz : l.getD k 0 = z) (hs : spaceB z = true) (q : Nat) (hq : runP spaceB (l.drop k) = q) (hqn : k + q ≤ n) :
    Says 61 #[.slice (some ⟨b, off, none⟩) n cap, .int .i64 k] (parI 3 k ((k : Int) + q)) w w := by
  have hm := R.max
  have hc := R.le
  unfold maxLen at hm
  obtain ⟨b', off', hy, hcl⟩ := R.cells.int (k := k) (by rw [R.len]; exact hk)
  simp only [Option.some.injEq, Addr.mk.injEq] at hy
  obtain ⟨rfl, rfl, _⟩ := hy
  rw [hz] at hcl
  have hblt := cell_lt hcl
  have hn1 : ¬ b = w.heap.size + 1 := by omega
  have hn2 : ¬ b = w.heap.size := by omega
  have hblt2 : b < w.heap.size + 1 := by omega
  have R0 := R.below (two_ok w dparB (dparK k))
  have H1 := Lib.hid (spaceAB (W := ((w.alloc dparB).alloc (dparK k))) (r := z) hs)
  have H2 := Lib.hid (runSpaceB R0 k (by omega) hq)
  have hb : Below ((w.alloc dparB).alloc (dparK k)).heap.size ((w.alloc dparB).alloc (dparK k)) ((w.alloc dparB).alloc (dparK k)) := Below.refl _ _
  clear R R0 hz hs hq
  go_enter Try.func61, Try.ntmps61
  go_wp2_with (first
    | (go_at_call 78; (with_reducible refine (H1.out _ hb).mono ?_); rintro e w1 ⟨rfl, hb1⟩; replace hb := hb1; clear hb1; obtain ⟨c1, c2⟩ := bcell hb; have hz1 : w.heap.size + 1 < w1.heap.size := (by have := hb.size; simp at this; omega); have hz0 : w.heap.size < w1.heap.size := (by omega))
    | (go_at_call 79; (with_reducible refine (H2.out _ hb).mono ?_); rintro e w1 ⟨rfl, hb1⟩; replace hb := hb1; clear hb1; obtain ⟨c1, c2⟩ := bcell hb; have hz1 : w.heap.size + 1 < w1.heap.size := (by have := hb.size; simp at this; omega); have hz0 : w.heap.size < w1.heap.size := (by omega)))

  have e0 : w1.cell? ⟨w.heap.size, 0, none⟩ = some (.int .i64 0) := by simp [go_sem, c1]
  have e1 : w1.cell? ⟨w.heap.size, 1, none⟩ = some (.int .i64 0) := by simp [go_sem, c1]
  have e2 : w1.cell? ⟨w.heap.size, 2, none⟩ = some (.int .i64 0) := by simp [go_sem, c1]
  have x0 : w1.cell? ⟨w.heap.size + 1, 0, none⟩ = some (.int .i64 8) := by simp [go_sem, c1]
  have x1 : w1.cell? ⟨w.heap.size + 1, 1, none⟩ = some (.int .i64 k) := by simp [go_sem, c1]
  have x2 : w1.cell? ⟨w.heap.size + 1, 2, none⟩ = some (.int .i64 ((k : Int) + 1)) := by simp [go_sem, c1]
  have HB2 := (two_ok w dparB (dparK k)).trans (hb.mono (by simp; omega))
  refine bodyPost_ret (v := parI 3 k ((k : Int) + q)) ?_ rfl ⟨rfl, ?_⟩
  · simp [results, Try.results61, go_sem, e0, e1, e2, x0, x1, x2, parI]
  · exact (((((HB2.setCell (by simp) _).setCell (by simp) _).setCell (by simp) _).setCell (by simp) _).setCell (by simp) _)

set_option maxHeartbeats 2000000 in
theorem wrd_nm {b off n cap : Nat} {l : List Int} {w : World} (R : RRow w b off n cap l) (k : Nat) (hk : k < n) (z : Int) (hz : l.getD k 0 = z) (hs : spaceB z = false) (ht : startB z = true) (q : Nat) (hq : leadP (l.drop k) = q) (hqn : k + q ≤ n) :
    Says 61 #[.slice (some ⟨b, off, none⟩) n cap, .int .i64 k] (parI 2 k ((k : Int) + q)) w w := by
  have hm := R.max
  have hc := R.le
  unfold maxLen at hm
  obtain ⟨b', off', hy, hcl⟩ := R.cells.int (k := k) (by rw [R.len]; exact hk)
  simp only [Option.some.injEq, Addr.mk.injEq] at hy
  obtain ⟨rfl, rfl, _⟩ := hy
  rw [hz] at hcl
  have hblt := cell_lt hcl
  have hn1 : ¬ b = w.heap.size + 1 := by omega
  have hn2 : ¬ b = w.heap.size := by omega
  have hblt2 : b < w.heap.size + 1 := by omega
  have R0 := R.below (two_ok w dparB (dparK k))
  have H1 := Lib.hid (spaceAB (W := ((w.alloc dparB).alloc (dparK k))) (r := z) hs)
  have H2 := Lib.hid (nameStartB (W := ((w.alloc dparB).alloc (dparK k))) (r := z) ht)
  have H3 := Lib.hid (leadB R0 k hq)
  have hb : Below ((w.alloc dparB).alloc (dparK k)).heap.size ((w.alloc dparB).alloc (dparK k)) ((w.alloc dparB).alloc (dparK k)) := Below.refl _ _
  clear R R0 hz hs ht hq
  go_enter Try.func61, Try.ntmps61
  go_wp2_with (first
    | (go_at_call 78; (with_reducible refine (H1.out _ hb).mono ?_); rintro e w1 ⟨rfl, hb1⟩; replace hb := hb1; clear hb1; obtain ⟨c1, c2⟩ := bcell hb; have hz1 : w.heap.size + 1 < w1.heap.size := (by have := hb.size; simp at this; omega); have hz0 : w.heap.size < w1.heap.size := (by omega))
    | (go_at_call 80; (with_reducible refine (H2.out _ hb).mono ?_); rintro e w1 ⟨rfl, hb1⟩; replace hb := hb1; clear hb1; obtain ⟨c1, c2⟩ := bcell hb; have hz1 : w.heap.size + 1 < w1.heap.size := (by have := hb.size; simp at this; omega); have hz0 : w.heap.size < w1.heap.size := (by omega))
    | (go_at_call 81; (with_reducible refine (H3.out _ hb).mono ?_); rintro e w1 ⟨rfl, hb1⟩; replace hb := hb1; clear hb1; obtain ⟨c1, c2⟩ := bcell hb; have hz1 : w.heap.size + 1 < w1.heap.size := (by have := hb.size; simp at this; omega); have hz0 : w.heap.size < w1.heap.size := (by omega)))

  have e0 : w1.cell? ⟨w.heap.size, 0, none⟩ = some (.int .i64 0) := by simp [go_sem, c1]
  have e1 : w1.cell? ⟨w.heap.size, 1, none⟩ = some (.int .i64 0) := by simp [go_sem, c1]
  have e2 : w1.cell? ⟨w.heap.size, 2, none⟩ = some (.int .i64 0) := by simp [go_sem, c1]
  have x0 : w1.cell? ⟨w.heap.size + 1, 0, none⟩ = some (.int .i64 8) := by simp [go_sem, c1]
  have x1 : w1.cell? ⟨w.heap.size + 1, 1, none⟩ = some (.int .i64 k) := by simp [go_sem, c1]
  have x2 : w1.cell? ⟨w.heap.size + 1, 2, none⟩ = some (.int .i64 ((k : Int) + 1)) := by simp [go_sem, c1]
  have HB2 := (two_ok w dparB (dparK k)).trans (hb.mono (by simp; omega))
  refine bodyPost_ret (v := parI 2 k ((k : Int) + q)) ?_ rfl ⟨rfl, ?_⟩
  · simp [results, Try.results61, go_sem, e0, e1, e2, x0, x1, x2, parI]
  · exact (((((HB2.setCell (by simp) _).setCell (by simp) _).setCell (by simp) _).setCell (by simp) _).setCell (by simp) _)

set_option maxHeartbeats 2000000 in
theorem wrd_qd1 {b off n cap : Nat} {l : List Int} {w : World} (R : RRow w b off n cap l) (k : Nat) (hk : k < n) (z : Int) (hz : l.getD k 0 = z) (hs : spaceB z = false) (ht : startB z = false) (h3 : z = 34) (q : Nat) (hq : fnd [34] (l.drop (k + 1)) = some q) (hqn : k + 2 + q ≤ n) :
    Says 61 #[.slice (some ⟨b, off, none⟩) n cap, .int .i64 k] (parI 4 k ((k : Int) + 1 + q + 1)) w w := by
  have hm := R.max
  have hc := R.le
  unfold maxLen at hm
  obtain ⟨b', off', hy, hcl⟩ := R.cells.int (k := k) (by rw [R.len]; exact hk)
  simp only [Option.some.injEq, Addr.mk.injEq] at hy
  obtain ⟨rfl, rfl, _⟩ := hy
  rw [hz] at hcl
  have hblt := cell_lt hcl
  have hn1 : ¬ b = w.heap.size + 1 := by omega
  have hn2 : ¬ b = w.heap.size := by omega
  have hblt2 : b < w.heap.size + 1 := by omega
  have R0 := R.below (two_ok w dparB (dparK k))
  have H1 := Lib.hid (spaceAB (W := ((w.alloc dparB).alloc (dparK k))) (r := z) hs)
  have H2 := Lib.hid (nameStartB (W := ((w.alloc dparB).alloc (dparK k))) (r := z) ht)
  have H3 := Lib.hid (findB R0 sDqS (k + 1) (by omega) (p := ((k : Int) + 1 + q, true)) (by show fndI _ (fnd [34] _) = _; rw [hq]; rfl))
  simp only [Int.natCast_add, Int.cast_ofNat_Int] at H1 H2 H3
  subst h3
  have eu : Utf8.encode 34 = (⟨#[34]⟩ : ByteArray) := by decide +kernel
  have hb : Below ((w.alloc dparB).alloc (dparK k)).heap.size ((w.alloc dparB).alloc (dparK k)) ((w.alloc dparB).alloc (dparK k)) := Below.refl _ _
  clear R R0 hz hs ht hq
  go_enter Try.func61, Try.ntmps61
  go_wp2_with (first
    | (go_at_call 78; (with_reducible refine (H1.out _ hb).mono ?_); rintro e w1 ⟨rfl, hb1⟩; replace hb := hb1; clear hb1; obtain ⟨c1, c2⟩ := bcell hb; have hz1 : w.heap.size + 1 < w1.heap.size := (by have := hb.size; simp at this; omega); have hz0 : w.heap.size < w1.heap.size := (by omega))
    | (go_at_call 80; (with_reducible refine (H2.out _ hb).mono ?_); rintro e w1 ⟨rfl, hb1⟩; replace hb := hb1; clear hb1; obtain ⟨c1, c2⟩ := bcell hb; have hz1 : w.heap.size + 1 < w1.heap.size := (by have := hb.size; simp at this; omega); have hz0 : w.heap.size < w1.heap.size := (by omega))
    | (go_at_call 82; (with_reducible refine (H3.out _ hb).mono ?_); rintro e w1 ⟨rfl, hb1⟩; replace hb := hb1; clear hb1; obtain ⟨c1, c2⟩ := bcell hb; have hz1 : w.heap.size + 1 < w1.heap.size := (by have := hb.size; simp at this; omega); have hz0 : w.heap.size < w1.heap.size := (by omega)))

  have e0 : w1.cell? ⟨w.heap.size, 0, none⟩ = some (.int .i64 0) := by simp [go_sem, c1]
  have e1 : w1.cell? ⟨w.heap.size, 1, none⟩ = some (.int .i64 0) := by simp [go_sem, c1]
  have e2 : w1.cell? ⟨w.heap.size, 2, none⟩ = some (.int .i64 0) := by simp [go_sem, c1]
  have x0 : w1.cell? ⟨w.heap.size + 1, 0, none⟩ = some (.int .i64 8) := by simp [go_sem, c1]
  have x1 : w1.cell? ⟨w.heap.size + 1, 1, none⟩ = some (.int .i64 k) := by simp [go_sem, c1]
  have x2 : w1.cell? ⟨w.heap.size + 1, 2, none⟩ = some (.int .i64 ((k : Int) + 1)) := by simp [go_sem, c1]
  have HB2 := (two_ok w dparB (dparK k)).trans (hb.mono (by simp; omega))
  refine bodyPost_ret (v := parI 4 k ((k : Int) + 1 + q + 1)) ?_ rfl ⟨rfl, ?_⟩
  · simp [results, Try.results61, go_sem, e0, e1, e2, x0, x1, x2, parI]
  · exact (((((HB2.setCell (by simp) _).setCell (by simp) _).setCell (by simp) _).setCell (by simp) _).setCell (by simp) _)

set_option maxHeartbeats 2000000 in
theorem wrd_qd0 {b off n cap : Nat} {l : List Int} {w : World} (R : RRow w b off n cap l) (k : Nat) (hk : k < n) (z : Int) (hz : l.getD k 0 = z) (hs : spaceB z = false) (ht : startB z = false) (h3 : z = 34) (hq : fnd [34] (l.drop (k + 1)) = none) :
    Says 61 #[.slice (some ⟨b, off, none⟩) n cap, .int .i64 k] (parI 8 k ((k : Int) + 1)) w w := by
  have hm := R.max
  have hc := R.le
  unfold maxLen at hm
  obtain ⟨b', off', hy, hcl⟩ := R.cells.int (k := k) (by rw [R.len]; exact hk)
  simp only [Option.some.injEq, Addr.mk.injEq] at hy
  obtain ⟨rfl, rfl, _⟩ := hy
  rw [hz] at hcl
  have hblt := cell_lt hcl
  have hn1 : ¬ b = w.heap.size + 1 := by omega
  have hn2 : ¬ b = w.heap.size := by omega
  have hblt2 : b < w.heap.size + 1 := by omega
  have R0 := R.below (two_ok w dparB (dparK k))
  have H1 := Lib.hid (spaceAB (W := ((w.alloc dparB).alloc (dparK k))) (r := z) hs)
  have H2 := Lib.hid (nameStartB (W := ((w.alloc dparB).alloc (dparK k))) (r := z) ht)
  have H3 := Lib.hid (findB R0 sDqS (k + 1) (by omega) (p := (0, false)) (by show fndI _ (fnd [34] _) = _; rw [hq]; rfl))
  simp only [Int.natCast_add, Int.cast_ofNat_Int] at H1 H2 H3
  subst h3
  have eu : Utf8.encode 34 = (⟨#[34]⟩ : ByteArray) := by decide +kernel
  have hb : Below ((w.alloc dparB).alloc (dparK k)).heap.size ((w.alloc dparB).alloc (dparK k)) ((w.alloc dparB).alloc (dparK k)) := Below.refl _ _
  clear R R0 hz hs ht hq
  go_enter Try.func61, Try.ntmps61
  go_wp2_with (first
    | (go_at_call 78; (with_reducible refine (H1.out _ hb).mono ?_); rintro e w1 ⟨rfl, hb1⟩; replace hb := hb1; clear hb1; obtain ⟨c1, c2⟩ := bcell hb; have hz1 : w.heap.size + 1 < w1.heap.size := (by have := hb.size; simp at this; omega); have hz0 : w.heap.size < w1.heap.size := (by omega))
    | (go_at_call 80; (with_reducible refine (H2.out _ hb).mono ?_); rintro e w1 ⟨rfl, hb1⟩; replace hb := hb1; clear hb1; obtain ⟨c1, c2⟩ := bcell hb; have hz1 : w.heap.size + 1 < w1.heap.size := (by have := hb.size; simp at this; omega); have hz0 : w.heap.size < w1.heap.size := (by omega))
    | (go_at_call 82; (with_reducible refine (H3.out _ hb).mono ?_); rintro e w1 ⟨rfl, hb1⟩; replace hb := hb1; clear hb1; obtain ⟨c1, c2⟩ := bcell hb; have hz1 : w.heap.size + 1 < w1.heap.size := (by have := hb.size; simp at this; omega); have hz0 : w.heap.size < w1.heap.size := (by omega)))

  have e0 : w1.cell? ⟨w.heap.size, 0, none⟩ = some (.int .i64 0) := by simp [go_sem, c1]
  have e1 : w1.cell? ⟨w.heap.size, 1, none⟩ = some (.int .i64 0) := by simp [go_sem, c1]
  have e2 : w1.cell? ⟨w.heap.size, 2, none⟩ = some (.int .i64 0) := by simp [go_sem, c1]
  have x0 : w1.cell? ⟨w.heap.size + 1, 0, none⟩ = some (.int .i64 8) := by simp [go_sem, c1]
  have x1 : w1.cell? ⟨w.heap.size + 1, 1, none⟩ = some (.int .i64 k) := by simp [go_sem, c1]
  have x2 : w1.cell? ⟨w.heap.size + 1, 2, none⟩ = some (.int .i64 ((k : Int) + 1)) := by simp [go_sem, c1]
  have HB2 := (two_ok w dparB (dparK k)).trans (hb.mono (by simp; omega))
  refine bodyPost_ret (v := parI 8 k ((k : Int) + 1)) ?_ rfl ⟨rfl, ?_⟩
  · simp [results, Try.results61, go_sem, e0, e1, e2, x0, x1, x2, parI]
  · exact (((HB2.setCell (by simp) _).setCell (by simp) _).setCell (by simp) _)

set_option maxHeartbeats 2000000 in
theorem wrd_qs1 {b off n cap : Nat} {l : List Int} {w : World} (R : RRow w b off n cap l) (k : Nat) (hk : k < n) (z : Int) (hz : l.getD k 0 = z) (hs : spaceB z = false) (ht : startB z = false) (h3 : z = 39) (q : Nat) (hq : fnd [39] (l.drop (k + 1)) = some q) (hqn : k + 2 + q ≤ n) :
    Says 61 #[.slice (some ⟨b, off, none⟩) n cap, .int .i64 k] (parI 4 k ((k : Int) + 1 + q + 1)) w w := by
  have hm := R.max
  have hc := R.le
  unfold maxLen at hm
  obtain ⟨b', off', hy, hcl⟩ := R.cells.int (k := k) (by rw [R.len]; exact hk)
  simp only [Option.some.injEq, Addr.mk.injEq] at hy
  obtain ⟨rfl, rfl, _⟩ := hy
  rw [hz] at hcl
  have hblt := cell_lt hcl
  have hn1 : ¬ b = w.heap.size + 1 := by omega
  have hn2 : ¬ b = w.heap.size := by omega
  have hblt2 : b < w.heap.size + 1 := by omega
  have R0 := R.below (two_ok w dparB (dparK k))
  have H1 := Lib.hid (spaceAB (W := ((w.alloc dparB).alloc (dparK k))) (r := z) hs)
  have H2 := Lib.hid (nameStartB (W := ((w.alloc dparB).alloc (dparK k))) (r := z) ht)
  have H3 := Lib.hid (findB R0 sSqS (k + 1) (by omega) (p := ((k : Int) + 1 + q, true)) (by show fndI _ (fnd [39] _) = _; rw [hq]; rfl))
  simp only [Int.natCast_add, Int.cast_ofNat_Int] at H1 H2 H3
  subst h3
  have eu : Utf8.encode 39 = (⟨#[39]⟩ : ByteArray) := by decide +kernel
  have hb : Below ((w.alloc dparB).alloc (dparK k)).heap.size ((w.alloc dparB).alloc (dparK k)) ((w.alloc dparB).alloc (dparK k)) := Below.refl _ _
  clear R R0 hz hs ht hq
  go_enter Try.func61, Try.ntmps61
  go_wp2_with (first
    | (go_at_call 78; (with_reducible refine (H1.out _ hb).mono ?_); rintro e w1 ⟨rfl, hb1⟩; replace hb := hb1; clear hb1; obtain ⟨c1, c2⟩ := bcell hb; have hz1 : w.heap.size + 1 < w1.heap.size := (by have := hb.size; simp at this; omega); have hz0 : w.heap.size < w1.heap.size := (by omega))
    | (go_at_call 80; (with_reducible refine (H2.out _ hb).mono ?_); rintro e w1 ⟨rfl, hb1⟩; replace hb := hb1; clear hb1; obtain ⟨c1, c2⟩ := bcell hb; have hz1 : w.heap.size + 1 < w1.heap.size := (by have := hb.size; simp at this; omega); have hz0 : w.heap.size < w1.heap.size := (by omega))
    | (go_at_call 82; (with_reducible refine (H3.out _ hb).mono ?_); rintro e w1 ⟨rfl, hb1⟩; replace hb := hb1; clear hb1; obtain ⟨c1, c2⟩ := bcell hb; have hz1 : w.heap.size + 1 < w1.heap.size := (by have := hb.size; simp at this; omega); have hz0 : w.heap.size < w1.heap.size := (by omega)))

  have e0 : w1.cell? ⟨w.heap.size, 0, none⟩ = some (.int .i64 0) := by simp [go_sem, c1]
  have e1 : w1.cell? ⟨w.heap.size, 1, none⟩ = some (.int .i64 0) := by simp [go_sem, c1]
  have e2 : w1.cell? ⟨w.heap.size, 2, none⟩ = some (.int .i64 0) := by simp [go_sem, c1]
  have x0 : w1.cell? ⟨w.heap.size + 1, 0, none⟩ = some (.int .i64 8) := by simp [go_sem, c1]
  have x1 : w1.cell? ⟨w.heap.size + 1, 1, none⟩ = some (.int .i64 k) := by simp [go_sem, c1]
  have x2 : w1.cell? ⟨w.heap.size + 1, 2, none⟩ = some (.int .i64 ((k : Int) + 1)) := by simp [go_sem, c1]
  have HB2 := (two_ok w dparB (dparK k)).trans (hb.mono (by simp; omega))
  refine bodyPost_ret (v := parI 4 k ((k : Int) + 1 + q + 1)) ?_ rfl ⟨rfl, ?_⟩
  · simp [results, Try.results61, go_sem, e0, e1, e2, x0, x1, x2, parI]
  · exact (((((HB2.setCell (by simp) _).setCell (by simp) _).setCell (by simp) _).setCell (by simp) _).setCell (by simp) _)

set_option maxHeartbeats 2000000 in
theorem wrd_qs0 {b off n cap : Nat} {l : List Int} {w : World} (R : RRow w b off n cap l) (k : Nat) (hk : k < n) (z : Int) (hz : l.getD k 0 = z) (hs : spaceB z = false) (ht : startB z = false) (h3 : z = 39) (hq : fnd [39] (l.drop (k + 1)) = none) :
    Says 61 #[.slice (some ⟨b, off, none⟩) n cap, .int .i64 k] (parI 8 k ((k : Int) + 1)) w w := by
  have hm := R.max
  have hc := R.le
  unfold maxLen at hm
  obtain ⟨b', off', hy, hcl⟩ := R.cells.int (k := k) (by rw [R.len]; exact hk)
  simp only [Option.some.injEq, Addr.mk.injEq] at hy
  obtain ⟨rfl, rfl, _⟩ := hy
  rw [hz] at hcl
  have hblt := cell_lt hcl
  have hn1 : ¬ b = w.heap.size + 1 := by omega
  have hn2 : ¬ b = w.heap.size := by omega
  have hblt2 : b < w.heap.size + 1 := by omega
  have R0 := R.below (two_ok w dparB (dparK k))
  have H1 := Lib.hid (spaceAB (W := ((w.alloc dparB).alloc (dparK k))) (r := z) hs)
  have H2 := Lib.hid (nameStartB (W := ((w.alloc dparB).alloc (dparK k))) (r := z) ht)
  have H3 := Lib.hid (findB R0 sSqS (k + 1) (by omega) (p := (0, false)) (by show fndI _ (fnd [39] _) = _; rw [hq]; rfl))
  simp only [Int.natCast_add, Int.cast_ofNat_Int] at H1 H2 H3
  subst h3
  have eu : Utf8.encode 39 = (⟨#[39]⟩ : ByteArray) := by decide +kernel
  have hb : Below ((w.alloc dparB).alloc (dparK k)).heap.size ((w.alloc dparB).alloc (dparK k)) ((w.alloc dparB).alloc (dparK k)) := Below.refl _ _
  clear R R0 hz hs ht hq
  go_enter Try.func61, Try.ntmps61
  go_wp2_with (first
    | (go_at_call 78; (with_reducible refine (H1.out _ hb).mono ?_); rintro e w1 ⟨rfl, hb1⟩; replace hb := hb1; clear hb1; obtain ⟨c1, c2⟩ := bcell hb; have hz1 : w.heap.size + 1 < w1.heap.size := (by have := hb.size; simp at this; omega); have hz0 : w.heap.size < w1.heap.size := (by omega))
    | (go_at_call 80; (with_reducible refine (H2.out _ hb).mono ?_); rintro e w1 ⟨rfl, hb1⟩; replace hb := hb1; clear hb1; obtain ⟨c1, c2⟩ := bcell hb; have hz1 : w.heap.size + 1 < w1.heap.size := (by have := hb.size; simp at this; omega); have hz0 : w.heap.size < w1.heap.size := (by omega))
    | (go_at_call 82; (with_reducible refine (H3.out _ hb).mono ?_); rintro e w1 ⟨rfl, hb1⟩; replace hb := hb1; clear hb1; obtain ⟨c1, c2⟩ := bcell hb; have hz1 : w.heap.size + 1 < w1.heap.size := (by have := hb.size; simp at this; omega); have hz0 : w.heap.size < w1.heap.size := (by omega)))

  have e0 : w1.cell? ⟨w.heap.size, 0, none⟩ = some (.int .i64 0) := by simp [go_sem, c1]
  have e1 : w1.cell? ⟨w.heap.size, 1, none⟩ = some (.int .i64 0) := by simp [go_sem, c1]
  have e2 : w1.cell? ⟨w.heap.size, 2, none⟩ = some (.int .i64 0) := by simp [go_sem, c1]
  have x0 : w1.cell? ⟨w.heap.size + 1, 0, none⟩ = some (.int .i64 8) := by simp [go_sem, c1]
  have x1 : w1.cell? ⟨w.heap.size + 1, 1, none⟩ = some (.int .i64 k) := by simp [go_sem, c1]
  have x2 : w1.cell? ⟨w.heap.size + 1, 2, none⟩ = some (.int .i64 ((k : Int) + 1)) := by simp [go_sem, c1]
  have HB2 := (two_ok w dparB (dparK k)).trans (hb.mono (by simp; omega))
  refine bodyPost_ret (v := parI 8 k ((k : Int) + 1)) ?_ rfl ⟨rfl, ?_⟩
  · simp [results, Try.results61, go_sem, e0, e1, e2, x0, x1, x2, parI]
  · exact (((HB2.setCell (by simp) _).setCell (by simp) _).setCell (by simp) _)

set_option maxHeartbeats 2000000 in
theorem wrd_j {b off n cap : Nat} {l : List Int} {w : World} (R : RRow w b off n cap l) (k : Nat) (hk : k < n) (z : Int) (hz : l.getD k 0 = z) (hs : spaceB z = false) (ht : startB z = false) (h34 : ¬ z = 34) (h39 : ¬ z = 39) :
    Says 61 #[.slice (some ⟨b, off, none⟩) n cap, .int .i64 k] (parI 8 k ((k : Int) + 1)) w w := by
  have hm := R.max
  have hc := R.le
  unfold maxLen at hm
  obtain ⟨b', off', hy, hcl⟩ := R.cells.int (k := k) (by rw [R.len]; exact hk)
  simp only [Option.some.injEq, Addr.mk.injEq] at hy
  obtain ⟨rfl, rfl, _⟩ := hy
  rw [hz] at hcl
  have hblt := cell_lt hcl
  have hn1 : ¬ b = w.heap.size + 1 := by omega
  have hn2 : ¬ b = w.heap.size := by omega
  have hblt2 : b < w.heap.size + 1 := by omega
  have R0 := R.below (two_ok w dparB (dparK k))
  have H1 := Lib.hid (spaceAB (W := ((w.alloc dparB).alloc (dparK k))) (r := z) hs)
  have H2 := Lib.hid (nameStartB (W := ((w.alloc dparB).alloc (dparK k))) (r := z) ht)
  have e34 : (z == 34) = false := by simpa using h34
  have e39 : (z == 39) = false := by simpa using h39
  have hb : Below ((w.alloc dparB).alloc (dparK k)).heap.size ((w.alloc dparB).alloc (dparK k)) ((w.alloc dparB).alloc (dparK k)) := Below.refl _ _
  clear R R0 hz hs ht
  go_enter Try.func61, Try.ntmps61
  go_wp2_with (first
    | (go_at_call 78; (with_reducible refine (H1.out _ hb).mono ?_); rintro e w1 ⟨rfl, hb1⟩; replace hb := hb1; clear hb1; obtain ⟨c1, c2⟩ := bcell hb; have hz1 : w.heap.size + 1 < w1.heap.size := (by have := hb.size; simp at this; omega); have hz0 : w.heap.size < w1.heap.size := (by omega))
    | (go_at_call 80; (with_reducible refine (H2.out _ hb).mono ?_); rintro e w1 ⟨rfl, hb1⟩; replace hb := hb1; clear hb1; obtain ⟨c1, c2⟩ := bcell hb; have hz1 : w.heap.size + 1 < w1.heap.size := (by have := hb.size; simp at this; omega); have hz0 : w.heap.size < w1.heap.size := (by omega)))

  have e0 : w1.cell? ⟨w.heap.size, 0, none⟩ = some (.int .i64 0) := by simp [go_sem, c1]
  have e1 : w1.cell? ⟨w.heap.size, 1, none⟩ = some (.int .i64 0) := by simp [go_sem, c1]
  have e2 : w1.cell? ⟨w.heap.size, 2, none⟩ = some (.int .i64 0) := by simp [go_sem, c1]
  have x0 : w1.cell? ⟨w.heap.size + 1, 0, none⟩ = some (.int .i64 8) := by simp [go_sem, c1]
  have x1 : w1.cell? ⟨w.heap.size + 1, 1, none⟩ = some (.int .i64 k) := by simp [go_sem, c1]
  have x2 : w1.cell? ⟨w.heap.size + 1, 2, none⟩ = some (.int .i64 ((k : Int) + 1)) := by simp [go_sem, c1]
  have HB2 := (two_ok w dparB (dparK k)).trans (hb.mono (by simp; omega))
  refine bodyPost_ret (v := parI 8 k ((k : Int) + 1)) ?_ rfl ⟨rfl, ?_⟩
  · simp [results, Try.results61, go_sem, e0, e1, e2, x0, x1, x2, parI]
  · exact (((HB2.setCell (by simp) _).setCell (by simp) _).setCell (by simp) _)


theorem word_any {b off n cap : Nat} {l : List Int} {w : World} (R : RRow w b off n cap l) (k : Nat) (hk : k < n) {t : Nat × Nat} (ht : wdP (l.drop k) = t) :
    Says 61 #[.slice (some ⟨b, off, none⟩) n cap, .int .i64 k] (parI t.1 k ((k : Int) + t.2)) w w := by
  have hdl : (l.drop k).length = n - k := by rw [dropl, R.len]
  have hg : (l.drop k).getD 0 0 = l.getD k 0 := by simp
  have hd1 : (l.drop k).drop 1 = l.drop (k + 1) := dd ..
  unfold wdP at ht
  rw [hg] at ht
  obtain ⟨z, hz⟩ : ∃ z, l.getD k 0 = z := ⟨_, rfl⟩
  rw [hz] at ht
  cases hs : spaceB z
  case true =>
    rw [if_pos hs] at ht
    subst ht
    have := runP_le spaceB (l.drop k)
    exact wrd_sp R k hk z hz hs _ rfl (by omega)
  rw [if_neg (by rw [hs]; decide)] at ht
  cases hst : startB z
  case true =>
    rw [if_pos hst] at ht
    subst ht
    have := leadP_le (l.drop k)
    exact wrd_nm R k hk z hz hs hst _ rfl (by omega)
  rw [if_neg (by rw [hst]; decide)] at ht
  by_cases h34 : z = 34
  · rw [if_pos (.inl h34), h34] at ht
    unfold quoD at ht
    rw [hd1] at ht
    cases hf : fnd [34] (l.drop (k + 1)) with
    | none => rw [hf] at ht; subst ht; exact wrd_qd0 R k hk z hz hs hst h34 hf
    | some q =>
      rw [hf] at ht
      subst ht
      have := (fnd_le _ _ _ hf).1
      rw [dropl, R.len] at this
      simp at this
      have h := wrd_qd1 R k hk z hz hs hst h34 q hf (by omega)
      rw [show (k : Int) + 1 + q + 1 = (k : Int) + ((q + 2 : Nat) : Int) by omega] at h
      exact h
  by_cases h39 : z = 39
  · rw [if_pos (.inr h39), h39] at ht
    unfold quoD at ht
    rw [hd1] at ht
    cases hf : fnd [39] (l.drop (k + 1)) with
    | none => rw [hf] at ht; subst ht; exact wrd_qs0 R k hk z hz hs hst h39 hf
    | some q =>
      rw [hf] at ht
      subst ht
      have := (fnd_le _ _ _ hf).1
      rw [dropl, R.len] at this
      simp at this
      have h := wrd_qs1 R k hk z hz hs hst h39 q hf (by omega)
      rw [show (k : Int) + 1 + q + 1 = (k : Int) + ((q + 2 : Nat) : Int) by omega] at h
      exact h
  rw [if_neg (by rintro (h | h); exact h34 h; exact h39 h)] at ht
  subst ht
  exact wrd_j R k hk z hz hs hst h34 h39


end Go.Proofs.Ytpjcheelafegbaa
