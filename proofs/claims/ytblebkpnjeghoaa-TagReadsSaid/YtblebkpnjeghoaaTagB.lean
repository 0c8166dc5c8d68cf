/-
  Contracts of layer 8: ends, part.
-/
import Derived.Test.YtblebkpnjeghoaaTagP
namespace Go.Proofs.Ytblebkpnjeghoaa
open Go.RowKit
set_option linter.unusedVariables false

theorem sLtS : Sign ⟨#[60]⟩ := Sign.of (by decide)
theorem sEcS : Sign ⟨#[47, 62]⟩ := Sign.of (by decide)
theorem sDqS : Sign ⟨#[34]⟩ := Sign.of (by decide)
theorem sSqS : Sign ⟨#[39]⟩ := Sign.of (by decide)

set_option maxHeartbeats 1000000 in
theorem endsB {b off n cap : Nat} {l : List Int} {W : World} (R : RRow W b off n cap l) {s : ByteArray} (S : Sign s) (k : Nat) (hk : k ≤ n) {v : Bool} (hv : (decide ((l.drop k).length = s.size) && sw (sg s) (l.drop k)) = v) (w : World) (hb : Below W.heap.size W w) :
    Says 119 #[.slice (some ⟨b, off, none⟩) n cap, .int .i64 k, .string s] (.bool v) W w := by
  have hm := R.max
  have hc := R.le
  unfold maxLen at hm
  have hs2 := S.small
  rw [dropl, R.len] at hv
  by_cases h : n - k = s.size
  · rw [decide_eq_true h, Bool.true_and] at hv
    have HS := Lib.hid (startsB R S k hk hv w hb)
    have hq : ((n : Int) - k == (s.size : Int)) = true := by simp; omega
    clear R hv
    go_enter Try.func119, Try.ntmps119
    go_wp2_with (go_at_call 83; (with_reducible refine HS.out.mono ?_); rintro e w1 ⟨rfl, hb1⟩)
    go_ret
    exact ⟨rfl, hb1⟩
  · rw [decide_eq_false h, Bool.false_and] at hv
    subst hv
    have hq : ((n : Int) - k == (s.size : Int)) = false := by simp; omega
    clear R
    go_enter Try.func119, Try.ntmps119
    go_wp2
    go_ret
    exact ⟨rfl, hb⟩

section
variable {b off n cap : Nat} {l : List Int} {W : World}
theorem findB (R : RRow W b off n cap l) {s : ByteArray} (S : Sign s) (k : Nat) (hk : k ≤ n) {p : Int × Bool} (hp : fndI k (fnd (sg s) (l.drop k)) = p) (w : World) (hb : Below W.heap.size W w) :
    Says 109 #[.slice (some ⟨b, off, none⟩) n cap, .int .i64 k, .int .i64 n, .string s] (.tuple #[.int .i64 p.1, .bool p.2]) W w :=
  (find_any (R.below hb) S k hk).mono fun e w' ⟨he, m, hw⟩ => ⟨hp ▸ he, hw ▸ below_drewN hb m⟩
theorem spaceAB {r : Int} {v : Bool} (h : spaceB r = v) (w : World) (hb : Below W.heap.size W w) :
    Says 105 #[.int .i32 r] (.bool v) W w :=
  (space_bl h w).mono fun e w' ⟨he, hw⟩ => ⟨he, Below.more hb hw⟩
end

/-- A part's value, by integers; the block of a result that is a part. -/
abbrev parI (a b c : Int) : Value := .agg #[.int .i64 a, .int .i64 b, .int .i64 c]
abbrev parB : Obj := .cells #[.int .i64 0, .int .i64 0, .int .i64 0] 75
abbrev parK (k : Nat) : Obj := .cells #[.int .i64 7, .int .i64 (k : Nat), .int .i64 ((k : Int) + 1)] 75
theorem ret_par {a b c a' b' c' : Int} (h : a = a') (h' : b = b') (h2 : c = c') : Ending.returned (parI a b c) = .returned (parI a' b' c') := by rw [h, h', h2]

set_option maxHeartbeats 2000000 in
theorem part_sp {b off n cap : Nat} {l : List Int} {w : World} (R : RRow w b off n cap l) (k : Nat) (hk : k < n) (z : Int) (hz : l.getD k 0 = z) (hs : spaceB z = true) (q : Nat) (hq : runP spaceB (l.drop k) = q) (hqn : k + q ≤ n) :
    Says 101 #[.slice (some ⟨b, off, none⟩) n cap, .int .i64 k] (parI 3 k ((k : Int) + q)) w w := by
  have hm := R.max
  have hc := R.le
  unfold maxLen at hm
  obtain ⟨b', off', hy, hcl⟩ := R.cells.int (k := k) (by rw [R.len]; exact hk)
  simp only [Option.some.injEq, Addr.mk.injEq] at hy
  obtain ⟨rfl, rfl, _⟩ := hy
  rw [hz] at hcl
  have hblt := cell_lt hcl
  have hn1 : ¬ b = w.heap.size + 1 := by omega
  have hn2 : ¬ b = w.heap.size := by omega
  have hblt2 : b < w.heap.size + 1 := by omega
  have R0 := R.below (two_ok w parB (parK k))
  have H1 := Lib.hid (spaceAB (W := ((w.alloc parB).alloc (parK k))) (r := z) hs)
  have H2 := Lib.hid (runSpaceB R0 k (by omega) hq)
  have hb : Below ((w.alloc parB).alloc (parK k)).heap.size ((w.alloc parB).alloc (parK k)) ((w.alloc parB).alloc (parK k)) := Below.refl _ _
  clear R R0 hz hs hq
  go_enter Try.func101, Try.ntmps101
  go_wp2_with (first
    | (go_at_call 105; (with_reducible refine (H1.out _ hb).mono ?_); rintro e w1 ⟨rfl, hb1⟩; replace hb := hb1; clear hb1; obtain ⟨c1, c2⟩ := bcell hb; have hz1 : w.heap.size + 1 < w1.heap.size := (by have := hb.size; simp at this; omega); have hz0 : w.heap.size < w1.heap.size := (by omega))
    | (go_at_call 106; (with_reducible refine (H2.out _ hb).mono ?_); rintro e w1 ⟨rfl, hb1⟩; replace hb := hb1; clear hb1; obtain ⟨c1, c2⟩ := bcell hb; have hz1 : w.heap.size + 1 < w1.heap.size := (by have := hb.size; simp at this; omega); have hz0 : w.heap.size < w1.heap.size := (by omega)))

  have e0 : w1.cell? ⟨w.heap.size, 0, none⟩ = some (.int .i64 0) := by simp [go_sem, c1]
  have e1 : w1.cell? ⟨w.heap.size, 1, none⟩ = some (.int .i64 0) := by simp [go_sem, c1]
  have e2 : w1.cell? ⟨w.heap.size, 2, none⟩ = some (.int .i64 0) := by simp [go_sem, c1]
  have x0 : w1.cell? ⟨w.heap.size + 1, 0, none⟩ = some (.int .i64 7) := by simp [go_sem, c1]
  have x1 : w1.cell? ⟨w.heap.size + 1, 1, none⟩ = some (.int .i64 k) := by simp [go_sem, c1]
  have x2 : w1.cell? ⟨w.heap.size + 1, 2, none⟩ = some (.int .i64 ((k : Int) + 1)) := by simp [go_sem, c1]
  have HB2 := (two_ok w parB (parK k)).trans (hb.mono (by simp; omega))
  refine bodyPost_ret (v := parI 3 k ((k : Int) + q)) ?_ rfl ⟨rfl, ?_⟩
  · simp [results, Try.results101, go_sem, e0, e1, e2, x0, x1, x2, parI]
  · exact (((((HB2.setCell (by simp) _).setCell (by simp) _).setCell (by simp) _).setCell (by simp) _).setCell (by simp) _)

set_option maxHeartbeats 2000000 in
theorem part_nm {b off n cap : Nat} {l : List Int} {w : World} (R : RRow w b off n cap l) (k : Nat) (hk : k < n) (z : Int) (hz : l.getD k 0 = z) (hs : spaceB z = false) (ht : startB z = true) (q : Nat) (hq : leadP (l.drop k) = q) (hqn : k + q ≤ n) :
    Says 101 #[.slice (some ⟨b, off, none⟩) n cap, .int .i64 k] (parI 2 k ((k : Int) + q)) w w := by
  have hm := R.max
  have hc := R.le
  unfold maxLen at hm
  obtain ⟨b', off', hy, hcl⟩ := R.cells.int (k := k) (by rw [R.len]; exact hk)
  simp only [Option.some.injEq, Addr.mk.injEq] at hy
  obtain ⟨rfl, rfl, _⟩ := hy
  rw [hz] at hcl
  have hblt := cell_lt hcl
  have hn1 : ¬ b = w.heap.size + 1 := by omega
  have hn2 : ¬ b = w.heap.size := by omega
  have hblt2 : b < w.heap.size + 1 := by omega
  have R0 := R.below (two_ok w parB (parK k))
  have H1 := Lib.hid (spaceAB (W := ((w.alloc parB).alloc (parK k))) (r := z) hs)
  have H2 := Lib.hid (nameStartB (W := ((w.alloc parB).alloc (parK k))) (r := z) ht)
  have H3 := Lib.hid (leadB R0 k hq)
  have hb : Below ((w.alloc parB).alloc (parK k)).heap.size ((w.alloc parB).alloc (parK k)) ((w.alloc parB).alloc (parK k)) := Below.refl _ _
  clear R R0 hz hs ht hq
  go_enter Try.func101, Try.ntmps101
  go_wp2_with (first
    | (go_at_call 105; (with_reducible refine (H1.out _ hb).mono ?_); rintro e w1 ⟨rfl, hb1⟩; replace hb := hb1; clear hb1; obtain ⟨c1, c2⟩ := bcell hb; have hz1 : w.heap.size + 1 < w1.heap.size := (by have := hb.size; simp at this; omega); have hz0 : w.heap.size < w1.heap.size := (by omega))
    | (go_at_call 107; (with_reducible refine (H2.out _ hb).mono ?_); rintro e w1 ⟨rfl, hb1⟩; replace hb := hb1; clear hb1; obtain ⟨c1, c2⟩ := bcell hb; have hz1 : w.heap.size + 1 < w1.heap.size := (by have := hb.size; simp at this; omega); have hz0 : w.heap.size < w1.heap.size := (by omega))
    | (go_at_call 108; (with_reducible refine (H3.out _ hb).mono ?_); rintro e w1 ⟨rfl, hb1⟩; replace hb := hb1; clear hb1; obtain ⟨c1, c2⟩ := bcell hb; have hz1 : w.heap.size + 1 < w1.heap.size := (by have := hb.size; simp at this; omega); have hz0 : w.heap.size < w1.heap.size := (by omega)))

  have e0 : w1.cell? ⟨w.heap.size, 0, none⟩ = some (.int .i64 0) := by simp [go_sem, c1]
  have e1 : w1.cell? ⟨w.heap.size, 1, none⟩ = some (.int .i64 0) := by simp [go_sem, c1]
  have e2 : w1.cell? ⟨w.heap.size, 2, none⟩ = some (.int .i64 0) := by simp [go_sem, c1]
  have x0 : w1.cell? ⟨w.heap.size + 1, 0, none⟩ = some (.int .i64 7) := by simp [go_sem, c1]
  have x1 : w1.cell? ⟨w.heap.size + 1, 1, none⟩ = some (.int .i64 k) := by simp [go_sem, c1]
  have x2 : w1.cell? ⟨w.heap.size + 1, 2, none⟩ = some (.int .i64 ((k : Int) + 1)) := by simp [go_sem, c1]
  have HB2 := (two_ok w parB (parK k)).trans (hb.mono (by simp; omega))
  refine bodyPost_ret (v := parI 2 k ((k : Int) + q)) ?_ rfl ⟨rfl, ?_⟩
  · simp [results, Try.results101, go_sem, e0, e1, e2, x0, x1, x2, parI]
  · exact (((((HB2.setCell (by simp) _).setCell (by simp) _).setCell (by simp) _).setCell (by simp) _).setCell (by simp) _)

set_option maxHeartbeats 2000000 in
theorem part_eq {b off n cap : Nat} {l : List Int} {w : World} (R : RRow w b off n cap l) (k : Nat) (hk : k < n) (z : Int) (hz : l.getD k 0 = z) (hs : spaceB z = false) (ht : startB z = false) (h61 : z = 61) :
    Says 101 #[.slice (some ⟨b, off, none⟩) n cap, .int .i64 k] (parI 4 k ((k : Int) + 1)) w w := by
  have hm := R.max
  have hc := R.le
  unfold maxLen at hm
  obtain ⟨b', off', hy, hcl⟩ := R.cells.int (k := k) (by rw [R.len]; exact hk)
  simp only [Option.some.injEq, Addr.mk.injEq] at hy
  obtain ⟨rfl, rfl, _⟩ := hy
  rw [hz] at hcl
  have hblt := cell_lt hcl
  have hn1 : ¬ b = w.heap.size + 1 := by omega
  have hn2 : ¬ b = w.heap.size := by omega
  have hblt2 : b < w.heap.size + 1 := by omega
  have R0 := R.below (two_ok w parB (parK k))
  have H1 := Lib.hid (spaceAB (W := ((w.alloc parB).alloc (parK k))) (r := z) hs)
  have H2 := Lib.hid (nameStartB (W := ((w.alloc parB).alloc (parK k))) (r := z) ht)
  subst h61
  have hb : Below ((w.alloc parB).alloc (parK k)).heap.size ((w.alloc parB).alloc (parK k)) ((w.alloc parB).alloc (parK k)) := Below.refl _ _
  clear R R0 hz hs ht
  go_enter Try.func101, Try.ntmps101
  go_wp2_with (first
    | (go_at_call 105; (with_reducible refine (H1.out _ hb).mono ?_); rintro e w1 ⟨rfl, hb1⟩; replace hb := hb1; clear hb1; obtain ⟨c1, c2⟩ := bcell hb; have hz1 : w.heap.size + 1 < w1.heap.size := (by have := hb.size; simp at this; omega); have hz0 : w.heap.size < w1.heap.size := (by omega))
    | (go_at_call 107; (with_reducible refine (H2.out _ hb).mono ?_); rintro e w1 ⟨rfl, hb1⟩; replace hb := hb1; clear hb1; obtain ⟨c1, c2⟩ := bcell hb; have hz1 : w.heap.size + 1 < w1.heap.size := (by have := hb.size; simp at this; omega); have hz0 : w.heap.size < w1.heap.size := (by omega)))

  have e0 : w1.cell? ⟨w.heap.size, 0, none⟩ = some (.int .i64 0) := by simp [go_sem, c1]
  have e1 : w1.cell? ⟨w.heap.size, 1, none⟩ = some (.int .i64 0) := by simp [go_sem, c1]
  have e2 : w1.cell? ⟨w.heap.size, 2, none⟩ = some (.int .i64 0) := by simp [go_sem, c1]
  have x0 : w1.cell? ⟨w.heap.size + 1, 0, none⟩ = some (.int .i64 7) := by simp [go_sem, c1]
  have x1 : w1.cell? ⟨w.heap.size + 1, 1, none⟩ = some (.int .i64 k) := by simp [go_sem, c1]
  have x2 : w1.cell? ⟨w.heap.size + 1, 2, none⟩ = some (.int .i64 ((k : Int) + 1)) := by simp [go_sem, c1]
  have HB2 := (two_ok w parB (parK k)).trans (hb.mono (by simp; omega))
  refine bodyPost_ret (v := parI 4 k ((k : Int) + 1)) ?_ rfl ⟨rfl, ?_⟩
  · simp [results, Try.results101, go_sem, e0, e1, e2, x0, x1, x2, parI]
  · exact ((((HB2.setCell (by simp) _).setCell (by simp) _).setCell (by simp) _).setCell (by simp) _)

set_option maxHeartbeats 2000000 in
theorem part_qd1 {b off n cap : Nat} {l : List Int} {w : World} (R : RRow w b off n cap l) (k : Nat) (hk : k < n) (z : Int) (hz : l.getD k 0 = z) (hs : spaceB z = false) (ht : startB z = false) (h3 : z = 34) (q : Nat) (hq : fnd [34] (l.drop (k + 1)) = some q) (hqn : k + 2 + q ≤ n) :
    Says 101 #[.slice (some ⟨b, off, none⟩) n cap, .int .i64 k] (parI 5 k ((k : Int) + 1 + q + 1)) w w := by
  have hm := R.max
  have hc := R.le
  unfold maxLen at hm
  obtain ⟨b', off', hy, hcl⟩ := R.cells.int (k := k) (by rw [R.len]; exact hk)
  simp only [Option.some.injEq, Addr.mk.injEq] at hy
  obtain ⟨rfl, rfl, _⟩ := hy
  rw [hz] at hcl
  have hblt := cell_lt hcl
  have hn1 : ¬ b = w.heap.size + 1 := by omega
  have hn2 : ¬ b = w.heap.size := by omega
  have hblt2 : b < w.heap.size + 1 := by omega
  have R0 := R.below (two_ok w parB (parK k))
  have H1 := Lib.hid (spaceAB (W := ((w.alloc parB).alloc (parK k))) (r := z) hs)
  have H2 := Lib.hid (nameStartB (W := ((w.alloc parB).alloc (parK k))) (r := z) ht)
  have H3 := Lib.hid (findB R0 sDqS (k + 1) (by omega) (p := ((k : Int) + 1 + q, true)) (by show fndI _ (fnd [34] _) = _; rw [hq]; rfl))
  simp only [Int.natCast_add, Int.cast_ofNat_Int] at H1 H2 H3
  subst h3
  have eu : Utf8.encode 34 = (⟨#[34]⟩ : ByteArray) := by decide +kernel
  have hb : Below ((w.alloc parB).alloc (parK k)).heap.size ((w.alloc parB).alloc (parK k)) ((w.alloc parB).alloc (parK k)) := Below.refl _ _
  clear R R0 hz hs ht hq
  go_enter Try.func101, Try.ntmps101
  go_wp2_with (first
    | (go_at_call 105; (with_reducible refine (H1.out _ hb).mono ?_); rintro e w1 ⟨rfl, hb1⟩; replace hb := hb1; clear hb1; obtain ⟨c1, c2⟩ := bcell hb; have hz1 : w.heap.size + 1 < w1.heap.size := (by have := hb.size; simp at this; omega); have hz0 : w.heap.size < w1.heap.size := (by omega))
    | (go_at_call 107; (with_reducible refine (H2.out _ hb).mono ?_); rintro e w1 ⟨rfl, hb1⟩; replace hb := hb1; clear hb1; obtain ⟨c1, c2⟩ := bcell hb; have hz1 : w.heap.size + 1 < w1.heap.size := (by have := hb.size; simp at this; omega); have hz0 : w.heap.size < w1.heap.size := (by omega))
    | (go_at_call 109; (with_reducible refine (H3.out _ hb).mono ?_); rintro e w1 ⟨rfl, hb1⟩; replace hb := hb1; clear hb1; obtain ⟨c1, c2⟩ := bcell hb; have hz1 : w.heap.size + 1 < w1.heap.size := (by have := hb.size; simp at this; omega); have hz0 : w.heap.size < w1.heap.size := (by omega)))

  have e0 : w1.cell? ⟨w.heap.size, 0, none⟩ = some (.int .i64 0) := by simp [go_sem, c1]
  have e1 : w1.cell? ⟨w.heap.size, 1, none⟩ = some (.int .i64 0) := by simp [go_sem, c1]
  have e2 : w1.cell? ⟨w.heap.size, 2, none⟩ = some (.int .i64 0) := by simp [go_sem, c1]
  have x0 : w1.cell? ⟨w.heap.size + 1, 0, none⟩ = some (.int .i64 7) := by simp [go_sem, c1]
  have x1 : w1.cell? ⟨w.heap.size + 1, 1, none⟩ = some (.int .i64 k) := by simp [go_sem, c1]
  have x2 : w1.cell? ⟨w.heap.size + 1, 2, none⟩ = some (.int .i64 ((k : Int) + 1)) := by simp [go_sem, c1]
  have HB2 := (two_ok w parB (parK k)).trans (hb.mono (by simp; omega))
  refine bodyPost_ret (v := parI 5 k ((k : Int) + 1 + q + 1)) ?_ rfl ⟨rfl, ?_⟩
  · simp [results, Try.results101, go_sem, e0, e1, e2, x0, x1, x2, parI]
  · exact (((((HB2.setCell (by simp) _).setCell (by simp) _).setCell (by simp) _).setCell (by simp) _).setCell (by simp) _)

set_option maxHeartbeats 2000000 in
theorem part_qd0 {b off n cap : Nat} {l : List Int} {w : World} (R : RRow w b off n cap l) (k : Nat) (hk : k < n) (z : Int) (hz : l.getD k 0 = z) (hs : spaceB z = false) (ht : startB z = false) (h3 : z = 34) (hq : fnd [34] (l.drop (k + 1)) = none) :
    Says 101 #[.slice (some ⟨b, off, none⟩) n cap, .int .i64 k] (parI 7 k ((k : Int) + 1)) w w := by
  have hm := R.max
  have hc := R.le
  unfold maxLen at hm
  obtain ⟨b', off', hy, hcl⟩ := R.cells.int (k := k) (by rw [R.len]; exact hk)
  simp only [Option.some.injEq, Addr.mk.injEq] at hy
  obtain ⟨rfl, rfl, _⟩ := hy
  rw [hz] at hcl
  have hblt := cell_lt hcl
  have hn1 : ¬ b = w.heap.size + 1 := by omega
  have hn2 : ¬ b = w.heap.size := by omega
  have hblt2 : b < w.heap.size + 1 := by omega
  have R0 := R.below (two_ok w parB (parK k))
  have H1 := Lib.hid (spaceAB (W := ((w.alloc parB).alloc (parK k))) (r := z) hs)
  have H2 := Lib.hid (nameStartB (W := ((w.alloc parB).alloc (parK k))) (r := z) ht)
  have H3 := Lib.hid (findB R0 sDqS (k + 1) (by omega) (p := (0, false)) (by show fndI _ (fnd [34] _) = _; rw [hq]; rfl))
  simp only [Int.natCast_add, Int.cast_ofNat_Int] at H1 H2 H3
  subst h3
  have eu : Utf8.encode 34 = (⟨#[34]⟩ : ByteArray) := by decide +kernel
  have hb : Below ((w.alloc parB).alloc (parK k)).heap.size ((w.alloc parB).alloc (parK k)) ((w.alloc parB).alloc (parK k)) := Below.refl _ _
  clear R R0 hz hs ht hq
  go_enter Try.func101, Try.ntmps101
  go_wp2_with (first
    | (go_at_call 105; (with_reducible refine (H1.out _ hb).mono ?_); rintro e w1 ⟨rfl, hb1⟩; replace hb := hb1; clear hb1; obtain ⟨c1, c2⟩ := bcell hb; have hz1 : w.heap.size + 1 < w1.heap.size := (by have := hb.size; simp at this; omega); have hz0 : w.heap.size < w1.heap.size := (by omega))
    | (go_at_call 107; (with_reducible refine (H2.out _ hb).mono ?_); rintro e w1 ⟨rfl, hb1⟩; replace hb := hb1; clear hb1; obtain ⟨c1, c2⟩ := bcell hb; have hz1 : w.heap.size + 1 < w1.heap.size := (by have := hb.size; simp at this; omega); have hz0 : w.heap.size < w1.heap.size := (by omega))
    | (go_at_call 109; (with_reducible refine (H3.out _ hb).mono ?_); rintro e w1 ⟨rfl, hb1⟩; replace hb := hb1; clear hb1; obtain ⟨c1, c2⟩ := bcell hb; have hz1 : w.heap.size + 1 < w1.heap.size := (by have := hb.size; simp at this; omega); have hz0 : w.heap.size < w1.heap.size := (by omega)))

  have e0 : w1.cell? ⟨w.heap.size, 0, none⟩ = some (.int .i64 0) := by simp [go_sem, c1]
  have e1 : w1.cell? ⟨w.heap.size, 1, none⟩ = some (.int .i64 0) := by simp [go_sem, c1]
  have e2 : w1.cell? ⟨w.heap.size, 2, none⟩ = some (.int .i64 0) := by simp [go_sem, c1]
  have x0 : w1.cell? ⟨w.heap.size + 1, 0, none⟩ = some (.int .i64 7) := by simp [go_sem, c1]
  have x1 : w1.cell? ⟨w.heap.size + 1, 1, none⟩ = some (.int .i64 k) := by simp [go_sem, c1]
  have x2 : w1.cell? ⟨w.heap.size + 1, 2, none⟩ = some (.int .i64 ((k : Int) + 1)) := by simp [go_sem, c1]
  have HB2 := (two_ok w parB (parK k)).trans (hb.mono (by simp; omega))
  refine bodyPost_ret (v := parI 7 k ((k : Int) + 1)) ?_ rfl ⟨rfl, ?_⟩
  · simp [results, Try.results101, go_sem, e0, e1, e2, x0, x1, x2, parI]
  · exact (((HB2.setCell (by simp) _).setCell (by simp) _).setCell (by simp) _)

set_option maxHeartbeats 2000000 in
theorem part_qs1 {b off n cap : Nat} {l : List Int} {w : World} (R : RRow w b off n cap l) (k : Nat) (hk : k < n) (z : Int) (hz : l.getD k 0 = z) (hs : spaceB z = false) (ht : startB z = false) (h3 : z = 39) (q : Nat) (hq : fnd [39] (l.drop (k + 1)) = some q) (hqn : k + 2 + q ≤ n) :
    Says 101 #[.slice (some ⟨b, off, none⟩) n cap, .int .i64 k] (parI 5 k ((k : Int) + 1 + q + 1)) w w := by
  have hm := R.max
  have hc := R.le
  unfold maxLen at hm
  obtain ⟨b', off', hy, hcl⟩ := R.cells.int (k := k) (by rw [R.len]; exact hk)
  simp only [Option.some.injEq, Addr.mk.injEq] at hy
  obtain ⟨rfl, rfl, _⟩ := hy
  rw [hz] at hcl
  have hblt := cell_lt hcl
  have hn1 : ¬ b = w.heap.size + 1 := by omega
  have hn2 : ¬ b = w.heap.size := by omega
  have hblt2 : b < w.heap.size + 1 := by omega
  have R0 := R.below (two_ok w parB (parK k))
  have H1 := Lib.hid (spaceAB (W := ((w.alloc parB).alloc (parK k))) (r := z) hs)
  have H2 := Lib.hid (nameStartB (W := ((w.alloc parB).alloc (parK k))) (r := z) ht)
  have H3 := Lib.hid (findB R0 sSqS (k + 1) (by omega) (p := ((k : Int) + 1 + q, true)) (by show fndI _ (fnd [39] _) = _; rw [hq]; rfl))
  simp only [Int.natCast_add, Int.cast_ofNat_Int] at H1 H2 H3
  subst h3
  have eu : Utf8.encode 39 = (⟨#[39]⟩ : ByteArray) := by decide +kernel
  have hb : Below ((w.alloc parB).alloc (parK k)).heap.size ((w.alloc parB).alloc (parK k)) ((w.alloc parB).alloc (parK k)) := Below.refl _ _
  clear R R0 hz hs ht hq
  go_enter Try.func101, Try.ntmps101
  go_wp2_with (first
    | (go_at_call 105; (with_reducible refine (H1.out _ hb).mono ?_); rintro e w1 ⟨rfl, hb1⟩; replace hb := hb1; clear hb1; obtain ⟨c1, c2⟩ := bcell hb; have hz1 : w.heap.size + 1 < w1.heap.size := (by have := hb.size; simp at this; omega); have hz0 : w.heap.size < w1.heap.size := (by omega))
    | (go_at_call 107; (with_reducible refine (H2.out _ hb).mono ?_); rintro e w1 ⟨rfl, hb1⟩; replace hb := hb1; clear hb1; obtain ⟨c1, c2⟩ := bcell hb; have hz1 : w.heap.size + 1 < w1.heap.size := (by have := hb.size; simp at this; omega); have hz0 : w.heap.size < w1.heap.size := (by omega))
    | (go_at_call 109; (with_reducible refine (H3.out _ hb).mono ?_); rintro e w1 ⟨rfl, hb1⟩; replace hb := hb1; clear hb1; obtain ⟨c1, c2⟩ := bcell hb; have hz1 : w.heap.size + 1 < w1.heap.size := (by have := hb.size; simp at this; omega); have hz0 : w.heap.size < w1.heap.size := (by omega)))

  have e0 : w1.cell? ⟨w.heap.size, 0, none⟩ = some (.int .i64 0) := by simp [go_sem, c1]
  have e1 : w1.cell? ⟨w.heap.size, 1, none⟩ = some (.int .i64 0) := by simp [go_sem, c1]
  have e2 : w1.cell? ⟨w.heap.size, 2, none⟩ = some (.int .i64 0) := by simp [go_sem, c1]
  have x0 : w1.cell? ⟨w.heap.size + 1, 0, none⟩ = some (.int .i64 7) := by simp [go_sem, c1]
  have x1 : w1.cell? ⟨w.heap.size + 1, 1, none⟩ = some (.int .i64 k) := by simp [go_sem, c1]
  have x2 : w1.cell? ⟨w.heap.size + 1, 2, none⟩ = some (.int .i64 ((k : Int) + 1)) := by simp [go_sem, c1]
  have HB2 := (two_ok w parB (parK k)).trans (hb.mono (by simp; omega))
  refine bodyPost_ret (v := parI 5 k ((k : Int) + 1 + q + 1)) ?_ rfl ⟨rfl, ?_⟩
  · simp [results, Try.results101, go_sem, e0, e1, e2, x0, x1, x2, parI]
  · exact (((((HB2.setCell (by simp) _).setCell (by simp) _).setCell (by simp) _).setCell (by simp) _).setCell (by simp) _)

set_option maxHeartbeats 2000000 in
theorem part_qs0 {b off n cap : Nat} {l : List Int} {w : World} (R : RRow w b off n cap l) (k : Nat) (hk : k < n) (z : Int) (hz : l.getD k 0 = z) (hs : spaceB z = false) (ht : startB z = false) (h3 : z = 39) (hq : fnd [39] (l.drop (k + 1)) = none) :
    Says 101 #[.slice (some ⟨b, off, none⟩) n cap, .int .i64 k] (parI 7 k ((k : Int) + 1)) w w := by
  have hm := R.max
  have hc := R.le
  unfold maxLen at hm
  obtain ⟨b', off', hy, hcl⟩ := R.cells.int (k := k) (by rw [R.len]; exact hk)
  simp only [Option.some.injEq, Addr.mk.injEq] at hy
  obtain ⟨rfl, rfl, _⟩ := hy
  rw [hz] at hcl
  have hblt := cell_lt hcl
  have hn1 : ¬ b = w.heap.size + 1 := by omega
  have hn2 : ¬ b = w.heap.size := by omega
  have hblt2 : b < w.heap.size + 1 := by omega
  have R0 := R.below (two_ok w parB (parK k))
  have H1 := Lib.hid (spaceAB (W := ((w.alloc parB).alloc (parK k))) (r := z) hs)
  have H2 := Lib.hid (nameStartB (W := ((w.alloc parB).alloc (parK k))) (r := z) ht)
  have H3 := Lib.hid (findB R0 sSqS (k + 1) (by omega) (p := (0, false)) (by show fndI _ (fnd [39] _) = _; rw [hq]; rfl))
  simp only [Int.natCast_add, Int.cast_ofNat_Int] at H1 H2 H3
  subst h3
  have eu : Utf8.encode 39 = (⟨#[39]⟩ : ByteArray) := by decide +kernel
  have hb : Below ((w.alloc parB).alloc (parK k)).heap.size ((w.alloc parB).alloc (parK k)) ((w.alloc parB).alloc (parK k)) := Below.refl _ _
  clear R R0 hz hs ht hq
  go_enter Try.func101, Try.ntmps101
  go_wp2_with (first
    | (go_at_call 105; (with_reducible refine (H1.out _ hb).mono ?_); rintro e w1 ⟨rfl, hb1⟩; replace hb := hb1; clear hb1; obtain ⟨c1, c2⟩ := bcell hb; have hz1 : w.heap.size + 1 < w1.heap.size := (by have := hb.size; simp at this; omega); have hz0 : w.heap.size < w1.heap.size := (by omega))
    | (go_at_call 107; (with_reducible refine (H2.out _ hb).mono ?_); rintro e w1 ⟨rfl, hb1⟩; replace hb := hb1; clear hb1; obtain ⟨c1, c2⟩ := bcell hb; have hz1 : w.heap.size + 1 < w1.heap.size := (by have := hb.size; simp at this; omega); have hz0 : w.heap.size < w1.heap.size := (by omega))
    | (go_at_call 109; (with_reducible refine (H3.out _ hb).mono ?_); rintro e w1 ⟨rfl, hb1⟩; replace hb := hb1; clear hb1; obtain ⟨c1, c2⟩ := bcell hb; have hz1 : w.heap.size + 1 < w1.heap.size := (by have := hb.size; simp at this; omega); have hz0 : w.heap.size < w1.heap.size := (by omega)))

  have e0 : w1.cell? ⟨w.heap.size, 0, none⟩ = some (.int .i64 0) := by simp [go_sem, c1]
  have e1 : w1.cell? ⟨w.heap.size, 1, none⟩ = some (.int .i64 0) := by simp [go_sem, c1]
  have e2 : w1.cell? ⟨w.heap.size, 2, none⟩ = some (.int .i64 0) := by simp [go_sem, c1]
  have x0 : w1.cell? ⟨w.heap.size + 1, 0, none⟩ = some (.int .i64 7) := by simp [go_sem, c1]
  have x1 : w1.cell? ⟨w.heap.size + 1, 1, none⟩ = some (.int .i64 k) := by simp [go_sem, c1]
  have x2 : w1.cell? ⟨w.heap.size + 1, 2, none⟩ = some (.int .i64 ((k : Int) + 1)) := by simp [go_sem, c1]
  have HB2 := (two_ok w parB (parK k)).trans (hb.mono (by simp; omega))
  refine bodyPost_ret (v := parI 7 k ((k : Int) + 1)) ?_ rfl ⟨rfl, ?_⟩
  · simp [results, Try.results101, go_sem, e0, e1, e2, x0, x1, x2, parI]
  · exact (((HB2.setCell (by simp) _).setCell (by simp) _).setCell (by simp) _)

set_option maxHeartbeats 2000000 in
theorem part_c1 {b off n cap : Nat} {l : List Int} {w : World} (R : RRow w b off n cap l) (k : Nat) (hk : k < n) (z : Int) (hz : l.getD k 0 = z) (hs : spaceB z = false) (ht : startB z = false) (h61 : ¬ z = 61) (h34 : ¬ z = 34) (h39 : ¬ z = 39) (hg : (decide ((l.drop k).length = (⟨#[62]⟩ : ByteArray).size) && sw (sg ⟨#[62]⟩) (l.drop k)) = true) :
    Says 101 #[.slice (some ⟨b, off, none⟩) n cap, .int .i64 k] (parI 6 k (n)) w w := by
  have hm := R.max
  have hc := R.le
  unfold maxLen at hm
  obtain ⟨b', off', hy, hcl⟩ := R.cells.int (k := k) (by rw [R.len]; exact hk)
  simp only [Option.some.injEq, Addr.mk.injEq] at hy
  obtain ⟨rfl, rfl, _⟩ := hy
  rw [hz] at hcl
  have hblt := cell_lt hcl
  have hn1 : ¬ b = w.heap.size + 1 := by omega
  have hn2 : ¬ b = w.heap.size := by omega
  have hblt2 : b < w.heap.size + 1 := by omega
  have R0 := R.below (two_ok w parB (parK k))
  have H1 := Lib.hid (spaceAB (W := ((w.alloc parB).alloc (parK k))) (r := z) hs)
  have H2 := Lib.hid (nameStartB (W := ((w.alloc parB).alloc (parK k))) (r := z) ht)
  have H3 := Lib.hid (endsB R0 gtS k (by omega) hg)
  have e61 : (z == 61) = false := by simpa using h61
  have e34 : (z == 34) = false := by simpa using h34
  have e39 : (z == 39) = false := by simpa using h39
  have hb : Below ((w.alloc parB).alloc (parK k)).heap.size ((w.alloc parB).alloc (parK k)) ((w.alloc parB).alloc (parK k)) := Below.refl _ _
  clear R R0 hz hs ht hg
  go_enter Try.func101, Try.ntmps101
  go_wp2_with (first
    | (go_at_call 105; (with_reducible refine (H1.out _ hb).mono ?_); rintro e w1 ⟨rfl, hb1⟩; replace hb := hb1; clear hb1; obtain ⟨c1, c2⟩ := bcell hb; have hz1 : w.heap.size + 1 < w1.heap.size := (by have := hb.size; simp at this; omega); have hz0 : w.heap.size < w1.heap.size := (by omega))
    | (go_at_call 107; (with_reducible refine (H2.out _ hb).mono ?_); rintro e w1 ⟨rfl, hb1⟩; replace hb := hb1; clear hb1; obtain ⟨c1, c2⟩ := bcell hb; have hz1 : w.heap.size + 1 < w1.heap.size := (by have := hb.size; simp at this; omega); have hz0 : w.heap.size < w1.heap.size := (by omega))
    | (go_at_call 119; (with_reducible refine (H3.out _ hb).mono ?_); rintro e w1 ⟨rfl, hb1⟩; replace hb := hb1; clear hb1; obtain ⟨c1, c2⟩ := bcell hb; have hz1 : w.heap.size + 1 < w1.heap.size := (by have := hb.size; simp at this; omega); have hz0 : w.heap.size < w1.heap.size := (by omega)))

  have e0 : w1.cell? ⟨w.heap.size, 0, none⟩ = some (.int .i64 0) := by simp [go_sem, c1]
  have e1 : w1.cell? ⟨w.heap.size, 1, none⟩ = some (.int .i64 0) := by simp [go_sem, c1]
  have e2 : w1.cell? ⟨w.heap.size, 2, none⟩ = some (.int .i64 0) := by simp [go_sem, c1]
  have x0 : w1.cell? ⟨w.heap.size + 1, 0, none⟩ = some (.int .i64 7) := by simp [go_sem, c1]
  have x1 : w1.cell? ⟨w.heap.size + 1, 1, none⟩ = some (.int .i64 k) := by simp [go_sem, c1]
  have x2 : w1.cell? ⟨w.heap.size + 1, 2, none⟩ = some (.int .i64 ((k : Int) + 1)) := by simp [go_sem, c1]
  have HB2 := (two_ok w parB (parK k)).trans (hb.mono (by simp; omega))
  refine bodyPost_ret (v := parI 6 k (n)) ?_ rfl ⟨rfl, ?_⟩
  · simp [results, Try.results101, go_sem, e0, e1, e2, x0, x1, x2, parI]
  · exact (((((HB2.setCell (by simp) _).setCell (by simp) _).setCell (by simp) _).setCell (by simp) _).setCell (by simp) _)

set_option maxHeartbeats 2000000 in
theorem part_c2 {b off n cap : Nat} {l : List Int} {w : World} (R : RRow w b off n cap l) (k : Nat) (hk : k < n) (z : Int) (hz : l.getD k 0 = z) (hs : spaceB z = false) (ht : startB z = false) (h61 : ¬ z = 61) (h34 : ¬ z = 34) (h39 : ¬ z = 39) (hg : (decide ((l.drop k).length = (⟨#[62]⟩ : ByteArray).size) && sw (sg ⟨#[62]⟩) (l.drop k)) = false) (he : (decide ((l.drop k).length = (⟨#[47, 62]⟩ : ByteArray).size) && sw (sg ⟨#[47, 62]⟩) (l.drop k)) = true) :
    Says 101 #[.slice (some ⟨b, off, none⟩) n cap, .int .i64 k] (parI 6 k (n)) w w := by
  have hm := R.max
  have hc := R.le
  unfold maxLen at hm
  obtain ⟨b', off', hy, hcl⟩ := R.cells.int (k := k) (by rw [R.len]; exact hk)
  simp only [Option.some.injEq, Addr.mk.injEq] at hy
  obtain ⟨rfl, rfl, _⟩ := hy
  rw [hz] at hcl
  have hblt := cell_lt hcl
  have hn1 : ¬ b = w.heap.size + 1 := by omega
  have hn2 : ¬ b = w.heap.size := by omega
  have hblt2 : b < w.heap.size + 1 := by omega
  have R0 := R.below (two_ok w parB (parK k))
  have H1 := Lib.hid (spaceAB (W := ((w.alloc parB).alloc (parK k))) (r := z) hs)
  have H2 := Lib.hid (nameStartB (W := ((w.alloc parB).alloc (parK k))) (r := z) ht)
  have H3 := Lib.hid (endsB R0 gtS k (by omega) hg)
  have H4 := Lib.hid (endsB R0 sEcS k (by omega) he)
  have e61 : (z == 61) = false := by simpa using h61
  have e34 : (z == 34) = false := by simpa using h34
  have e39 : (z == 39) = false := by simpa using h39
  have hb : Below ((w.alloc parB).alloc (parK k)).heap.size ((w.alloc parB).alloc (parK k)) ((w.alloc parB).alloc (parK k)) := Below.refl _ _
  clear R R0 hz hs ht hg he
  go_enter Try.func101, Try.ntmps101
  go_wp2_with (first
    | (go_at_call 105; (with_reducible refine (H1.out _ hb).mono ?_); rintro e w1 ⟨rfl, hb1⟩; replace hb := hb1; clear hb1; obtain ⟨c1, c2⟩ := bcell hb; have hz1 : w.heap.size + 1 < w1.heap.size := (by have := hb.size; simp at this; omega); have hz0 : w.heap.size < w1.heap.size := (by omega))
    | (go_at_call 107; (with_reducible refine (H2.out _ hb).mono ?_); rintro e w1 ⟨rfl, hb1⟩; replace hb := hb1; clear hb1; obtain ⟨c1, c2⟩ := bcell hb; have hz1 : w.heap.size + 1 < w1.heap.size := (by have := hb.size; simp at this; omega); have hz0 : w.heap.size < w1.heap.size := (by omega))
    | (go_at_call 119; (with_reducible refine (H3.out _ hb).mono ?_); rintro e w1 ⟨rfl, hb1⟩; replace hb := hb1; clear hb1; obtain ⟨c1, c2⟩ := bcell hb; have hz1 : w.heap.size + 1 < w1.heap.size := (by have := hb.size; simp at this; omega); have hz0 : w.heap.size < w1.heap.size := (by omega))
    | (go_at_call 119; (with_reducible refine (H4.out _ hb).mono ?_); rintro e w1 ⟨rfl, hb1⟩; replace hb := hb1; clear hb1; obtain ⟨c1, c2⟩ := bcell hb; have hz1 : w.heap.size + 1 < w1.heap.size := (by have := hb.size; simp at this; omega); have hz0 : w.heap.size < w1.heap.size := (by omega)))

  have e0 : w1.cell? ⟨w.heap.size, 0, none⟩ = some (.int .i64 0) := by simp [go_sem, c1]
  have e1 : w1.cell? ⟨w.heap.size, 1, none⟩ = some (.int .i64 0) := by simp [go_sem, c1]
  have e2 : w1.cell? ⟨w.heap.size, 2, none⟩ = some (.int .i64 0) := by simp [go_sem, c1]
  have x0 : w1.cell? ⟨w.heap.size + 1, 0, none⟩ = some (.int .i64 7) := by simp [go_sem, c1]
  have x1 : w1.cell? ⟨w.heap.size + 1, 1, none⟩ = some (.int .i64 k) := by simp [go_sem, c1]
  have x2 : w1.cell? ⟨w.heap.size + 1, 2, none⟩ = some (.int .i64 ((k : Int) + 1)) := by simp [go_sem, c1]
  have HB2 := (two_ok w parB (parK k)).trans (hb.mono (by simp; omega))
  refine bodyPost_ret (v := parI 6 k (n)) ?_ rfl ⟨rfl, ?_⟩
  · simp [results, Try.results101, go_sem, e0, e1, e2, x0, x1, x2, parI]
  · exact (((((HB2.setCell (by simp) _).setCell (by simp) _).setCell (by simp) _).setCell (by simp) _).setCell (by simp) _)

set_option maxHeartbeats 2000000 in
theorem part_j {b off n cap : Nat} {l : List Int} {w : World} (R : RRow w b off n cap l) (k : Nat) (hk : k < n) (z : Int) (hz : l.getD k 0 = z) (hs : spaceB z = false) (ht : startB z = false) (h61 : ¬ z = 61) (h34 : ¬ z = 34) (h39 : ¬ z = 39) (hg : (decide ((l.drop k).length = (⟨#[62]⟩ : ByteArray).size) && sw (sg ⟨#[62]⟩) (l.drop k)) = false) (he : (decide ((l.drop k).length = (⟨#[47, 62]⟩ : ByteArray).size) && sw (sg ⟨#[47, 62]⟩) (l.drop k)) = false) :
    Says 101 #[.slice (some ⟨b, off, none⟩) n cap, .int .i64 k] (parI 7 k ((k : Int) + 1)) w w := by
  have hm := R.max
  have hc := R.le
  unfold maxLen at hm
  obtain ⟨b', off', hy, hcl⟩ := R.cells.int (k := k) (by rw [R.len]; exact hk)
  simp only [Option.some.injEq, Addr.mk.injEq] at hy
  obtain ⟨rfl, rfl, _⟩ := hy
  rw [hz] at hcl
  have hblt := cell_lt hcl
  have hn1 : ¬ b = w.heap.size + 1 := by omega
  have hn2 : ¬ b = w.heap.size := by omega
  have hblt2 : b < w.heap.size + 1 := by omega
  have R0 := R.below (two_ok w parB (parK k))
  have H1 := Lib.hid (spaceAB (W := ((w.alloc parB).alloc (parK k))) (r := z) hs)
  have H2 := Lib.hid (nameStartB (W := ((w.alloc parB).alloc (parK k))) (r := z) ht)
  have H3 := Lib.hid (endsB R0 gtS k (by omega) hg)
  have H4 := Lib.hid (endsB R0 sEcS k (by omega) he)
  have e61 : (z == 61) = false := by simpa using h61
  have e34 : (z == 34) = false := by simpa using h34
  have e39 : (z == 39) = false := by simpa using h39
  have hb : Below ((w.alloc parB).alloc (parK k)).heap.size ((w.alloc parB).alloc (parK k)) ((w.alloc parB).alloc (parK k)) := Below.refl _ _
  clear R R0 hz hs ht hg he
  go_enter Try.func101, Try.ntmps101
  go_wp2_with (first
    | (go_at_call 105; (with_reducible refine (H1.out _ hb).mono ?_); rintro e w1 ⟨rfl, hb1⟩; replace hb := hb1; clear hb1; obtain ⟨c1, c2⟩ := bcell hb; have hz1 : w.heap.size + 1 < w1.heap.size := (by have := hb.size; simp at this; omega); have hz0 : w.heap.size < w1.heap.size := (by omega))
    | (go_at_call 107; (with_reducible refine (H2.out _ hb).mono ?_); rintro e w1 ⟨rfl, hb1⟩; replace hb := hb1; clear hb1; obtain ⟨c1, c2⟩ := bcell hb; have hz1 : w.heap.size + 1 < w1.heap.size := (by have := hb.size; simp at this; omega); have hz0 : w.heap.size < w1.heap.size := (by omega))
    | (go_at_call 119; (with_reducible refine (H3.out _ hb).mono ?_); rintro e w1 ⟨rfl, hb1⟩; replace hb := hb1; clear hb1; obtain ⟨c1, c2⟩ := bcell hb; have hz1 : w.heap.size + 1 < w1.heap.size := (by have := hb.size; simp at this; omega); have hz0 : w.heap.size < w1.heap.size := (by omega))
    | (go_at_call 119; (with_reducible refine (H4.out _ hb).mono ?_); rintro e w1 ⟨rfl, hb1⟩; replace hb := hb1; clear hb1; obtain ⟨c1, c2⟩ := bcell hb; have hz1 : w.heap.size + 1 < w1.heap.size := (by have := hb.size; simp at this; omega); have hz0 : w.heap.size < w1.heap.size := (by omega)))

  have e0 : w1.cell? ⟨w.heap.size, 0, none⟩ = some (.int .i64 0) := by simp [go_sem, c1]
  have e1 : w1.cell? ⟨w.heap.size, 1, none⟩ = some (.int .i64 0) := by simp [go_sem, c1]
  have e2 : w1.cell? ⟨w.heap.size, 2, none⟩ = some (.int .i64 0) := by simp [go_sem, c1]
  have x0 : w1.cell? ⟨w.heap.size + 1, 0, none⟩ = some (.int .i64 7) := by simp [go_sem, c1]
  have x1 : w1.cell? ⟨w.heap.size + 1, 1, none⟩ = some (.int .i64 k) := by simp [go_sem, c1]
  have x2 : w1.cell? ⟨w.heap.size + 1, 2, none⟩ = some (.int .i64 ((k : Int) + 1)) := by simp [go_sem, c1]
  have HB2 := (two_ok w parB (parK k)).trans (hb.mono (by simp; omega))
  refine bodyPost_ret (v := parI 7 k ((k : Int) + 1)) ?_ rfl ⟨rfl, ?_⟩
  · simp [results, Try.results101, go_sem, e0, e1, e2, x0, x1, x2, parI]
  · exact (((HB2.setCell (by simp) _).setCell (by simp) _).setCell (by simp) _)

end Go.Proofs.Ytblebkpnjeghoaa
