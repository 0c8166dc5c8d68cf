/-
  Contracts of layer 7: markup of a start tag.
-/
import Derived.Test.YtbljgoieieoamaaLexF
namespace Go.Proofs.Ytbljgoieieoamaa
open Go.RowKit
set_option linter.unusedVariables false

set_option maxHeartbeats 2000000 in
theorem markup_s0 {b off n cap : Nat} {l : List Int} {w : World} (R : RRow w b off n cap l) (k : Nat) (hk : k < n) (hC : sw sCo (l.drop k) = false) (hD : sw sDo (l.drop k) = false) (hP : sw sPo (l.drop k) = false) (hT : sw sTo (l.drop k) = false) (hE : sw sEo (l.drop k) = false) (hk1 : k + 1 < n) (z : Int) (hz : l.getD (k + 1) 0 = z) (hst : startB z = true) (q : Nat) (hq : bareP [60, 62] 0 (l.drop (k + 1)) = q) (hqn : k + 1 + q ≤ n) (hp : edgeP (l.drop (k + 1 + q)) = (0, false)) :
    Says 69 #[.slice (some ⟨b, off, none⟩) n cap, .int .i64 k] (tokV k (8, 1 + q + 0, false)) w w := by
  have hm := R.max
  have hc := R.le
  unfold maxLen at hm
  have R0 := R.below (two_ok w tokB (tokK k))
  have HSC := Lib.hid (startsB R0 sCoS k (by omega) hC)
  have HSD := Lib.hid (startsB R0 sDoS k (by omega) hD)
  have HSP := Lib.hid (startsB R0 sPoS k (by omega) hP)
  have HST := Lib.hid (startsB R0 sToS k (by omega) hT)
  have HSE := Lib.hid (startsB R0 sEoS k (by omega) hE)
  have hcl0 := R0.cells
  have HCL := Lib.hid (fun (w' : World) (hb : Below ((w.alloc tokB).alloc (tokK k)).heap.size ((w.alloc tokB).alloc (tokK k)) w') => show w'.cell? ⟨b, off + (k + 1), none⟩ = some (.int .i32 z) from by
    obtain ⟨b', off', hy, hc1⟩ := (hcl0.below hb).int (k := k + 1) (by rw [R.len]; exact hk1)
    simp only [Option.some.injEq, Addr.mk.injEq] at hy
    obtain ⟨rfl, rfl, _⟩ := hy
    rw [hz] at hc1
    exact hc1)
  clear hcl0 hz
  have HN := Lib.hid (nameStartB (W := ((w.alloc tokB).alloc (tokK k))) (r := z) (v := true) hst)
  clear hst
  have HBA := Lib.hid (bare2R R 60 62 (k + 1) (by omega) hq)
  have HE := Lib.hid (edgeR R (k + 1 + q) (by omega) hp)
  simp only [Int.natCast_add, Int.cast_ofNat_Int] at HBA HE
  have hb : Below ((w.alloc tokB).alloc (tokK k)).heap.size ((w.alloc tokB).alloc (tokK k)) ((w.alloc tokB).alloc (tokK k)) := Below.refl _ _
  clear R R0 hp hq hC hD hP hT hE
  go_enter Try.func69, Try.ntmps69
  go_wp2_with (first
    | (go_at_call 46; (with_reducible refine (HSC.out _ hb).mono ?_); rintro e w1 ⟨rfl, hb1⟩; replace hb := hb1; clear hb1; obtain ⟨c1, c2⟩ := bcell hb; have hz1 : w.heap.size + 1 < w1.heap.size := (by have := hb.size; simp at this; omega); have hz0 : w.heap.size < w1.heap.size := (by omega); have hcl := HCL.out _ hb)
    | (go_at_call 46; (with_reducible refine (HSD.out _ hb).mono ?_); rintro e w1 ⟨rfl, hb1⟩; replace hb := hb1; clear hb1; obtain ⟨c1, c2⟩ := bcell hb; have hz1 : w.heap.size + 1 < w1.heap.size := (by have := hb.size; simp at this; omega); have hz0 : w.heap.size < w1.heap.size := (by omega); have hcl := HCL.out _ hb)
    | (go_at_call 46; (with_reducible refine (HSP.out _ hb).mono ?_); rintro e w1 ⟨rfl, hb1⟩; replace hb := hb1; clear hb1; obtain ⟨c1, c2⟩ := bcell hb; have hz1 : w.heap.size + 1 < w1.heap.size := (by have := hb.size; simp at this; omega); have hz0 : w.heap.size < w1.heap.size := (by omega); have hcl := HCL.out _ hb)
    | (go_at_call 46; (with_reducible refine (HST.out _ hb).mono ?_); rintro e w1 ⟨rfl, hb1⟩; replace hb := hb1; clear hb1; obtain ⟨c1, c2⟩ := bcell hb; have hz1 : w.heap.size + 1 < w1.heap.size := (by have := hb.size; simp at this; omega); have hz0 : w.heap.size < w1.heap.size := (by omega); have hcl := HCL.out _ hb)
    | (go_at_call 46; (with_reducible refine (HSE.out _ hb).mono ?_); rintro e w1 ⟨rfl, hb1⟩; replace hb := hb1; clear hb1; obtain ⟨c1, c2⟩ := bcell hb; have hz1 : w.heap.size + 1 < w1.heap.size := (by have := hb.size; simp at this; omega); have hz0 : w.heap.size < w1.heap.size := (by omega); have hcl := HCL.out _ hb)
    | (go_at_call 92; (with_reducible refine (HN.out _ hb).mono ?_); rintro e w1 ⟨rfl, hb1⟩; replace hb := hb1; clear hb1; obtain ⟨c1, c2⟩ := bcell hb; have hz1 : w.heap.size + 1 < w1.heap.size := (by have := hb.size; simp at this; omega); have hz0 : w.heap.size < w1.heap.size := (by omega))
    | (go_at_call 93; (with_reducible refine (HBA.out _ (((two_ok w tokB (tokK k)).trans (hb.mono (by simp; omega))).setCell (by simp) _) _ (by simp)).mono ?_); rintro e w2 ⟨rfl, hb2⟩; obtain ⟨c3, c4⟩ := bcell hb2; have HB2 := (((two_ok w tokB (tokK k)).trans (hb.mono (by simp; omega))).setCell (by simp) _).trans (hb2.mono (by simp; omega)); have hz3 : w.heap.size + 1 < w2.heap.size := (by have := hb2.size; simp at this; omega); have hz2 : w.heap.size < w2.heap.size := (by omega))
    | (go_at_call 90; (with_reducible refine (HE.out _ HB2).mono ?_); rintro e w3 ⟨rfl, hb3⟩; obtain ⟨c5, c6⟩ := bcell hb3))
  replace HB2 := HB2.trans (hb3.mono (by omega))
  have e0 : w3.cell? ⟨w.heap.size, 0, none⟩ = some (.int .i64 0) := by simp [go_sem, c5, c3, c1, hz2, hz3, hz0, hz1]
  have e1 : w3.cell? ⟨w.heap.size, 1, none⟩ = some (.int .i64 0) := by simp [go_sem, c5, c3, c1, hz2, hz3, hz0, hz1]
  have e2 : w3.cell? ⟨w.heap.size, 2, none⟩ = some (.int .i64 0) := by simp [go_sem, c5, c3, c1, hz2, hz3, hz0, hz1]
  have e3 : w3.cell? ⟨w.heap.size, 3, none⟩ = some (.bool false) := by simp [go_sem, c5, c3, c1, hz2, hz3, hz0, hz1]
  refine bodyPost_ret (v := tokI 8 k ((k : Int) + 1 + q) false) ?_ rfl ⟨?_, ?_⟩
  · simp [results, Try.results69, go_sem, e0, e1, e2, e3, tokI]
  · exact ret_tok rfl rfl (by first | omega | (simp only []; omega))
  · exact ((((((HB2.setCell (by simp) _).setCell (by simp) _).setCell (by simp) _).setCell (by simp) _).setCell (by simp) _).setCell (by simp) _)

set_option maxHeartbeats 2000000 in
theorem markup_s1 {b off n cap : Nat} {l : List Int} {w : World} (R : RRow w b off n cap l) (k : Nat) (hk : k < n) (hC : sw sCo (l.drop k) = false) (hD : sw sDo (l.drop k) = false) (hP : sw sPo (l.drop k) = false) (hT : sw sTo (l.drop k) = false) (hE : sw sEo (l.drop k) = false) (hk1 : k + 1 < n) (z : Int) (hz : l.getD (k + 1) 0 = z) (hst : startB z = true) (q : Nat) (hq : bareP [60, 62] 0 (l.drop (k + 1)) = q) (hqn : k + 1 + q < n) (hp : edgeP (l.drop (k + 1 + q)) = (1, true)) (y : Int) (hy : l.getD (k + q) 0 = y) (hsl : ¬ y = 47) :
    Says 69 #[.slice (some ⟨b, off, none⟩) n cap, .int .i64 k] (tokV k (8, 1 + q + 1, true)) w w := by
  have hm := R.max
  have hc := R.le
  unfold maxLen at hm
  have R0 := R.below (two_ok w tokB (tokK k))
  have HSC := Lib.hid (startsB R0 sCoS k (by omega) hC)
  have HSD := Lib.hid (startsB R0 sDoS k (by omega) hD)
  have HSP := Lib.hid (startsB R0 sPoS k (by omega) hP)
  have HST := Lib.hid (startsB R0 sToS k (by omega) hT)
  have HSE := Lib.hid (startsB R0 sEoS k (by omega) hE)
  have hcl0 := R0.cells
  have HCL := Lib.hid (fun (w' : World) (hb : Below ((w.alloc tokB).alloc (tokK k)).heap.size ((w.alloc tokB).alloc (tokK k)) w') => show w'.cell? ⟨b, off + (k + 1), none⟩ = some (.int .i32 z) from by
    obtain ⟨b', off', hy, hc1⟩ := (hcl0.below hb).int (k := k + 1) (by rw [R.len]; exact hk1)
    simp only [Option.some.injEq, Addr.mk.injEq] at hy
    obtain ⟨rfl, rfl, _⟩ := hy
    rw [hz] at hc1
    exact hc1)
  clear hcl0 hz
  have HN := Lib.hid (nameStartB (W := ((w.alloc tokB).alloc (tokK k))) (r := z) (v := true) hst)
  clear hst
  have HBA := Lib.hid (bare2R R 60 62 (k + 1) (by omega) hq)
  have HE := Lib.hid (edgeR R (k + 1 + q) (by omega) hp)
  simp only [Int.natCast_add, Int.cast_ofNat_Int] at HBA HE
  have hblt : b < w.heap.size := (by obtain ⟨b', off', hy, hc1⟩ := R.cells.int (k := k) (by rw [R.len]; omega); simp only [Option.some.injEq, Addr.mk.injEq] at hy; obtain ⟨rfl, rfl, _⟩ := hy; exact cell_lt hc1)
  have hn1 : ¬ b = w.heap.size + 1 := by omega
  have hn2 : ¬ w.heap.size + 1 = b := by omega
  have HRC := Lib.hid (fun (w' : World) (hb : Below w.heap.size w w') => show w'.cell? ⟨b, off + (k + q), none⟩ = some (.int .i32 y) from by
    obtain ⟨b', off', hy', hc1⟩ := (R.cells.below hb).int (k := k + q) (by rw [R.len]; omega)
    simp only [Option.some.injEq, Addr.mk.injEq] at hy'
    obtain ⟨rfl, rfl, _⟩ := hy'
    rw [hy] at hc1
    exact hc1)
  have hto : (k : Int) + 1 + q + 1 = ((k + q : Nat) : Int) + 2 := by omega
  rw [hto] at HE
  have hmn : k + q + 2 ≤ n := by omega
  obtain ⟨m, hmm⟩ : ∃ m, m = k + q := ⟨_, rfl⟩
  rw [← hmm] at HE HRC hmn
  have HMM := Lib.hid hmm
  clear hto hy hmm
  have hsl2 : (y == 47) = false := by simpa using hsl
  have hb : Below ((w.alloc tokB).alloc (tokK k)).heap.size ((w.alloc tokB).alloc (tokK k)) ((w.alloc tokB).alloc (tokK k)) := Below.refl _ _
  clear R R0 hp hq hC hD hP hT hE
  go_enter Try.func69, Try.ntmps69
  go_wp2_with (first
    | (go_at_call 46; (with_reducible refine (HSC.out _ hb).mono ?_); rintro e w1 ⟨rfl, hb1⟩; replace hb := hb1; clear hb1; obtain ⟨c1, c2⟩ := bcell hb; have hz1 : w.heap.size + 1 < w1.heap.size := (by have := hb.size; simp at this; omega); have hz0 : w.heap.size < w1.heap.size := (by omega); have hcl := HCL.out _ hb)
    | (go_at_call 46; (with_reducible refine (HSD.out _ hb).mono ?_); rintro e w1 ⟨rfl, hb1⟩; replace hb := hb1; clear hb1; obtain ⟨c1, c2⟩ := bcell hb; have hz1 : w.heap.size + 1 < w1.heap.size := (by have := hb.size; simp at this; omega); have hz0 : w.heap.size < w1.heap.size := (by omega); have hcl := HCL.out _ hb)
    | (go_at_call 46; (with_reducible refine (HSP.out _ hb).mono ?_); rintro e w1 ⟨rfl, hb1⟩; replace hb := hb1; clear hb1; obtain ⟨c1, c2⟩ := bcell hb; have hz1 : w.heap.size + 1 < w1.heap.size := (by have := hb.size; simp at this; omega); have hz0 : w.heap.size < w1.heap.size := (by omega); have hcl := HCL.out _ hb)
    | (go_at_call 46; (with_reducible refine (HST.out _ hb).mono ?_); rintro e w1 ⟨rfl, hb1⟩; replace hb := hb1; clear hb1; obtain ⟨c1, c2⟩ := bcell hb; have hz1 : w.heap.size + 1 < w1.heap.size := (by have := hb.size; simp at this; omega); have hz0 : w.heap.size < w1.heap.size := (by omega); have hcl := HCL.out _ hb)
    | (go_at_call 46; (with_reducible refine (HSE.out _ hb).mono ?_); rintro e w1 ⟨rfl, hb1⟩; replace hb := hb1; clear hb1; obtain ⟨c1, c2⟩ := bcell hb; have hz1 : w.heap.size + 1 < w1.heap.size := (by have := hb.size; simp at this; omega); have hz0 : w.heap.size < w1.heap.size := (by omega); have hcl := HCL.out _ hb)
    | (go_at_call 92; (with_reducible refine (HN.out _ hb).mono ?_); rintro e w1 ⟨rfl, hb1⟩; replace hb := hb1; clear hb1; obtain ⟨c1, c2⟩ := bcell hb; have hz1 : w.heap.size + 1 < w1.heap.size := (by have := hb.size; simp at this; omega); have hz0 : w.heap.size < w1.heap.size := (by omega))
    | (go_at_call 93; (with_reducible refine (HBA.out _ (((two_ok w tokB (tokK k)).trans (hb.mono (by simp; omega))).setCell (by simp) _) _ (by simp)).mono ?_); rintro e w2 ⟨rfl, hb2⟩; obtain ⟨c3, c4⟩ := bcell hb2; have HB2 := (((two_ok w tokB (tokK k)).trans (hb.mono (by simp; omega))).setCell (by simp) _).trans (hb2.mono (by simp; omega)); have hz3 : w.heap.size + 1 < w2.heap.size := (by have := hb2.size; simp at this; omega); have hz2 : w.heap.size < w2.heap.size := (by omega))
    | (go_at_call 90; (with_reducible refine (HE.out _ HB2).mono ?_); rintro e w3 ⟨rfl, hb3⟩; obtain ⟨c5, c6⟩ := bcell hb3; have HB3 := HB2.trans (hb3.mono (by omega)); have hcy := HRC.out _ HB3))
  replace HB2 := HB2.trans (hb3.mono (by omega))
  have e0 : w3.cell? ⟨w.heap.size, 0, none⟩ = some (.int .i64 0) := by simp [go_sem, c5, c3, c1, hz2, hz3, hz0, hz1]
  have e1 : w3.cell? ⟨w.heap.size, 1, none⟩ = some (.int .i64 0) := by simp [go_sem, c5, c3, c1, hz2, hz3, hz0, hz1]
  have e2 : w3.cell? ⟨w.heap.size, 2, none⟩ = some (.int .i64 0) := by simp [go_sem, c5, c3, c1, hz2, hz3, hz0, hz1]
  have e3 : w3.cell? ⟨w.heap.size, 3, none⟩ = some (.bool false) := by simp [go_sem, c5, c3, c1, hz2, hz3, hz0, hz1]
  refine bodyPost_ret (v := tokI 8 k ((m : Int) + 2) true) ?_ rfl ⟨?_, ?_⟩
  · simp [results, Try.results69, go_sem, e0, e1, e2, e3, tokI]
  · exact ret_tok rfl rfl (by have hmm := HMM.out; first | omega | (simp only []; omega))
  · exact ((((((HB2.setCell (by simp) _).setCell (by simp) _).setCell (by simp) _).setCell (by simp) _).setCell (by simp) _).setCell (by simp) _)

set_option maxHeartbeats 2000000 in
theorem markup_s2 {b off n cap : Nat} {l : List Int} {w : World} (R : RRow w b off n cap l) (k : Nat) (hk : k < n) (hC : sw sCo (l.drop k) = false) (hD : sw sDo (l.drop k) = false) (hP : sw sPo (l.drop k) = false) (hT : sw sTo (l.drop k) = false) (hE : sw sEo (l.drop k) = false) (hk1 : k + 1 < n) (z : Int) (hz : l.getD (k + 1) 0 = z) (hst : startB z = true) (q : Nat) (hq : bareP [60, 62] 0 (l.drop (k + 1)) = q) (hqn : k + 1 + q < n) (hp : edgeP (l.drop (k + 1 + q)) = (1, true)) (y : Int) (hy : l.getD (k + q) 0 = y) (hsl : y = 47) :
    Says 69 #[.slice (some ⟨b, off, none⟩) n cap, .int .i64 k] (tokV k (9, 1 + q + 1, true)) w w := by
  have hm := R.max
  have hc := R.le
  unfold maxLen at hm
  have R0 := R.below (two_ok w tokB (tokK k))
  have HSC := Lib.hid (startsB R0 sCoS k (by omega) hC)
  have HSD := Lib.hid (startsB R0 sDoS k (by omega) hD)
  have HSP := Lib.hid (startsB R0 sPoS k (by omega) hP)
  have HST := Lib.hid (startsB R0 sToS k (by omega) hT)
  have HSE := Lib.hid (startsB R0 sEoS k (by omega) hE)
  have hcl0 := R0.cells
  have HCL := Lib.hid (fun (w' : World) (hb : Below ((w.alloc tokB).alloc (tokK k)).heap.size ((w.alloc tokB).alloc (tokK k)) w') => show w'.cell? ⟨b, off + (k + 1), none⟩ = some (.int .i32 z) from by
    obtain ⟨b', off', hy, hc1⟩ := (hcl0.below hb).int (k := k + 1) (by rw [R.len]; exact hk1)
    simp only [Option.some.injEq, Addr.mk.injEq] at hy
    obtain ⟨rfl, rfl, _⟩ := hy
    rw [hz] at hc1
    exact hc1)
  clear hcl0 hz
  have HN := Lib.hid (nameStartB (W := ((w.alloc tokB).alloc (tokK k))) (r := z) (v := true) hst)
  clear hst
  have HBA := Lib.hid (bare2R R 60 62 (k + 1) (by omega) hq)
  have HE := Lib.hid (edgeR R (k + 1 + q) (by omega) hp)
  simp only [Int.natCast_add, Int.cast_ofNat_Int] at HBA HE
  have hblt : b < w.heap.size := (by obtain ⟨b', off', hy, hc1⟩ := R.cells.int (k := k) (by rw [R.len]; omega); simp only [Option.some.injEq, Addr.mk.injEq] at hy; obtain ⟨rfl, rfl, _⟩ := hy; exact cell_lt hc1)
  have hn1 : ¬ b = w.heap.size + 1 := by omega
  have hn2 : ¬ w.heap.size + 1 = b := by omega
  have HRC := Lib.hid (fun (w' : World) (hb : Below w.heap.size w w') => show w'.cell? ⟨b, off + (k + q), none⟩ = some (.int .i32 y) from by
    obtain ⟨b', off', hy', hc1⟩ := (R.cells.below hb).int (k := k + q) (by rw [R.len]; omega)
    simp only [Option.some.injEq, Addr.mk.injEq] at hy'
    obtain ⟨rfl, rfl, _⟩ := hy'
    rw [hy] at hc1
    exact hc1)
  have hto : (k : Int) + 1 + q + 1 = ((k + q : Nat) : Int) + 2 := by omega
  rw [hto] at HE
  have hmn : k + q + 2 ≤ n := by omega
  obtain ⟨m, hmm⟩ : ∃ m, m = k + q := ⟨_, rfl⟩
  rw [← hmm] at HE HRC hmn
  have HMM := Lib.hid hmm
  clear hto hy hmm
  subst hsl
  have hb : Below ((w.alloc tokB).alloc (tokK k)).heap.size ((w.alloc tokB).alloc (tokK k)) ((w.alloc tokB).alloc (tokK k)) := Below.refl _ _
  clear R R0 hp hq hC hD hP hT hE
  go_enter Try.func69, Try.ntmps69
  go_wp2_with (first
    | (go_at_call 46; (with_reducible refine (HSC.out _ hb).mono ?_); rintro e w1 ⟨rfl, hb1⟩; replace hb := hb1; clear hb1; obtain ⟨c1, c2⟩ := bcell hb; have hz1 : w.heap.size + 1 < w1.heap.size := (by have := hb.size; simp at this; omega); have hz0 : w.heap.size < w1.heap.size := (by omega); have hcl := HCL.out _ hb)
    | (go_at_call 46; (with_reducible refine (HSD.out _ hb).mono ?_); rintro e w1 ⟨rfl, hb1⟩; replace hb := hb1; clear hb1; obtain ⟨c1, c2⟩ := bcell hb; have hz1 : w.heap.size + 1 < w1.heap.size := (by have := hb.size; simp at this; omega); have hz0 : w.heap.size < w1.heap.size := (by omega); have hcl := HCL.out _ hb)
    | (go_at_call 46; (with_reducible refine (HSP.out _ hb).mono ?_); rintro e w1 ⟨rfl, hb1⟩; replace hb := hb1; clear hb1; obtain ⟨c1, c2⟩ := bcell hb; have hz1 : w.heap.size + 1 < w1.heap.size := (by have := hb.size; simp at this; omega); have hz0 : w.heap.size < w1.heap.size := (by omega); have hcl := HCL.out _ hb)
    | (go_at_call 46; (with_reducible refine (HST.out _ hb).mono ?_); rintro e w1 ⟨rfl, hb1⟩; replace hb := hb1; clear hb1; obtain ⟨c1, c2⟩ := bcell hb; have hz1 : w.heap.size + 1 < w1.heap.size := (by have := hb.size; simp at this; omega); have hz0 : w.heap.size < w1.heap.size := (by omega); have hcl := HCL.out _ hb)
    | (go_at_call 46; (with_reducible refine (HSE.out _ hb).mono ?_); rintro e w1 ⟨rfl, hb1⟩; replace hb := hb1; clear hb1; obtain ⟨c1, c2⟩ := bcell hb; have hz1 : w.heap.size + 1 < w1.heap.size := (by have := hb.size; simp at this; omega); have hz0 : w.heap.size < w1.heap.size := (by omega); have hcl := HCL.out _ hb)
    | (go_at_call 92; (with_reducible refine (HN.out _ hb).mono ?_); rintro e w1 ⟨rfl, hb1⟩; replace hb := hb1; clear hb1; obtain ⟨c1, c2⟩ := bcell hb; have hz1 : w.heap.size + 1 < w1.heap.size := (by have := hb.size; simp at this; omega); have hz0 : w.heap.size < w1.heap.size := (by omega))
    | (go_at_call 93; (with_reducible refine (HBA.out _ (((two_ok w tokB (tokK k)).trans (hb.mono (by simp; omega))).setCell (by simp) _) _ (by simp)).mono ?_); rintro e w2 ⟨rfl, hb2⟩; obtain ⟨c3, c4⟩ := bcell hb2; have HB2 := (((two_ok w tokB (tokK k)).trans (hb.mono (by simp; omega))).setCell (by simp) _).trans (hb2.mono (by simp; omega)); have hz3 : w.heap.size + 1 < w2.heap.size := (by have := hb2.size; simp at this; omega); have hz2 : w.heap.size < w2.heap.size := (by omega))
    | (go_at_call 90; (with_reducible refine (HE.out _ HB2).mono ?_); rintro e w3 ⟨rfl, hb3⟩; obtain ⟨c5, c6⟩ := bcell hb3; have x0 : w3.cell? ⟨w.heap.size + 1, 0, none⟩ = some (.int .i64 8) := (by simp [go_sem, c5, c3, c1, hz0, hz1, hz2, hz3]); have x1 : w3.cell? ⟨w.heap.size + 1, 1, none⟩ = some (.int .i64 k) := (by simp [go_sem, c5, c3, c1, hz0, hz1, hz2, hz3]); have x2 : w3.cell? ⟨w.heap.size + 1, 2, none⟩ = some (.int .i64 0) := (by simp [go_sem, c5, c3, c1, hz0, hz1, hz2, hz3]); have x3 : w3.cell? ⟨w.heap.size + 1, 3, none⟩ = some (.bool false) := (by simp [go_sem, c5, c3, c1, hz0, hz1, hz2, hz3]); have e0 : w3.cell? ⟨w.heap.size, 0, none⟩ = some (.int .i64 0) := (by simp [go_sem, c5, c3, c1, hz0, hz1, hz2, hz3]); have e1 : w3.cell? ⟨w.heap.size, 1, none⟩ = some (.int .i64 0) := (by simp [go_sem, c5, c3, c1, hz0, hz1, hz2, hz3]); have e2 : w3.cell? ⟨w.heap.size, 2, none⟩ = some (.int .i64 0) := (by simp [go_sem, c5, c3, c1, hz0, hz1, hz2, hz3]); have e3 : w3.cell? ⟨w.heap.size, 3, none⟩ = some (.bool false) := (by simp [go_sem, c5, c3, c1, hz0, hz1, hz2, hz3]); clear c5; have HB3 := HB2.trans (hb3.mono (by omega)); have hcy := HRC.out _ HB3))
  replace HB2 := HB2.trans (hb3.mono (by omega))
  refine bodyPost_ret (v := tokI 9 k ((m : Int) + 2) true) ?_ rfl ⟨?_, ?_⟩
  · simp [results, Try.results69, go_sem, e0, e1, e2, e3, tokI]
  · exact ret_tok rfl rfl (by have hmm := HMM.out; first | omega | (simp only []; omega))
  · exact (((((((HB2.setCell (by simp) _).setCell (by simp) _).setCell (by simp) _).setCell (by simp) _).setCell (by simp) _).setCell (by simp) _).setCell (by simp) _)

end Go.Proofs.Ytbljgoieieoamaa
