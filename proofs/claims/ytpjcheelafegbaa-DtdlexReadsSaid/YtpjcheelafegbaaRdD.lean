/-
  Contracts of the reference's layer 9: item, passed, closing, whole.
-/
import Derived.Test.YtpjcheelafegbaaRdB
import Derived.Test.YtpjcheelafegbaaDxM
import Derived.Test.YtpjcheelafegbaaDxN
namespace Go.Proofs.Ytpjcheelafegbaa
open Go.RowKit
set_option linter.unusedVariables false

set_option maxRecDepth 20000 in
set_option maxHeartbeats 2000000 in
theorem ritm_co1 {b off n cap : Nat} {l : List Int} {w : World} (R : RRow w b off n cap l) (hwf : ∀ j, -2147483648 ≤ l.getD j 0 ∧ l.getD j 0 ≤ 2147483647) (hn : n ≤ 1000) (k : Nat) (hk : k < n) (z : Int) (hz : l.getD k 0 = z) (hco : sw sCo (l.drop k) = true) (q : Nat) (hq : fnd sCc (l.drop (k + 4)) = some q) (hk4 : k + 4 ≤ n) (hqn : k + 4 + q + 3 ≤ n) :
    Says 42 #[.slice (some ⟨b, off, none⟩) n cap, .int .i64 k] (parI 12 k ((k : Int) + 4 + q + 3)) w w := by
  have hm := R.max
  have hc := R.le
  unfold maxLen at hm
  have hcl := rcell R k hk hz
  have hblt := cell_lt hcl
  have hbn : ¬ b = w.heap.size := by omega
  have hbn2 : ¬ b = w.heap.size + 1 := by omega
  have hblt2 : b < w.heap.size + 1 := by omega
  have R0 := R.below (two_ok w rpB (rpJ k))
  have HCL := Lib.hid (fun (w' : World) (hb : Below ((w.alloc rpB).alloc (rpJ k)).heap.size ((w.alloc rpB).alloc (rpJ k)) w') => rcell (R0.below hb) k hk hz)
  have H1 := Lib.hid (refStartsB R0 hwf sCoS k (by omega) (v := true) hco)
  have H2 := Lib.hid (refFindB R0 hwf hn sCcS (k + 4) hk4 hq)
  (try simp only [Int.natCast_add, Int.cast_ofNat_Int] at H1 H2)
  (try simp only [fndV, Int.natCast_add, Int.cast_ofNat_Int] at H2)
  have i1 : (0 : Int) ≤ (k : Int) + 4 + q := by omega
  have hb : Below ((w.alloc rpB).alloc (rpJ k)).heap.size ((w.alloc rpB).alloc (rpJ k)) ((w.alloc rpB).alloc (rpJ k)) := Below.refl _ _
  have tk0 : True := trivial
  clear R R0 hz hwf hco hq
  go_enter Try.func42, Try.ntmps42
  go_wp2_with (first
    | (go_at_call 37; (have _t := tk0); (with_reducible refine (H1.out _ hb).mono ?_); rintro e w1 ⟨rfl, hb1⟩; clear tk0 _t; have tk1 : True := trivial; replace hb := hb1; clear hb1; (try clear c1 c2 hz0); obtain ⟨c1, c2⟩ := bcell hb; have hz1 : w.heap.size + 1 < w1.heap.size + 1 := (by have := hb.size; simp at this; omega); have hz0 : w.heap.size < w1.heap.size := (by omega); have hz2 : w.heap.size + 1 < w1.heap.size := (by have := hb.size; simp at this; omega); have hcl := HCL.out _ hb)
    | (go_at_call 69; (have _t := tk1); (with_reducible refine (H2.out _ hb).mono ?_); rintro e w1 ⟨rfl, hb1⟩; clear tk1 _t; have tk2 : True := trivial; replace hb := hb1; clear hb1; (try clear c1 c2 hz0); obtain ⟨c1, c2⟩ := bcell hb; have hz1 : w.heap.size + 1 < w1.heap.size + 1 := (by have := hb.size; simp at this; omega); have hz0 : w.heap.size < w1.heap.size := (by omega); have hz2 : w.heap.size + 1 < w1.heap.size := (by have := hb.size; simp at this; omega); have hcl := HCL.out _ hb))
  all_goals
    have y0 : w1.cell? ⟨w.heap.size, 0, none⟩ = some (.int .i64 0) := by simp [go_sem, c1]
    have y1 : w1.cell? ⟨w.heap.size, 1, none⟩ = some (.int .i64 0) := by simp [go_sem, c1]
    have y2 : w1.cell? ⟨w.heap.size, 2, none⟩ = some (.int .i64 0) := by simp [go_sem, c1]
    have HB2 := (two_ok w rpB (rpJ k)).trans (hb.mono (by simp; omega))
    refine bodyPost_ret (v := parI 12 k ((k : Int) + 4 + q + 3)) ?_ rfl ⟨rfl, ?_⟩
    · simp [results, Try.results42, go_sem, y0, y1, y2, parI] <;> omega
    · exact (((HB2.setCell (by simp) _).setCell (by simp) _).setCell (by simp) _)

set_option maxRecDepth 20000 in
set_option maxHeartbeats 2000000 in
theorem ritm_co0 {b off n cap : Nat} {l : List Int} {w : World} (R : RRow w b off n cap l) (hwf : ∀ j, -2147483648 ≤ l.getD j 0 ∧ l.getD j 0 ≤ 2147483647) (hn : n ≤ 1000) (k : Nat) (hk : k < n) (z : Int) (hz : l.getD k 0 = z) (hco : sw sCo (l.drop k) = true) (hq : fnd sCc (l.drop (k + 4)) = none) (hk4 : k + 4 ≤ n) :
    Says 42 #[.slice (some ⟨b, off, none⟩) n cap, .int .i64 k] (parI 8 k ((k : Int) + 1)) w w := by
  have hm := R.max
  have hc := R.le
  unfold maxLen at hm
  have hcl := rcell R k hk hz
  have hblt := cell_lt hcl
  have hbn : ¬ b = w.heap.size := by omega
  have hbn2 : ¬ b = w.heap.size + 1 := by omega
  have hblt2 : b < w.heap.size + 1 := by omega
  have R0 := R.below (two_ok w rpB (rpJ k))
  have HCL := Lib.hid (fun (w' : World) (hb : Below ((w.alloc rpB).alloc (rpJ k)).heap.size ((w.alloc rpB).alloc (rpJ k)) w') => rcell (R0.below hb) k hk hz)
  have H1 := Lib.hid (refStartsB R0 hwf sCoS k (by omega) (v := true) hco)
  have H2 := Lib.hid (refFindB R0 hwf hn sCcS (k + 4) hk4 hq)
  (try simp only [Int.natCast_add, Int.cast_ofNat_Int] at H1 H2)
  (try simp only [fndV] at H2)
  have hb : Below ((w.alloc rpB).alloc (rpJ k)).heap.size ((w.alloc rpB).alloc (rpJ k)) ((w.alloc rpB).alloc (rpJ k)) := Below.refl _ _
  have tk0 : True := trivial
  clear R R0 hz hwf hco hq
  go_enter Try.func42, Try.ntmps42
  go_wp2_with (first
    | (go_at_call 37; (have _t := tk0); (with_reducible refine (H1.out _ hb).mono ?_); rintro e w1 ⟨rfl, hb1⟩; clear tk0 _t; have tk1 : True := trivial; replace hb := hb1; clear hb1; (try clear c1 c2 hz0); obtain ⟨c1, c2⟩ := bcell hb; have hz1 : w.heap.size + 1 < w1.heap.size + 1 := (by have := hb.size; simp at this; omega); have hz0 : w.heap.size < w1.heap.size := (by omega); have hz2 : w.heap.size + 1 < w1.heap.size := (by have := hb.size; simp at this; omega); have hcl := HCL.out _ hb)
    | (go_at_call 69; (have _t := tk1); (with_reducible refine (H2.out _ hb).mono ?_); rintro e w1 ⟨rfl, hb1⟩; clear tk1 _t; have tk2 : True := trivial; replace hb := hb1; clear hb1; (try clear c1 c2 hz0); obtain ⟨c1, c2⟩ := bcell hb; have hz1 : w.heap.size + 1 < w1.heap.size + 1 := (by have := hb.size; simp at this; omega); have hz0 : w.heap.size < w1.heap.size := (by omega); have hz2 : w.heap.size + 1 < w1.heap.size := (by have := hb.size; simp at this; omega); have hcl := HCL.out _ hb))
  all_goals
    have y0 : w1.cell? ⟨w.heap.size, 0, none⟩ = some (.int .i64 0) := by simp [go_sem, c1]
    have y1 : w1.cell? ⟨w.heap.size, 1, none⟩ = some (.int .i64 0) := by simp [go_sem, c1]
    have y2 : w1.cell? ⟨w.heap.size, 2, none⟩ = some (.int .i64 0) := by simp [go_sem, c1]
    have HB2 := (two_ok w rpB (rpJ k)).trans (hb.mono (by simp; omega))
    refine bodyPost_ret (v := parI 8 k ((k : Int) + 1)) ?_ rfl ⟨rfl, ?_⟩
    · simp [results, Try.results42, go_sem, y0, y1, y2, parI] <;> omega
    · exact (((HB2.setCell (by simp) _).setCell (by simp) _).setCell (by simp) _)

set_option maxRecDepth 20000 in
set_option maxHeartbeats 2000000 in
theorem ritm_po1 {b off n cap : Nat} {l : List Int} {w : World} (R : RRow w b off n cap l) (hwf : ∀ j, -2147483648 ≤ l.getD j 0 ∧ l.getD j 0 ≤ 2147483647) (hn : n ≤ 1000) (k : Nat) (hk : k < n) (z : Int) (hz : l.getD k 0 = z) (hco : sw sCo (l.drop k) = false) (hpo : sw sPo (l.drop k) = true) (q : Nat) (hq : fnd sPc (l.drop (k + 2)) = some q) (hk4 : k + 2 ≤ n) (hqn : k + 2 + q + 2 ≤ n) :
    Says 42 #[.slice (some ⟨b, off, none⟩) n cap, .int .i64 k] (parI 13 k ((k : Int) + 2 + q + 2)) w w := by
  have hm := R.max
  have hc := R.le
  unfold maxLen at hm
  have hcl := rcell R k hk hz
  have hblt := cell_lt hcl
  have hbn : ¬ b = w.heap.size := by omega
  have hbn2 : ¬ b = w.heap.size + 1 := by omega
  have hblt2 : b < w.heap.size + 1 := by omega
  have R0 := R.below (two_ok w rpB (rpJ k))
  have HCL := Lib.hid (fun (w' : World) (hb : Below ((w.alloc rpB).alloc (rpJ k)).heap.size ((w.alloc rpB).alloc (rpJ k)) w') => rcell (R0.below hb) k hk hz)
  have H1 := Lib.hid (refStartsB R0 hwf sCoS k (by omega) (v := false) hco)
  have H2 := Lib.hid (refStartsB R0 hwf sPoS k (by omega) (v := true) hpo)
  have H3 := Lib.hid (refFindB R0 hwf hn sPcS (k + 2) hk4 hq)
  (try simp only [Int.natCast_add, Int.cast_ofNat_Int] at H1 H2 H3)
  (try simp only [fndV, Int.natCast_add, Int.cast_ofNat_Int] at H3)
  have i1 : (0 : Int) ≤ (k : Int) + 2 + q := by omega
  have hb : Below ((w.alloc rpB).alloc (rpJ k)).heap.size ((w.alloc rpB).alloc (rpJ k)) ((w.alloc rpB).alloc (rpJ k)) := Below.refl _ _
  have tk0 : True := trivial
  clear R R0 hz hwf hco hpo hq
  go_enter Try.func42, Try.ntmps42
  go_wp2_with (first
    | (go_at_call 37; (have _t := tk0); (with_reducible refine (H1.out _ hb).mono ?_); rintro e w1 ⟨rfl, hb1⟩; clear tk0 _t; have tk1 : True := trivial; replace hb := hb1; clear hb1; (try clear c1 c2 hz0); obtain ⟨c1, c2⟩ := bcell hb; have hz1 : w.heap.size + 1 < w1.heap.size + 1 := (by have := hb.size; simp at this; omega); have hz0 : w.heap.size < w1.heap.size := (by omega); have hz2 : w.heap.size + 1 < w1.heap.size := (by have := hb.size; simp at this; omega); have hcl := HCL.out _ hb)
    | (go_at_call 37; (have _t := tk1); (with_reducible refine (H2.out _ hb).mono ?_); rintro e w1 ⟨rfl, hb1⟩; clear tk1 _t; have tk2 : True := trivial; replace hb := hb1; clear hb1; (try clear c1 c2 hz0); obtain ⟨c1, c2⟩ := bcell hb; have hz1 : w.heap.size + 1 < w1.heap.size + 1 := (by have := hb.size; simp at this; omega); have hz0 : w.heap.size < w1.heap.size := (by omega); have hz2 : w.heap.size + 1 < w1.heap.size := (by have := hb.size; simp at this; omega); have hcl := HCL.out _ hb)
    | (go_at_call 69; (have _t := tk2); (with_reducible refine (H3.out _ hb).mono ?_); rintro e w1 ⟨rfl, hb1⟩; clear tk2 _t; have tk3 : True := trivial; replace hb := hb1; clear hb1; (try clear c1 c2 hz0); obtain ⟨c1, c2⟩ := bcell hb; have hz1 : w.heap.size + 1 < w1.heap.size + 1 := (by have := hb.size; simp at this; omega); have hz0 : w.heap.size < w1.heap.size := (by omega); have hz2 : w.heap.size + 1 < w1.heap.size := (by have := hb.size; simp at this; omega); have hcl := HCL.out _ hb))
  all_goals
    have y0 : w1.cell? ⟨w.heap.size, 0, none⟩ = some (.int .i64 0) := by simp [go_sem, c1]
    have y1 : w1.cell? ⟨w.heap.size, 1, none⟩ = some (.int .i64 0) := by simp [go_sem, c1]
    have y2 : w1.cell? ⟨w.heap.size, 2, none⟩ = some (.int .i64 0) := by simp [go_sem, c1]
    have HB2 := (two_ok w rpB (rpJ k)).trans (hb.mono (by simp; omega))
    refine bodyPost_ret (v := parI 13 k ((k : Int) + 2 + q + 2)) ?_ rfl ⟨rfl, ?_⟩
    · simp [results, Try.results42, go_sem, y0, y1, y2, parI] <;> omega
    · exact (((HB2.setCell (by simp) _).setCell (by simp) _).setCell (by simp) _)

set_option maxRecDepth 20000 in
set_option maxHeartbeats 2000000 in
theorem ritm_po0 {b off n cap : Nat} {l : List Int} {w : World} (R : RRow w b off n cap l) (hwf : ∀ j, -2147483648 ≤ l.getD j 0 ∧ l.getD j 0 ≤ 2147483647) (hn : n ≤ 1000) (k : Nat) (hk : k < n) (z : Int) (hz : l.getD k 0 = z) (hco : sw sCo (l.drop k) = false) (hpo : sw sPo (l.drop k) = true) (hq : fnd sPc (l.drop (k + 2)) = none) (hk4 : k + 2 ≤ n) :
    Says 42 #[.slice (some ⟨b, off, none⟩) n cap, .int .i64 k] (parI 8 k ((k : Int) + 1)) w w := by
  have hm := R.max
  have hc := R.le
  unfold maxLen at hm
  have hcl := rcell R k hk hz
  have hblt := cell_lt hcl
  have hbn : ¬ b = w.heap.size := by omega
  have hbn2 : ¬ b = w.heap.size + 1 := by omega
  have hblt2 : b < w.heap.size + 1 := by omega
  have R0 := R.below (two_ok w rpB (rpJ k))
  have HCL := Lib.hid (fun (w' : World) (hb : Below ((w.alloc rpB).alloc (rpJ k)).heap.size ((w.alloc rpB).alloc (rpJ k)) w') => rcell (R0.below hb) k hk hz)
  have H1 := Lib.hid (refStartsB R0 hwf sCoS k (by omega) (v := false) hco)
  have H2 := Lib.hid (refStartsB R0 hwf sPoS k (by omega) (v := true) hpo)
  have H3 := Lib.hid (refFindB R0 hwf hn sPcS (k + 2) hk4 hq)
  (try simp only [Int.natCast_add, Int.cast_ofNat_Int] at H1 H2 H3)
  (try simp only [fndV] at H3)
  have hb : Below ((w.alloc rpB).alloc (rpJ k)).heap.size ((w.alloc rpB).alloc (rpJ k)) ((w.alloc rpB).alloc (rpJ k)) := Below.refl _ _
  have tk0 : True := trivial
  clear R R0 hz hwf hco hpo hq
  go_enter Try.func42, Try.ntmps42
  go_wp2_with (first
    | (go_at_call 37; (have _t := tk0); (with_reducible refine (H1.out _ hb).mono ?_); rintro e w1 ⟨rfl, hb1⟩; clear tk0 _t; have tk1 : True := trivial; replace hb := hb1; clear hb1; (try clear c1 c2 hz0); obtain ⟨c1, c2⟩ := bcell hb; have hz1 : w.heap.size + 1 < w1.heap.size + 1 := (by have := hb.size; simp at this; omega); have hz0 : w.heap.size < w1.heap.size := (by omega); have hz2 : w.heap.size + 1 < w1.heap.size := (by have := hb.size; simp at this; omega); have hcl := HCL.out _ hb)
    | (go_at_call 37; (have _t := tk1); (with_reducible refine (H2.out _ hb).mono ?_); rintro e w1 ⟨rfl, hb1⟩; clear tk1 _t; have tk2 : True := trivial; replace hb := hb1; clear hb1; (try clear c1 c2 hz0); obtain ⟨c1, c2⟩ := bcell hb; have hz1 : w.heap.size + 1 < w1.heap.size + 1 := (by have := hb.size; simp at this; omega); have hz0 : w.heap.size < w1.heap.size := (by omega); have hz2 : w.heap.size + 1 < w1.heap.size := (by have := hb.size; simp at this; omega); have hcl := HCL.out _ hb)
    | (go_at_call 69; (have _t := tk2); (with_reducible refine (H3.out _ hb).mono ?_); rintro e w1 ⟨rfl, hb1⟩; clear tk2 _t; have tk3 : True := trivial; replace hb := hb1; clear hb1; (try clear c1 c2 hz0); obtain ⟨c1, c2⟩ := bcell hb; have hz1 : w.heap.size + 1 < w1.heap.size + 1 := (by have := hb.size; simp at this; omega); have hz0 : w.heap.size < w1.heap.size := (by omega); have hz2 : w.heap.size + 1 < w1.heap.size := (by have := hb.size; simp at this; omega); have hcl := HCL.out _ hb))
  all_goals
    have y0 : w1.cell? ⟨w.heap.size, 0, none⟩ = some (.int .i64 0) := by simp [go_sem, c1]
    have y1 : w1.cell? ⟨w.heap.size, 1, none⟩ = some (.int .i64 0) := by simp [go_sem, c1]
    have y2 : w1.cell? ⟨w.heap.size, 2, none⟩ = some (.int .i64 0) := by simp [go_sem, c1]
    have HB2 := (two_ok w rpB (rpJ k)).trans (hb.mono (by simp; omega))
    refine bodyPost_ret (v := parI 8 k ((k : Int) + 1)) ?_ rfl ⟨rfl, ?_⟩
    · simp [results, Try.results42, go_sem, y0, y1, y2, parI] <;> omega
    · exact (((HB2.setCell (by simp) _).setCell (by simp) _).setCell (by simp) _)

set_option maxRecDepth 20000 in
set_option maxHeartbeats 2000000 in
theorem ritm_de1 {b off n cap : Nat} {l : List Int} {w : World} (R : RRow w b off n cap l) (hwf : ∀ j, -2147483648 ≤ l.getD j 0 ∧ l.getD j 0 ≤ 2147483647) (hn : n ≤ 1000) (k : Nat) (hk : k < n) (z : Int) (hz : l.getD k 0 = z) (hco : sw sCo (l.drop k) = false) (hpo : sw sPo (l.drop k) = false) (hde : sw sDe (l.drop k) = true) (m : Nat) (hq : dcl 0 (l.drop k) = some m) (hm0 : 0 < m) (hqn : k + m ≤ n) :
    Says 42 #[.slice (some ⟨b, off, none⟩) n cap, .int .i64 k] (parI 11 k ((k : Int) + m - 1 + 1)) w w := by
  have hm := R.max
  have hc := R.le
  unfold maxLen at hm
  have hcl := rcell R k hk hz
  have hblt := cell_lt hcl
  have hbn : ¬ b = w.heap.size := by omega
  have hbn2 : ¬ b = w.heap.size + 1 := by omega
  have hblt2 : b < w.heap.size + 1 := by omega
  have R0 := R.below (two_ok w rpB (rpJ k))
  have HCL := Lib.hid (fun (w' : World) (hb : Below ((w.alloc rpB).alloc (rpJ k)).heap.size ((w.alloc rpB).alloc (rpJ k)) w') => rcell (R0.below hb) k hk hz)
  have H1 := Lib.hid (refStartsB R0 hwf sCoS k (by omega) (v := false) hco)
  have H2 := Lib.hid (refStartsB R0 hwf sPoS k (by omega) (v := false) hpo)
  have H3 := Lib.hid (refStartsB R0 hwf sDeS k (by omega) (v := true) hde)
  have H4 := Lib.hid (bracketB R0 hn k (by omega) hq)
  (try simp only [Int.natCast_add, Int.cast_ofNat_Int] at H1 H2 H3 H4)
  (try simp only [brkV] at H4)
  have i1 : (0 : Int) ≤ (k : Int) + m - 1 := by omega
  have hb : Below ((w.alloc rpB).alloc (rpJ k)).heap.size ((w.alloc rpB).alloc (rpJ k)) ((w.alloc rpB).alloc (rpJ k)) := Below.refl _ _
  have tk0 : True := trivial
  clear R R0 hz hwf hco hpo hde hq
  go_enter Try.func42, Try.ntmps42
  go_wp2_with (first
    | (go_at_call 37; (have _t := tk0); (with_reducible refine (H1.out _ hb).mono ?_); rintro e w1 ⟨rfl, hb1⟩; clear tk0 _t; have tk1 : True := trivial; replace hb := hb1; clear hb1; (try clear c1 c2 hz0); obtain ⟨c1, c2⟩ := bcell hb; have hz1 : w.heap.size + 1 < w1.heap.size + 1 := (by have := hb.size; simp at this; omega); have hz0 : w.heap.size < w1.heap.size := (by omega); have hz2 : w.heap.size + 1 < w1.heap.size := (by have := hb.size; simp at this; omega); have hcl := HCL.out _ hb)
    | (go_at_call 37; (have _t := tk1); (with_reducible refine (H2.out _ hb).mono ?_); rintro e w1 ⟨rfl, hb1⟩; clear tk1 _t; have tk2 : True := trivial; replace hb := hb1; clear hb1; (try clear c1 c2 hz0); obtain ⟨c1, c2⟩ := bcell hb; have hz1 : w.heap.size + 1 < w1.heap.size + 1 := (by have := hb.size; simp at this; omega); have hz0 : w.heap.size < w1.heap.size := (by omega); have hz2 : w.heap.size + 1 < w1.heap.size := (by have := hb.size; simp at this; omega); have hcl := HCL.out _ hb)
    | (go_at_call 37; (have _t := tk2); (with_reducible refine (H3.out _ hb).mono ?_); rintro e w1 ⟨rfl, hb1⟩; clear tk2 _t; have tk3 : True := trivial; replace hb := hb1; clear hb1; (try clear c1 c2 hz0); obtain ⟨c1, c2⟩ := bcell hb; have hz1 : w.heap.size + 1 < w1.heap.size + 1 := (by have := hb.size; simp at this; omega); have hz0 : w.heap.size < w1.heap.size := (by omega); have hz2 : w.heap.size + 1 < w1.heap.size := (by have := hb.size; simp at this; omega); have hcl := HCL.out _ hb)
    | (go_at_call 70; (have _t := tk3); (with_reducible refine (H4.out _ hb).mono ?_); rintro e w1 ⟨rfl, hb1⟩; clear tk3 _t; have tk4 : True := trivial; replace hb := hb1; clear hb1; (try clear c1 c2 hz0); obtain ⟨c1, c2⟩ := bcell hb; have hz1 : w.heap.size + 1 < w1.heap.size + 1 := (by have := hb.size; simp at this; omega); have hz0 : w.heap.size < w1.heap.size := (by omega); have hz2 : w.heap.size + 1 < w1.heap.size := (by have := hb.size; simp at this; omega); have hcl := HCL.out _ hb))
  all_goals
    have y0 : w1.cell? ⟨w.heap.size, 0, none⟩ = some (.int .i64 0) := by simp [go_sem, c1]
    have y1 : w1.cell? ⟨w.heap.size, 1, none⟩ = some (.int .i64 0) := by simp [go_sem, c1]
    have y2 : w1.cell? ⟨w.heap.size, 2, none⟩ = some (.int .i64 0) := by simp [go_sem, c1]
    have HB2 := (two_ok w rpB (rpJ k)).trans (hb.mono (by simp; omega))
    refine bodyPost_ret (v := parI 11 k ((k : Int) + m - 1 + 1)) ?_ rfl ⟨rfl, ?_⟩
    · simp [results, Try.results42, go_sem, y0, y1, y2, parI] <;> omega
    · exact (((HB2.setCell (by simp) _).setCell (by simp) _).setCell (by simp) _)

set_option maxRecDepth 20000 in
set_option maxHeartbeats 2000000 in
theorem ritm_de0 {b off n cap : Nat} {l : List Int} {w : World} (R : RRow w b off n cap l) (hwf : ∀ j, -2147483648 ≤ l.getD j 0 ∧ l.getD j 0 ≤ 2147483647) (hn : n ≤ 1000) (k : Nat) (hk : k < n) (z : Int) (hz : l.getD k 0 = z) (hco : sw sCo (l.drop k) = false) (hpo : sw sPo (l.drop k) = false) (hde : sw sDe (l.drop k) = true) (hq : dcl 0 (l.drop k) = none) :
    Says 42 #[.slice (some ⟨b, off, none⟩) n cap, .int .i64 k] (parI 8 k ((k : Int) + 1)) w w := by
  have hm := R.max
  have hc := R.le
  unfold maxLen at hm
  have hcl := rcell R k hk hz
  have hblt := cell_lt hcl
  have hbn : ¬ b = w.heap.size := by omega
  have hbn2 : ¬ b = w.heap.size + 1 := by omega
  have hblt2 : b < w.heap.size + 1 := by omega
  have R0 := R.below (two_ok w rpB (rpJ k))
  have HCL := Lib.hid (fun (w' : World) (hb : Below ((w.alloc rpB).alloc (rpJ k)).heap.size ((w.alloc rpB).alloc (rpJ k)) w') => rcell (R0.below hb) k hk hz)
  have H1 := Lib.hid (refStartsB R0 hwf sCoS k (by omega) (v := false) hco)
  have H2 := Lib.hid (refStartsB R0 hwf sPoS k (by omega) (v := false) hpo)
  have H3 := Lib.hid (refStartsB R0 hwf sDeS k (by omega) (v := true) hde)
  have H4 := Lib.hid (bracketB R0 hn k (by omega) hq)
  (try simp only [Int.natCast_add, Int.cast_ofNat_Int] at H1 H2 H3 H4)
  (try simp only [brkV] at H4)
  have hb : Below ((w.alloc rpB).alloc (rpJ k)).heap.size ((w.alloc rpB).alloc (rpJ k)) ((w.alloc rpB).alloc (rpJ k)) := Below.refl _ _
  have tk0 : True := trivial
  clear R R0 hz hwf hco hpo hde hq
  go_enter Try.func42, Try.ntmps42
  go_wp2_with (first
    | (go_at_call 37; (have _t := tk0); (with_reducible refine (H1.out _ hb).mono ?_); rintro e w1 ⟨rfl, hb1⟩; clear tk0 _t; have tk1 : True := trivial; replace hb := hb1; clear hb1; (try clear c1 c2 hz0); obtain ⟨c1, c2⟩ := bcell hb; have hz1 : w.heap.size + 1 < w1.heap.size + 1 := (by have := hb.size; simp at this; omega); have hz0 : w.heap.size < w1.heap.size := (by omega); have hz2 : w.heap.size + 1 < w1.heap.size := (by have := hb.size; simp at this; omega); have hcl := HCL.out _ hb)
    | (go_at_call 37; (have _t := tk1); (with_reducible refine (H2.out _ hb).mono ?_); rintro e w1 ⟨rfl, hb1⟩; clear tk1 _t; have tk2 : True := trivial; replace hb := hb1; clear hb1; (try clear c1 c2 hz0); obtain ⟨c1, c2⟩ := bcell hb; have hz1 : w.heap.size + 1 < w1.heap.size + 1 := (by have := hb.size; simp at this; omega); have hz0 : w.heap.size < w1.heap.size := (by omega); have hz2 : w.heap.size + 1 < w1.heap.size := (by have := hb.size; simp at this; omega); have hcl := HCL.out _ hb)
    | (go_at_call 37; (have _t := tk2); (with_reducible refine (H3.out _ hb).mono ?_); rintro e w1 ⟨rfl, hb1⟩; clear tk2 _t; have tk3 : True := trivial; replace hb := hb1; clear hb1; (try clear c1 c2 hz0); obtain ⟨c1, c2⟩ := bcell hb; have hz1 : w.heap.size + 1 < w1.heap.size + 1 := (by have := hb.size; simp at this; omega); have hz0 : w.heap.size < w1.heap.size := (by omega); have hz2 : w.heap.size + 1 < w1.heap.size := (by have := hb.size; simp at this; omega); have hcl := HCL.out _ hb)
    | (go_at_call 70; (have _t := tk3); (with_reducible refine (H4.out _ hb).mono ?_); rintro e w1 ⟨rfl, hb1⟩; clear tk3 _t; have tk4 : True := trivial; replace hb := hb1; clear hb1; (try clear c1 c2 hz0); obtain ⟨c1, c2⟩ := bcell hb; have hz1 : w.heap.size + 1 < w1.heap.size + 1 := (by have := hb.size; simp at this; omega); have hz0 : w.heap.size < w1.heap.size := (by omega); have hz2 : w.heap.size + 1 < w1.heap.size := (by have := hb.size; simp at this; omega); have hcl := HCL.out _ hb))
  all_goals
    have y0 : w1.cell? ⟨w.heap.size, 0, none⟩ = some (.int .i64 0) := by simp [go_sem, c1]
    have y1 : w1.cell? ⟨w.heap.size, 1, none⟩ = some (.int .i64 0) := by simp [go_sem, c1]
    have y2 : w1.cell? ⟨w.heap.size, 2, none⟩ = some (.int .i64 0) := by simp [go_sem, c1]
    have HB2 := (two_ok w rpB (rpJ k)).trans (hb.mono (by simp; omega))
    refine bodyPost_ret (v := parI 8 k ((k : Int) + 1)) ?_ rfl ⟨rfl, ?_⟩
    · simp [results, Try.results42, go_sem, y0, y1, y2, parI] <;> omega
    · exact (((HB2.setCell (by simp) _).setCell (by simp) _).setCell (by simp) _)

set_option maxRecDepth 20000 in
set_option maxHeartbeats 2000000 in
theorem ritm_pe1 {b off n cap : Nat} {l : List Int} {w : World} (R : RRow w b off n cap l) (hwf : ∀ j, -2147483648 ≤ l.getD j 0 ∧ l.getD j 0 ≤ 2147483647) (hn : n ≤ 1000) (k : Nat) (hk : k < n) (z : Int) (hz : l.getD k 0 = z) (hco : sw sCo (l.drop k) = false) (hpo : sw sPo (l.drop k) = false) (hde : sw sDe (l.drop k) = false) (h37 : z = 37) (q : Nat) (hq : leadP (l.drop (k + 1)) = q) (hq0 : 0 < q) (hqn : k + 1 + q ≤ n) (hsc : sw sSc (l.drop (k + 1 + q)) = true) :
    Says 42 #[.slice (some ⟨b, off, none⟩) n cap, .int .i64 k] (parI 14 k ((k : Int) + q + 2)) w w := by
  have hm := R.max
  have hc := R.le
  unfold maxLen at hm
  have hcl := rcell R k hk hz
  have hblt := cell_lt hcl
  have hbn : ¬ b = w.heap.size := by omega
  have hbn2 : ¬ b = w.heap.size + 1 := by omega
  have hblt2 : b < w.heap.size + 1 := by omega
  have R0 := R.below (two_ok w rpB (rpJ k))
  have HCL := Lib.hid (fun (w' : World) (hb : Below ((w.alloc rpB).alloc (rpJ k)).heap.size ((w.alloc rpB).alloc (rpJ k)) w') => rcell (R0.below hb) k hk hz)
  have H1 := Lib.hid (refStartsB R0 hwf sCoS k (by omega) (v := false) hco)
  have H2 := Lib.hid (refStartsB R0 hwf sPoS k (by omega) (v := false) hpo)
  have H3 := Lib.hid (refStartsB R0 hwf sDeS k (by omega) (v := false) hde)
  have H4 := Lib.hid (refLeadB R0 (k + 1) hq)
  have H5 := Lib.hid (refStartsB R0 hwf sScS (k + 1 + q) hqn (v := true) hsc)
  (try simp only [Int.natCast_add, Int.cast_ofNat_Int] at H1 H2 H3 H4 H5)
  (try simp only [Int.natCast_add, Int.cast_ofNat_Int] at H5)
  subst h37
  have hb : Below ((w.alloc rpB).alloc (rpJ k)).heap.size ((w.alloc rpB).alloc (rpJ k)) ((w.alloc rpB).alloc (rpJ k)) := Below.refl _ _
  have tk0 : True := trivial
  clear R R0 hz hwf hco hpo hde hq hsc
  go_enter Try.func42, Try.ntmps42
  go_wp2_with (first
    | (go_at_call 37; (have _t := tk0); (with_reducible refine (H1.out _ hb).mono ?_); rintro e w1 ⟨rfl, hb1⟩; clear tk0 _t; have tk1 : True := trivial; replace hb := hb1; clear hb1; (try clear c1 c2 hz0); obtain ⟨c1, c2⟩ := bcell hb; have hz1 : w.heap.size + 1 < w1.heap.size + 1 := (by have := hb.size; simp at this; omega); have hz0 : w.heap.size < w1.heap.size := (by omega); have hz2 : w.heap.size + 1 < w1.heap.size := (by have := hb.size; simp at this; omega); have hcl := HCL.out _ hb)
    | (go_at_call 37; (have _t := tk1); (with_reducible refine (H2.out _ hb).mono ?_); rintro e w1 ⟨rfl, hb1⟩; clear tk1 _t; have tk2 : True := trivial; replace hb := hb1; clear hb1; (try clear c1 c2 hz0); obtain ⟨c1, c2⟩ := bcell hb; have hz1 : w.heap.size + 1 < w1.heap.size + 1 := (by have := hb.size; simp at this; omega); have hz0 : w.heap.size < w1.heap.size := (by omega); have hz2 : w.heap.size + 1 < w1.heap.size := (by have := hb.size; simp at this; omega); have hcl := HCL.out _ hb)
    | (go_at_call 37; (have _t := tk2); (with_reducible refine (H3.out _ hb).mono ?_); rintro e w1 ⟨rfl, hb1⟩; clear tk2 _t; have tk3 : True := trivial; replace hb := hb1; clear hb1; (try clear c1 c2 hz0); obtain ⟨c1, c2⟩ := bcell hb; have hz1 : w.heap.size + 1 < w1.heap.size + 1 := (by have := hb.size; simp at this; omega); have hz0 : w.heap.size < w1.heap.size := (by omega); have hz2 : w.heap.size + 1 < w1.heap.size := (by have := hb.size; simp at this; omega); have hcl := HCL.out _ hb)
    | (go_at_call 63; (have _t := tk3); (with_reducible refine (H4.out _ hb).mono ?_); rintro e w1 ⟨rfl, hb1⟩; clear tk3 _t; have tk4 : True := trivial; replace hb := hb1; clear hb1; (try clear c1 c2 hz0); obtain ⟨c1, c2⟩ := bcell hb; have hz1 : w.heap.size + 1 < w1.heap.size + 1 := (by have := hb.size; simp at this; omega); have hz0 : w.heap.size < w1.heap.size := (by omega); have hz2 : w.heap.size + 1 < w1.heap.size := (by have := hb.size; simp at this; omega); have hcl := HCL.out _ hb)
    | (go_at_call 37; (have _t := tk4); (with_reducible refine (H5.out _ hb).mono ?_); rintro e w1 ⟨rfl, hb1⟩; clear tk4 _t; have tk5 : True := trivial; replace hb := hb1; clear hb1; (try clear c1 c2 hz0); obtain ⟨c1, c2⟩ := bcell hb; have hz1 : w.heap.size + 1 < w1.heap.size + 1 := (by have := hb.size; simp at this; omega); have hz0 : w.heap.size < w1.heap.size := (by omega); have hz2 : w.heap.size + 1 < w1.heap.size := (by have := hb.size; simp at this; omega); have hcl := HCL.out _ hb))
  all_goals
    have y0 : w1.cell? ⟨w.heap.size, 0, none⟩ = some (.int .i64 0) := by simp [go_sem, c1]
    have y1 : w1.cell? ⟨w.heap.size, 1, none⟩ = some (.int .i64 0) := by simp [go_sem, c1]
    have y2 : w1.cell? ⟨w.heap.size, 2, none⟩ = some (.int .i64 0) := by simp [go_sem, c1]
    have HB2 := (two_ok w rpB (rpJ k)).trans (hb.mono (by simp; omega))
    refine bodyPost_ret (v := parI 14 k ((k : Int) + q + 2)) ?_ rfl ⟨rfl, ?_⟩
    · simp [results, Try.results42, go_sem, y0, y1, y2, parI] <;> omega
    · exact (((HB2.setCell (by simp) _).setCell (by simp) _).setCell (by simp) _)

set_option maxRecDepth 20000 in
set_option maxHeartbeats 2000000 in
theorem ritm_pe2 {b off n cap : Nat} {l : List Int} {w : World} (R : RRow w b off n cap l) (hwf : ∀ j, -2147483648 ≤ l.getD j 0 ∧ l.getD j 0 ≤ 2147483647) (hn : n ≤ 1000) (k : Nat) (hk : k < n) (z : Int) (hz : l.getD k 0 = z) (hco : sw sCo (l.drop k) = false) (hpo : sw sPo (l.drop k) = false) (hde : sw sDe (l.drop k) = false) (h37 : z = 37) (q : Nat) (hq : leadP (l.drop (k + 1)) = q) (hq0 : 0 < q) (hqn : k + 1 + q ≤ n) (hsc : sw sSc (l.drop (k + 1 + q)) = false) :
    Says 42 #[.slice (some ⟨b, off, none⟩) n cap, .int .i64 k] (parI 8 k ((k : Int) + 1)) w w := by
  have hm := R.max
  have hc := R.le
  unfold maxLen at hm
  have hcl := rcell R k hk hz
  have hblt := cell_lt hcl
  have hbn : ¬ b = w.heap.size := by omega
  have hbn2 : ¬ b = w.heap.size + 1 := by omega
  have hblt2 : b < w.heap.size + 1 := by omega
  have R0 := R.below (two_ok w rpB (rpJ k))
  have HCL := Lib.hid (fun (w' : World) (hb : Below ((w.alloc rpB).alloc (rpJ k)).heap.size ((w.alloc rpB).alloc (rpJ k)) w') => rcell (R0.below hb) k hk hz)
  have H1 := Lib.hid (refStartsB R0 hwf sCoS k (by omega) (v := false) hco)
  have H2 := Lib.hid (refStartsB R0 hwf sPoS k (by omega) (v := false) hpo)
  have H3 := Lib.hid (refStartsB R0 hwf sDeS k (by omega) (v := false) hde)
  have H4 := Lib.hid (refLeadB R0 (k + 1) hq)
  have H5 := Lib.hid (refStartsB R0 hwf sScS (k + 1 + q) hqn (v := false) hsc)
  (try simp only [Int.natCast_add, Int.cast_ofNat_Int] at H1 H2 H3 H4 H5)
  (try simp only [Int.natCast_add, Int.cast_ofNat_Int] at H5)
  subst h37
  have hb : Below ((w.alloc rpB).alloc (rpJ k)).heap.size ((w.alloc rpB).alloc (rpJ k)) ((w.alloc rpB).alloc (rpJ k)) := Below.refl _ _
  have tk0 : True := trivial
  clear R R0 hz hwf hco hpo hde hq hsc
  go_enter Try.func42, Try.ntmps42
  go_wp2_with (first
    | (go_at_call 37; (have _t := tk0); (with_reducible refine (H1.out _ hb).mono ?_); rintro e w1 ⟨rfl, hb1⟩; clear tk0 _t; have tk1 : True := trivial; replace hb := hb1; clear hb1; (try clear c1 c2 hz0); obtain ⟨c1, c2⟩ := bcell hb; have hz1 : w.heap.size + 1 < w1.heap.size + 1 := (by have := hb.size; simp at this; omega); have hz0 : w.heap.size < w1.heap.size := (by omega); have hz2 : w.heap.size + 1 < w1.heap.size := (by have := hb.size; simp at this; omega); have hcl := HCL.out _ hb)
    | (go_at_call 37; (have _t := tk1); (with_reducible refine (H2.out _ hb).mono ?_); rintro e w1 ⟨rfl, hb1⟩; clear tk1 _t; have tk2 : True := trivial; replace hb := hb1; clear hb1; (try clear c1 c2 hz0); obtain ⟨c1, c2⟩ := bcell hb; have hz1 : w.heap.size + 1 < w1.heap.size + 1 := (by have := hb.size; simp at this; omega); have hz0 : w.heap.size < w1.heap.size := (by omega); have hz2 : w.heap.size + 1 < w1.heap.size := (by have := hb.size; simp at this; omega); have hcl := HCL.out _ hb)
    | (go_at_call 37; (have _t := tk2); (with_reducible refine (H3.out _ hb).mono ?_); rintro e w1 ⟨rfl, hb1⟩; clear tk2 _t; have tk3 : True := trivial; replace hb := hb1; clear hb1; (try clear c1 c2 hz0); obtain ⟨c1, c2⟩ := bcell hb; have hz1 : w.heap.size + 1 < w1.heap.size + 1 := (by have := hb.size; simp at this; omega); have hz0 : w.heap.size < w1.heap.size := (by omega); have hz2 : w.heap.size + 1 < w1.heap.size := (by have := hb.size; simp at this; omega); have hcl := HCL.out _ hb)
    | (go_at_call 63; (have _t := tk3); (with_reducible refine (H4.out _ hb).mono ?_); rintro e w1 ⟨rfl, hb1⟩; clear tk3 _t; have tk4 : True := trivial; replace hb := hb1; clear hb1; (try clear c1 c2 hz0); obtain ⟨c1, c2⟩ := bcell hb; have hz1 : w.heap.size + 1 < w1.heap.size + 1 := (by have := hb.size; simp at this; omega); have hz0 : w.heap.size < w1.heap.size := (by omega); have hz2 : w.heap.size + 1 < w1.heap.size := (by have := hb.size; simp at this; omega); have hcl := HCL.out _ hb)
    | (go_at_call 37; (have _t := tk4); (with_reducible refine (H5.out _ hb).mono ?_); rintro e w1 ⟨rfl, hb1⟩; clear tk4 _t; have tk5 : True := trivial; replace hb := hb1; clear hb1; (try clear c1 c2 hz0); obtain ⟨c1, c2⟩ := bcell hb; have hz1 : w.heap.size + 1 < w1.heap.size + 1 := (by have := hb.size; simp at this; omega); have hz0 : w.heap.size < w1.heap.size := (by omega); have hz2 : w.heap.size + 1 < w1.heap.size := (by have := hb.size; simp at this; omega); have hcl := HCL.out _ hb))
  all_goals
    have y0 : w1.cell? ⟨w.heap.size, 0, none⟩ = some (.int .i64 0) := by simp [go_sem, c1]
    have y1 : w1.cell? ⟨w.heap.size, 1, none⟩ = some (.int .i64 0) := by simp [go_sem, c1]
    have y2 : w1.cell? ⟨w.heap.size, 2, none⟩ = some (.int .i64 0) := by simp [go_sem, c1]
    have HB2 := (two_ok w rpB (rpJ k)).trans (hb.mono (by simp; omega))
    refine bodyPost_ret (v := parI 8 k ((k : Int) + 1)) ?_ rfl ⟨rfl, ?_⟩
    · simp [results, Try.results42, go_sem, y0, y1, y2, parI] <;> omega
    · exact (((HB2.setCell (by simp) _).setCell (by simp) _).setCell (by simp) _)

set_option maxRecDepth 20000 in
set_option maxHeartbeats 2000000 in
theorem ritm_pe0 {b off n cap : Nat} {l : List Int} {w : World} (R : RRow w b off n cap l) (hwf : ∀ j, -2147483648 ≤ l.getD j 0 ∧ l.getD j 0 ≤ 2147483647) (hn : n ≤ 1000) (k : Nat) (hk : k < n) (z : Int) (hz : l.getD k 0 = z) (hco : sw sCo (l.drop k) = false) (hpo : sw sPo (l.drop k) = false) (hde : sw sDe (l.drop k) = false) (h37 : z = 37) (hq : leadP (l.drop (k + 1)) = 0) :
    Says 42 #[.slice (some ⟨b, off, none⟩) n cap, .int .i64 k] (parI 8 k ((k : Int) + 1)) w w := by
  have hm := R.max
  have hc := R.le
  unfold maxLen at hm
  have hcl := rcell R k hk hz
  have hblt := cell_lt hcl
  have hbn : ¬ b = w.heap.size := by omega
  have hbn2 : ¬ b = w.heap.size + 1 := by omega
  have hblt2 : b < w.heap.size + 1 := by omega
  have R0 := R.below (two_ok w rpB (rpJ k))
  have HCL := Lib.hid (fun (w' : World) (hb : Below ((w.alloc rpB).alloc (rpJ k)).heap.size ((w.alloc rpB).alloc (rpJ k)) w') => rcell (R0.below hb) k hk hz)
  have H1 := Lib.hid (refStartsB R0 hwf sCoS k (by omega) (v := false) hco)
  have H2 := Lib.hid (refStartsB R0 hwf sPoS k (by omega) (v := false) hpo)
  have H3 := Lib.hid (refStartsB R0 hwf sDeS k (by omega) (v := false) hde)
  have H4 := Lib.hid (refLeadB R0 (k + 1) hq)
  (try simp only [Int.natCast_add, Int.cast_ofNat_Int] at H1 H2 H3 H4)
  subst h37
  have hb : Below ((w.alloc rpB).alloc (rpJ k)).heap.size ((w.alloc rpB).alloc (rpJ k)) ((w.alloc rpB).alloc (rpJ k)) := Below.refl _ _
  have tk0 : True := trivial
  clear R R0 hz hwf hco hpo hde hq
  go_enter Try.func42, Try.ntmps42
  go_wp2_with (first
    | (go_at_call 37; (have _t := tk0); (with_reducible refine (H1.out _ hb).mono ?_); rintro e w1 ⟨rfl, hb1⟩; clear tk0 _t; have tk1 : True := trivial; replace hb := hb1; clear hb1; (try clear c1 c2 hz0); obtain ⟨c1, c2⟩ := bcell hb; have hz1 : w.heap.size + 1 < w1.heap.size + 1 := (by have := hb.size; simp at this; omega); have hz0 : w.heap.size < w1.heap.size := (by omega); have hz2 : w.heap.size + 1 < w1.heap.size := (by have := hb.size; simp at this; omega); have hcl := HCL.out _ hb)
    | (go_at_call 37; (have _t := tk1); (with_reducible refine (H2.out _ hb).mono ?_); rintro e w1 ⟨rfl, hb1⟩; clear tk1 _t; have tk2 : True := trivial; replace hb := hb1; clear hb1; (try clear c1 c2 hz0); obtain ⟨c1, c2⟩ := bcell hb; have hz1 : w.heap.size + 1 < w1.heap.size + 1 := (by have := hb.size; simp at this; omega); have hz0 : w.heap.size < w1.heap.size := (by omega); have hz2 : w.heap.size + 1 < w1.heap.size := (by have := hb.size; simp at this; omega); have hcl := HCL.out _ hb)
    | (go_at_call 37; (have _t := tk2); (with_reducible refine (H3.out _ hb).mono ?_); rintro e w1 ⟨rfl, hb1⟩; clear tk2 _t; have tk3 : True := trivial; replace hb := hb1; clear hb1; (try clear c1 c2 hz0); obtain ⟨c1, c2⟩ := bcell hb; have hz1 : w.heap.size + 1 < w1.heap.size + 1 := (by have := hb.size; simp at this; omega); have hz0 : w.heap.size < w1.heap.size := (by omega); have hz2 : w.heap.size + 1 < w1.heap.size := (by have := hb.size; simp at this; omega); have hcl := HCL.out _ hb)
    | (go_at_call 63; (have _t := tk3); (with_reducible refine (H4.out _ hb).mono ?_); rintro e w1 ⟨rfl, hb1⟩; clear tk3 _t; have tk4 : True := trivial; replace hb := hb1; clear hb1; (try clear c1 c2 hz0); obtain ⟨c1, c2⟩ := bcell hb; have hz1 : w.heap.size + 1 < w1.heap.size + 1 := (by have := hb.size; simp at this; omega); have hz0 : w.heap.size < w1.heap.size := (by omega); have hz2 : w.heap.size + 1 < w1.heap.size := (by have := hb.size; simp at this; omega); have hcl := HCL.out _ hb))
  all_goals
    have y0 : w1.cell? ⟨w.heap.size, 0, none⟩ = some (.int .i64 0) := by simp [go_sem, c1]
    have y1 : w1.cell? ⟨w.heap.size, 1, none⟩ = some (.int .i64 0) := by simp [go_sem, c1]
    have y2 : w1.cell? ⟨w.heap.size, 2, none⟩ = some (.int .i64 0) := by simp [go_sem, c1]
    have HB2 := (two_ok w rpB (rpJ k)).trans (hb.mono (by simp; omega))
    refine bodyPost_ret (v := parI 8 k ((k : Int) + 1)) ?_ rfl ⟨rfl, ?_⟩
    · simp [results, Try.results42, go_sem, y0, y1, y2, parI] <;> omega
    · exact (((HB2.setCell (by simp) _).setCell (by simp) _).setCell (by simp) _)

set_option maxRecDepth 20000 in
set_option maxHeartbeats 2000000 in
theorem ritm_sp {b off n cap : Nat} {l : List Int} {w : World} (R : RRow w b off n cap l) (hwf : ∀ j, -2147483648 ≤ l.getD j 0 ∧ l.getD j 0 ≤ 2147483647) (hn : n ≤ 1000) (k : Nat) (hk : k < n) (z : Int) (hz : l.getD k 0 = z) (hco : sw sCo (l.drop k) = false) (hpo : sw sPo (l.drop k) = false) (hde : sw sDe (l.drop k) = false) (h37 : ¬ z = 37) (hs : spaceB z = true) (q : Nat) (hq : wdP (l.drop k) = (3, q)) :
    Says 42 #[.slice (some ⟨b, off, none⟩) n cap, .int .i64 k] (parI 3 k ((k : Int) + q)) w w := by
  have hm := R.max
  have hc := R.le
  unfold maxLen at hm
  have hcl := rcell R k hk hz
  have hblt := cell_lt hcl
  have hbn : ¬ b = w.heap.size := by omega
  have hbn2 : ¬ b = w.heap.size + 1 := by omega
  have hblt2 : b < w.heap.size + 1 := by omega
  have R0 := R.below (two_ok w rpB (rpJ k))
  have HCL := Lib.hid (fun (w' : World) (hb : Below ((w.alloc rpB).alloc (rpJ k)).heap.size ((w.alloc rpB).alloc (rpJ k)) w') => rcell (R0.below hb) k hk hz)
  have H1 := Lib.hid (refStartsB R0 hwf sCoS k (by omega) (v := false) hco)
  have H2 := Lib.hid (refStartsB R0 hwf sPoS k (by omega) (v := false) hpo)
  have H3 := Lib.hid (refStartsB R0 hwf sDeS k (by omega) (v := false) hde)
  have H4 := Lib.hid (refSpaceB (W := ((w.alloc rpB).alloc (rpJ k))) (r := z) hs)
  have H5 := Lib.hid (rwordB R0 hwf hn k hk hq)
  (try simp only [Int.natCast_add, Int.cast_ofNat_Int] at H1 H2 H3 H4 H5)
  have e37 : (z == 37) = false := by simpa using h37
  have hb : Below ((w.alloc rpB).alloc (rpJ k)).heap.size ((w.alloc rpB).alloc (rpJ k)) ((w.alloc rpB).alloc (rpJ k)) := Below.refl _ _
  have tk0 : True := trivial
  clear R R0 hz hwf hco hpo hde hq hs
  go_enter Try.func42, Try.ntmps42
  go_wp2_with (first
    | (go_at_call 37; (have _t := tk0); (with_reducible refine (H1.out _ hb).mono ?_); rintro e w1 ⟨rfl, hb1⟩; clear tk0 _t; have tk1 : True := trivial; replace hb := hb1; clear hb1; (try clear c1 c2 hz0); obtain ⟨c1, c2⟩ := bcell hb; have hz1 : w.heap.size + 1 < w1.heap.size + 1 := (by have := hb.size; simp at this; omega); have hz0 : w.heap.size < w1.heap.size := (by omega); have hz2 : w.heap.size + 1 < w1.heap.size := (by have := hb.size; simp at this; omega); have hcl := HCL.out _ hb)
    | (go_at_call 37; (have _t := tk1); (with_reducible refine (H2.out _ hb).mono ?_); rintro e w1 ⟨rfl, hb1⟩; clear tk1 _t; have tk2 : True := trivial; replace hb := hb1; clear hb1; (try clear c1 c2 hz0); obtain ⟨c1, c2⟩ := bcell hb; have hz1 : w.heap.size + 1 < w1.heap.size + 1 := (by have := hb.size; simp at this; omega); have hz0 : w.heap.size < w1.heap.size := (by omega); have hz2 : w.heap.size + 1 < w1.heap.size := (by have := hb.size; simp at this; omega); have hcl := HCL.out _ hb)
    | (go_at_call 37; (have _t := tk2); (with_reducible refine (H3.out _ hb).mono ?_); rintro e w1 ⟨rfl, hb1⟩; clear tk2 _t; have tk3 : True := trivial; replace hb := hb1; clear hb1; (try clear c1 c2 hz0); obtain ⟨c1, c2⟩ := bcell hb; have hz1 : w.heap.size + 1 < w1.heap.size + 1 := (by have := hb.size; simp at this; omega); have hz0 : w.heap.size < w1.heap.size := (by omega); have hz2 : w.heap.size + 1 < w1.heap.size := (by have := hb.size; simp at this; omega); have hcl := HCL.out _ hb)
    | (go_at_call 62; (have _t := tk3); (with_reducible refine (H4.out _ hb).mono ?_); rintro e w1 ⟨rfl, hb1⟩; clear tk3 _t; have tk4 : True := trivial; replace hb := hb1; clear hb1; (try clear c1 c2 hz0); obtain ⟨c1, c2⟩ := bcell hb; have hz1 : w.heap.size + 1 < w1.heap.size + 1 := (by have := hb.size; simp at this; omega); have hz0 : w.heap.size < w1.heap.size := (by omega); have hz2 : w.heap.size + 1 < w1.heap.size := (by have := hb.size; simp at this; omega); have hcl := HCL.out _ hb)
    | (go_at_call 38; (have _t := tk4); (with_reducible refine (H5.out _ hb).mono ?_); rintro e w1 ⟨rfl, hb1⟩; clear tk4 _t; have tk5 : True := trivial; replace hb := hb1; clear hb1; (try clear c1 c2 hz0); obtain ⟨c1, c2⟩ := bcell hb; have hz1 : w.heap.size + 1 < w1.heap.size + 1 := (by have := hb.size; simp at this; omega); have hz0 : w.heap.size < w1.heap.size := (by omega); have hz2 : w.heap.size + 1 < w1.heap.size := (by have := hb.size; simp at this; omega); have hcl := HCL.out _ hb))
  all_goals
    have y0 : w1.cell? ⟨w.heap.size, 0, none⟩ = some (.int .i64 0) := by simp [go_sem, c1]
    have y1 : w1.cell? ⟨w.heap.size, 1, none⟩ = some (.int .i64 0) := by simp [go_sem, c1]
    have y2 : w1.cell? ⟨w.heap.size, 2, none⟩ = some (.int .i64 0) := by simp [go_sem, c1]
    have HB2 := (two_ok w rpB (rpJ k)).trans (hb.mono (by simp; omega))
    refine bodyPost_ret (v := parI 3 k ((k : Int) + q)) ?_ rfl ⟨rfl, ?_⟩
    · simp [results, Try.results42, go_sem, y0, y1, y2, parI] <;> omega
    · exact (((HB2.setCell (by simp) _).setCell (by simp) _).setCell (by simp) _)

set_option maxRecDepth 20000 in
set_option maxHeartbeats 2000000 in
theorem ritm_j {b off n cap : Nat} {l : List Int} {w : World} (R : RRow w b off n cap l) (hwf : ∀ j, -2147483648 ≤ l.getD j 0 ∧ l.getD j 0 ≤ 2147483647) (hn : n ≤ 1000) (k : Nat) (hk : k < n) (z : Int) (hz : l.getD k 0 = z) (hco : sw sCo (l.drop k) = false) (hpo : sw sPo (l.drop k) = false) (hde : sw sDe (l.drop k) = false) (h37 : ¬ z = 37) (hs : spaceB z = false) :
    Says 42 #[.slice (some ⟨b, off, none⟩) n cap, .int .i64 k] (parI 8 k ((k : Int) + 1)) w w := by
  have hm := R.max
  have hc := R.le
  unfold maxLen at hm
  have hcl := rcell R k hk hz
  have hblt := cell_lt hcl
  have hbn : ¬ b = w.heap.size := by omega
  have hbn2 : ¬ b = w.heap.size + 1 := by omega
  have hblt2 : b < w.heap.size + 1 := by omega
  have R0 := R.below (two_ok w rpB (rpJ k))
  have HCL := Lib.hid (fun (w' : World) (hb : Below ((w.alloc rpB).alloc (rpJ k)).heap.size ((w.alloc rpB).alloc (rpJ k)) w') => rcell (R0.below hb) k hk hz)
  have H1 := Lib.hid (refStartsB R0 hwf sCoS k (by omega) (v := false) hco)
  have H2 := Lib.hid (refStartsB R0 hwf sPoS k (by omega) (v := false) hpo)
  have H3 := Lib.hid (refStartsB R0 hwf sDeS k (by omega) (v := false) hde)
  have H4 := Lib.hid (refSpaceB (W := ((w.alloc rpB).alloc (rpJ k))) (r := z) hs)
  (try simp only [Int.natCast_add, Int.cast_ofNat_Int] at H1 H2 H3 H4)
  have e37 : (z == 37) = false := by simpa using h37
  have hb : Below ((w.alloc rpB).alloc (rpJ k)).heap.size ((w.alloc rpB).alloc (rpJ k)) ((w.alloc rpB).alloc (rpJ k)) := Below.refl _ _
  have tk0 : True := trivial
  clear R R0 hz hwf hco hpo hde hs
  go_enter Try.func42, Try.ntmps42
  go_wp2_with (first
    | (go_at_call 37; (have _t := tk0); (with_reducible refine (H1.out _ hb).mono ?_); rintro e w1 ⟨rfl, hb1⟩; clear tk0 _t; have tk1 : True := trivial; replace hb := hb1; clear hb1; (try clear c1 c2 hz0); obtain ⟨c1, c2⟩ := bcell hb; have hz1 : w.heap.size + 1 < w1.heap.size + 1 := (by have := hb.size; simp at this; omega); have hz0 : w.heap.size < w1.heap.size := (by omega); have hz2 : w.heap.size + 1 < w1.heap.size := (by have := hb.size; simp at this; omega); have hcl := HCL.out _ hb)
    | (go_at_call 37; (have _t := tk1); (with_reducible refine (H2.out _ hb).mono ?_); rintro e w1 ⟨rfl, hb1⟩; clear tk1 _t; have tk2 : True := trivial; replace hb := hb1; clear hb1; (try clear c1 c2 hz0); obtain ⟨c1, c2⟩ := bcell hb; have hz1 : w.heap.size + 1 < w1.heap.size + 1 := (by have := hb.size; simp at this; omega); have hz0 : w.heap.size < w1.heap.size := (by omega); have hz2 : w.heap.size + 1 < w1.heap.size := (by have := hb.size; simp at this; omega); have hcl := HCL.out _ hb)
    | (go_at_call 37; (have _t := tk2); (with_reducible refine (H3.out _ hb).mono ?_); rintro e w1 ⟨rfl, hb1⟩; clear tk2 _t; have tk3 : True := trivial; replace hb := hb1; clear hb1; (try clear c1 c2 hz0); obtain ⟨c1, c2⟩ := bcell hb; have hz1 : w.heap.size + 1 < w1.heap.size + 1 := (by have := hb.size; simp at this; omega); have hz0 : w.heap.size < w1.heap.size := (by omega); have hz2 : w.heap.size + 1 < w1.heap.size := (by have := hb.size; simp at this; omega); have hcl := HCL.out _ hb)
    | (go_at_call 62; (have _t := tk3); (with_reducible refine (H4.out _ hb).mono ?_); rintro e w1 ⟨rfl, hb1⟩; clear tk3 _t; have tk4 : True := trivial; replace hb := hb1; clear hb1; (try clear c1 c2 hz0); obtain ⟨c1, c2⟩ := bcell hb; have hz1 : w.heap.size + 1 < w1.heap.size + 1 := (by have := hb.size; simp at this; omega); have hz0 : w.heap.size < w1.heap.size := (by omega); have hz2 : w.heap.size + 1 < w1.heap.size := (by have := hb.size; simp at this; omega); have hcl := HCL.out _ hb))
  all_goals
    have y0 : w1.cell? ⟨w.heap.size, 0, none⟩ = some (.int .i64 0) := by simp [go_sem, c1]
    have y1 : w1.cell? ⟨w.heap.size, 1, none⟩ = some (.int .i64 0) := by simp [go_sem, c1]
    have y2 : w1.cell? ⟨w.heap.size, 2, none⟩ = some (.int .i64 0) := by simp [go_sem, c1]
    have HB2 := (two_ok w rpB (rpJ k)).trans (hb.mono (by simp; omega))
    refine bodyPost_ret (v := parI 8 k ((k : Int) + 1)) ?_ rfl ⟨rfl, ?_⟩
    · simp [results, Try.results42, go_sem, y0, y1, y2, parI] <;> omega
    · exact (((HB2.setCell (by simp) _).setCell (by simp) _).setCell (by simp) _)

end Go.Proofs.Ytpjcheelafegbaa

namespace Go.Proofs.Ytpjcheelafegbaa
open Go.RowKit
set_option linter.unusedVariables false

theorem sw_spf {a s : List Int} (ha : 0 < a.length) (h0 : spaceB (a.getD 0 0) = false) (hs : spaceB (s.getD 0 0) = true) : sw a s = false := by
  cases h : sw a s
  · rfl
  · rw [sw_get h 0 ha, h0] at hs; cases hs
theorem sw_37 {a s : List Int} (ha : 0 < a.length) (h0 : a.getD 0 0 ≠ 37) (hs : s.getD 0 0 = 37) : sw a s = false := sw_no 0 ha (by rw [hs]; exact fun h => h0 h.symm)

theorem ritem_any {b off n cap : Nat} {l : List Int} {w : World} (R : RRow w b off n cap l) (hwf : ∀ j, -2147483648 ≤ l.getD j 0 ∧ l.getD j 0 ≤ 2147483647) (hn : n ≤ 1000) (k : Nat) (hk : k < n) {t : Nat × Nat} (ht : itP (l.drop k) = t) :
    Says 42 #[.slice (some ⟨b, off, none⟩) n cap, .int .i64 k] (parI t.1 k ((k : Int) + t.2)) w w := by
  have hl := R.len
  obtain ⟨z, hz⟩ : ∃ z, l.getD k 0 = z := ⟨_, rfl⟩
  have h0 : (l.drop k).getD 0 0 = z := by rw [← hz]; simp
  have hlen : (l.drop k).length = n - k := by rw [dropl, hl]
  have ht0 := ht
  unfold itP at ht
  rw [h0] at ht
  have hd4 : (l.drop k).drop 4 = l.drop (k + 4) := dd ..
  have hd2 : (l.drop k).drop 2 = l.drop (k + 2) := dd ..
  have hd1 : (l.drop k).drop 1 = l.drop (k + 1) := dd ..
  have hnsp : ∀ a : List Int, 0 < a.length → spaceB (a.getD 0 0) = false → sw a (l.drop k) = true → spaceB z = false := fun a ha hb hc => by
    cases hs : spaceB z
    · rfl
    · rw [sw_spf ha hb (by rw [h0]; exact hs)] at hc; cases hc
  cases hco : sw sCo (l.drop k)
  case true =>
    have hs := hnsp sCo (by decide) (by decide) hco
    have hde : sw sDe (l.drop k) = true := sw_of (by have := sw_length hco; simp [sCo] at this; simp [sDe]; omega) (fun j hj => by
      have hj2 : j < 2 := hj
      have h := sw_get hco j (by simp [sCo]; omega)
      rw [h]
      match j, hj2 with
      | 0, _ => rfl
      | 1, _ => rfl)
    have h4 : k + 4 ≤ n := by have := sw_length hco; rw [hlen] at this; simp [sCo] at this; omega
    rw [if_neg (by rw [hs]; decide), if_pos (by rw [hde]; rfl)] at ht
    unfold mtP mkP at ht
    rw [if_pos hco, if_pos hco, hd4] at ht
    cases hf : fnd sCc (l.drop (k + 4)) with
    | none => rw [hf] at ht; subst ht; exact ritm_co0 R hwf hn k hk z hz hco hf h4
    | some q =>
      rw [hf] at ht; subst ht
      have hq := (fnd_le _ _ _ hf).1
      rw [dropl, hl] at hq
      simp [sCc] at hq
      have := ritm_co1 R hwf hn k hk z hz hco q hf h4 (by omega)
      rwa [show (k : Int) + 4 + q + 3 = (k : Int) + ((q + 7 : Nat)) by omega] at this
  cases hpo : sw sPo (l.drop k)
  case true =>
    have hs := hnsp sPo (by decide) (by decide) hpo
    have h4 : k + 2 ≤ n := by have := sw_length hpo; rw [hlen] at this; simp [sPo] at this; omega
    rw [if_neg (by rw [hs]; decide), if_pos (by rw [hpo]; simp)] at ht
    unfold mtP mkP at ht
    simp only [hco, hpo, Bool.false_eq_true, if_false, if_true, hd2] at ht
    cases hf : fnd sPc (l.drop (k + 2)) with
    | none => rw [hf] at ht; subst ht; exact ritm_po0 R hwf hn k hk z hz hco hpo hf h4
    | some q =>
      rw [hf] at ht; subst ht
      have hq := (fnd_le _ _ _ hf).1
      rw [dropl, hl] at hq
      simp [sPc] at hq
      have := ritm_po1 R hwf hn k hk z hz hco hpo q hf h4 (by omega)
      rwa [show (k : Int) + 2 + q + 2 = (k : Int) + ((q + 4 : Nat)) by omega] at this
  cases hde : sw sDe (l.drop k)
  case true =>
    have hs := hnsp sDe (by decide) (by decide) hde
    rw [if_neg (by rw [hs]; decide), if_pos (by rw [hde]; rfl)] at ht
    unfold mtP mkP at ht
    simp only [hco, hpo, Bool.false_eq_true, if_false] at ht
    cases hf : dcl 0 (l.drop k) with
    | none => rw [hf] at ht; subst ht; exact ritm_de0 R hwf hn k hk z hz hco hpo hde hf
    | some m =>
      rw [hf] at ht; subst ht
      have hq := dcl_le hf
      rw [hlen] at hq
      have := ritm_de1 R hwf hn k hk z hz hco hpo hde m hf hq.1 (by omega)
      rwa [show (k : Int) + m - 1 + 1 = (k : Int) + m by omega] at this
  rw [hde, hpo] at ht
  simp only [Bool.or_self, Bool.false_eq_true, if_false] at ht
  by_cases h37 : z = 37
  · have hs : spaceB z = false := by rw [h37]; decide
    have hpe : sw sPe (l.drop k) = true := by
      have := sw_one (z := 37) (l := l.drop k) (by omega)
      rw [h0] at this
      show sw [37] (l.drop k) = true
      rw [this]; exact decide_eq_true h37
    rw [if_neg (by rw [hs]; decide), hpe, hd1] at ht
    obtain ⟨q, hq⟩ : ∃ q, leadP (l.drop (k + 1)) = q := ⟨_, rfl⟩
    have hqn := leadP_le (l.drop (k + 1))
    rw [hq, dropl, hl] at hqn
    have hdq : (l.drop k).drop (1 + q) = l.drop (k + 1 + q) := by rw [dd]; congr 1; omega
    rw [hq, hdq] at ht
    by_cases hq0 : 0 < q
    · cases hsc : sw sSc (l.drop (k + 1 + q))
      · rw [hsc] at ht
        simp only [Bool.and_false, Bool.false_eq_true, if_false] at ht
        subst ht; exact ritm_pe2 R hwf hn k hk z hz hco hpo hde h37 q hq hq0 (by omega) hsc
      · rw [hsc, decide_eq_true hq0] at ht
        simp only [Bool.and_self, if_true] at ht
        subst ht
        have := ritm_pe1 R hwf hn k hk z hz hco hpo hde h37 q hq hq0 (by omega) hsc
        rwa [show (k : Int) + q + 2 = (k : Int) + ((q + 2 : Nat)) by omega] at this
    · obtain rfl : q = 0 := by omega
      simp only [Nat.lt_irrefl, decide_false, Bool.false_and, Bool.and_false, Bool.false_eq_true, if_false] at ht
      subst ht; exact ritm_pe0 R hwf hn k hk z hz hco hpo hde h37 hq
  · have hpe : sw sPe (l.drop k) = false := by
      have := sw_one (z := 37) (l := l.drop k) (by omega)
      rw [h0] at this
      show sw [37] (l.drop k) = false
      rw [this]; exact decide_eq_false h37
    rw [hpe] at ht
    simp only [Bool.false_and, Bool.false_eq_true, if_false] at ht
    cases hs : spaceB z
    · rw [hs] at ht
      simp only [Bool.false_eq_true, if_false] at ht
      subst ht; exact ritm_j R hwf hn k hk z hz hco hpo hde h37 hs
    · rw [if_pos hs] at ht
      subst ht
      exact ritm_sp R hwf hn k hk z hz hco hpo hde h37 hs _ (by unfold wdP; rw [h0, if_pos hs])
theorem ritemB {b off n cap : Nat} {l : List Int} {W : World} (R : RRow W b off n cap l) (hwf : ∀ j, -2147483648 ≤ l.getD j 0 ∧ l.getD j 0 ≤ 2147483647) (hn : n ≤ 1000) (k : Nat) (hk : k < n) {t : Nat × Nat} (ht : itP (l.drop k) = t) (w : World) (hb : Below W.heap.size W w) :
    Says 42 #[.slice (some ⟨b, off, none⟩) n cap, .int .i64 k] (parI t.1 k ((k : Int) + t.2)) W w :=
  (ritem_any (R.below hb) hwf hn k hk ht).mono fun e w' ⟨he, hw⟩ => ⟨he, Below.more hb hw⟩

/-- Behind what is passed over; -1: it does not end. -/
def pasV (k : Nat) (o : Option Nat) : Int := match o with | some m => (k : Int) + m | none => -1
set_option maxRecDepth 20000 in
set_option maxHeartbeats 2000000 in
theorem rpas_o {b off n cap : Nat} {l : List Int} {w : World} (R : RRow w b off n cap l) (hwf : ∀ j, -2147483648 ≤ l.getD j 0 ∧ l.getD j 0 ≤ 2147483647) (hn : n ≤ 1000) (k : Nat) (hk : k < n) (z : Int) (hz : l.getD k 0 = z) (h60 : ¬ z = 60) :
    Says 65 #[.slice (some ⟨b, off, none⟩) n cap, .int .i64 k] (.int .i64 ((k : Int) + 1)) w w := by
  have hm := R.max
  have hc := R.le
  unfold maxLen at hm
  have hcl := rcell R k hk hz
  have R0 := R
  have q1 : (z != 60) = true := by simpa using h60
  have hb : Below w.heap.size w w := Below.refl _ _
  have tk0 : True := trivial
  clear R R0 hz hwf
  go_enter Try.func65, Try.ntmps65
  go_wp2
  go_ret
  exact ⟨ret_num (by omega), hb⟩

set_option maxRecDepth 20000 in
set_option maxHeartbeats 2000000 in
theorem rpas_co1 {b off n cap : Nat} {l : List Int} {w : World} (R : RRow w b off n cap l) (hwf : ∀ j, -2147483648 ≤ l.getD j 0 ∧ l.getD j 0 ≤ 2147483647) (hn : n ≤ 1000) (k : Nat) (hk : k < n) (z : Int) (hz : l.getD k 0 = z) (h60 : z = 60) (hco : sw sCo (l.drop k) = true) (q : Nat) (hq : fnd sCc (l.drop (k + 4)) = some q) (hk4 : k + 4 ≤ n) (hqn : k + 4 + q + 3 ≤ n) :
    Says 65 #[.slice (some ⟨b, off, none⟩) n cap, .int .i64 k] (.int .i64 ((k : Int) + 4 + q + 3)) w w := by
  have hm := R.max
  have hc := R.le
  unfold maxLen at hm
  have hcl := rcell R k hk hz
  have R0 := R
  have H1 := Lib.hid (refStartsB R0 hwf sCoS k (by omega) (v := true) hco)
  have H2 := Lib.hid (refFindB R0 hwf hn sCcS (k + 4) hk4 hq)
  (try simp only [Int.natCast_add, Int.cast_ofNat_Int] at H1 H2)
  subst h60
  (try simp only [fndV, Int.natCast_add, Int.cast_ofNat_Int] at H2)
  have i1 : (0 : Int) ≤ (k : Int) + 4 + q := by omega
  have hb : Below w.heap.size w w := Below.refl _ _
  have tk0 : True := trivial
  clear R R0 hz hwf hco hq
  go_enter Try.func65, Try.ntmps65
  go_wp2_with (first
    | (go_at_call 37; (have _t := tk0); (with_reducible refine (H1.out _ hb).mono ?_); rintro e w1 ⟨rfl, hb1⟩; clear tk0 _t; have tk1 : True := trivial; replace hb := hb1; clear hb1)
    | (go_at_call 69; (have _t := tk1); (with_reducible refine (H2.out _ hb).mono ?_); rintro e w1 ⟨rfl, hb1⟩; clear tk1 _t; have tk2 : True := trivial; replace hb := hb1; clear hb1))
  go_ret
  exact ⟨ret_num (by omega), hb⟩

set_option maxRecDepth 20000 in
set_option maxHeartbeats 2000000 in
theorem rpas_co0 {b off n cap : Nat} {l : List Int} {w : World} (R : RRow w b off n cap l) (hwf : ∀ j, -2147483648 ≤ l.getD j 0 ∧ l.getD j 0 ≤ 2147483647) (hn : n ≤ 1000) (k : Nat) (hk : k < n) (z : Int) (hz : l.getD k 0 = z) (h60 : z = 60) (hco : sw sCo (l.drop k) = true) (hq : fnd sCc (l.drop (k + 4)) = none) (hk4 : k + 4 ≤ n) :
    Says 65 #[.slice (some ⟨b, off, none⟩) n cap, .int .i64 k] (.int .i64 (-1)) w w := by
  have hm := R.max
  have hc := R.le
  unfold maxLen at hm
  have hcl := rcell R k hk hz
  have R0 := R
  have H1 := Lib.hid (refStartsB R0 hwf sCoS k (by omega) (v := true) hco)
  have H2 := Lib.hid (refFindB R0 hwf hn sCcS (k + 4) hk4 hq)
  (try simp only [Int.natCast_add, Int.cast_ofNat_Int] at H1 H2)
  subst h60
  (try simp only [fndV] at H2)
  have hb : Below w.heap.size w w := Below.refl _ _
  have tk0 : True := trivial
  clear R R0 hz hwf hco hq
  go_enter Try.func65, Try.ntmps65
  go_wp2_with (first
    | (go_at_call 37; (have _t := tk0); (with_reducible refine (H1.out _ hb).mono ?_); rintro e w1 ⟨rfl, hb1⟩; clear tk0 _t; have tk1 : True := trivial; replace hb := hb1; clear hb1)
    | (go_at_call 69; (have _t := tk1); (with_reducible refine (H2.out _ hb).mono ?_); rintro e w1 ⟨rfl, hb1⟩; clear tk1 _t; have tk2 : True := trivial; replace hb := hb1; clear hb1))
  go_ret
  exact ⟨ret_num (by omega), hb⟩

set_option maxRecDepth 20000 in
set_option maxHeartbeats 2000000 in
theorem rpas_po1 {b off n cap : Nat} {l : List Int} {w : World} (R : RRow w b off n cap l) (hwf : ∀ j, -2147483648 ≤ l.getD j 0 ∧ l.getD j 0 ≤ 2147483647) (hn : n ≤ 1000) (k : Nat) (hk : k < n) (z : Int) (hz : l.getD k 0 = z) (h60 : z = 60) (hco : sw sCo (l.drop k) = false) (hpo : sw sPo (l.drop k) = true) (q : Nat) (hq : fnd sPc (l.drop (k + 2)) = some q) (hk4 : k + 2 ≤ n) (hqn : k + 2 + q + 2 ≤ n) :
    Says 65 #[.slice (some ⟨b, off, none⟩) n cap, .int .i64 k] (.int .i64 ((k : Int) + 2 + q + 2)) w w := by
  have hm := R.max
  have hc := R.le
  unfold maxLen at hm
  have hcl := rcell R k hk hz
  have R0 := R
  have H1 := Lib.hid (refStartsB R0 hwf sCoS k (by omega) (v := false) hco)
  have H2 := Lib.hid (refStartsB R0 hwf sPoS k (by omega) (v := true) hpo)
  have H3 := Lib.hid (refFindB R0 hwf hn sPcS (k + 2) hk4 hq)
  (try simp only [Int.natCast_add, Int.cast_ofNat_Int] at H1 H2 H3)
  subst h60
  (try simp only [fndV, Int.natCast_add, Int.cast_ofNat_Int] at H3)
  have i1 : (0 : Int) ≤ (k : Int) + 2 + q := by omega
  have hb : Below w.heap.size w w := Below.refl _ _
  have tk0 : True := trivial
  clear R R0 hz hwf hco hpo hq
  go_enter Try.func65, Try.ntmps65
  go_wp2_with (first
    | (go_at_call 37; (have _t := tk0); (with_reducible refine (H1.out _ hb).mono ?_); rintro e w1 ⟨rfl, hb1⟩; clear tk0 _t; have tk1 : True := trivial; replace hb := hb1; clear hb1)
    | (go_at_call 37; (have _t := tk1); (with_reducible refine (H2.out _ hb).mono ?_); rintro e w1 ⟨rfl, hb1⟩; clear tk1 _t; have tk2 : True := trivial; replace hb := hb1; clear hb1)
    | (go_at_call 69; (have _t := tk2); (with_reducible refine (H3.out _ hb).mono ?_); rintro e w1 ⟨rfl, hb1⟩; clear tk2 _t; have tk3 : True := trivial; replace hb := hb1; clear hb1))
  go_ret
  exact ⟨ret_num (by omega), hb⟩

set_option maxRecDepth 20000 in
set_option maxHeartbeats 2000000 in
theorem rpas_po0 {b off n cap : Nat} {l : List Int} {w : World} (R : RRow w b off n cap l) (hwf : ∀ j, -2147483648 ≤ l.getD j 0 ∧ l.getD j 0 ≤ 2147483647) (hn : n ≤ 1000) (k : Nat) (hk : k < n) (z : Int) (hz : l.getD k 0 = z) (h60 : z = 60) (hco : sw sCo (l.drop k) = false) (hpo : sw sPo (l.drop k) = true) (hq : fnd sPc (l.drop (k + 2)) = none) (hk4 : k + 2 ≤ n) :
    Says 65 #[.slice (some ⟨b, off, none⟩) n cap, .int .i64 k] (.int .i64 (-1)) w w := by
  have hm := R.max
  have hc := R.le
  unfold maxLen at hm
  have hcl := rcell R k hk hz
  have R0 := R
  have H1 := Lib.hid (refStartsB R0 hwf sCoS k (by omega) (v := false) hco)
  have H2 := Lib.hid (refStartsB R0 hwf sPoS k (by omega) (v := true) hpo)
  have H3 := Lib.hid (refFindB R0 hwf hn sPcS (k + 2) hk4 hq)
  (try simp only [Int.natCast_add, Int.cast_ofNat_Int] at H1 H2 H3)
  subst h60
  (try simp only [fndV] at H3)
  have hb : Below w.heap.size w w := Below.refl _ _
  have tk0 : True := trivial
  clear R R0 hz hwf hco hpo hq
  go_enter Try.func65, Try.ntmps65
  go_wp2_with (first
    | (go_at_call 37; (have _t := tk0); (with_reducible refine (H1.out _ hb).mono ?_); rintro e w1 ⟨rfl, hb1⟩; clear tk0 _t; have tk1 : True := trivial; replace hb := hb1; clear hb1)
    | (go_at_call 37; (have _t := tk1); (with_reducible refine (H2.out _ hb).mono ?_); rintro e w1 ⟨rfl, hb1⟩; clear tk1 _t; have tk2 : True := trivial; replace hb := hb1; clear hb1)
    | (go_at_call 69; (have _t := tk2); (with_reducible refine (H3.out _ hb).mono ?_); rintro e w1 ⟨rfl, hb1⟩; clear tk2 _t; have tk3 : True := trivial; replace hb := hb1; clear hb1))
  go_ret
  exact ⟨ret_num (by omega), hb⟩

set_option maxRecDepth 20000 in
set_option maxHeartbeats 2000000 in
theorem rpas_de1 {b off n cap : Nat} {l : List Int} {w : World} (R : RRow w b off n cap l) (hwf : ∀ j, -2147483648 ≤ l.getD j 0 ∧ l.getD j 0 ≤ 2147483647) (hn : n ≤ 1000) (k : Nat) (hk : k < n) (z : Int) (hz : l.getD k 0 = z) (h60 : z = 60) (hco : sw sCo (l.drop k) = false) (hpo : sw sPo (l.drop k) = false) (m : Nat) (hq : dcl 0 (l.drop k) = some m) (hm0 : 0 < m) (hqn : k + m ≤ n) :
    Says 65 #[.slice (some ⟨b, off, none⟩) n cap, .int .i64 k] (.int .i64 ((k : Int) + m - 1 + 1)) w w := by
  have hm := R.max
  have hc := R.le
  unfold maxLen at hm
  have hcl := rcell R k hk hz
  have R0 := R
  have H1 := Lib.hid (refStartsB R0 hwf sCoS k (by omega) (v := false) hco)
  have H2 := Lib.hid (refStartsB R0 hwf sPoS k (by omega) (v := false) hpo)
  have H3 := Lib.hid (bracketB R0 hn k (by omega) hq)
  (try simp only [Int.natCast_add, Int.cast_ofNat_Int] at H1 H2 H3)
  subst h60
  (try simp only [brkV] at H3)
  have i1 : (0 : Int) ≤ (k : Int) + m - 1 := by omega
  have hb : Below w.heap.size w w := Below.refl _ _
  have tk0 : True := trivial
  clear R R0 hz hwf hco hpo hq
  go_enter Try.func65, Try.ntmps65
  go_wp2_with (first
    | (go_at_call 37; (have _t := tk0); (with_reducible refine (H1.out _ hb).mono ?_); rintro e w1 ⟨rfl, hb1⟩; clear tk0 _t; have tk1 : True := trivial; replace hb := hb1; clear hb1)
    | (go_at_call 37; (have _t := tk1); (with_reducible refine (H2.out _ hb).mono ?_); rintro e w1 ⟨rfl, hb1⟩; clear tk1 _t; have tk2 : True := trivial; replace hb := hb1; clear hb1)
    | (go_at_call 70; (have _t := tk2); (with_reducible refine (H3.out _ hb).mono ?_); rintro e w1 ⟨rfl, hb1⟩; clear tk2 _t; have tk3 : True := trivial; replace hb := hb1; clear hb1))
  go_ret
  exact ⟨ret_num (by omega), hb⟩

set_option maxRecDepth 20000 in
set_option maxHeartbeats 2000000 in
theorem rpas_de0 {b off n cap : Nat} {l : List Int} {w : World} (R : RRow w b off n cap l) (hwf : ∀ j, -2147483648 ≤ l.getD j 0 ∧ l.getD j 0 ≤ 2147483647) (hn : n ≤ 1000) (k : Nat) (hk : k < n) (z : Int) (hz : l.getD k 0 = z) (h60 : z = 60) (hco : sw sCo (l.drop k) = false) (hpo : sw sPo (l.drop k) = false) (hq : dcl 0 (l.drop k) = none) :
    Says 65 #[.slice (some ⟨b, off, none⟩) n cap, .int .i64 k] (.int .i64 (-1)) w w := by
  have hm := R.max
  have hc := R.le
  unfold maxLen at hm
  have hcl := rcell R k hk hz
  have R0 := R
  have H1 := Lib.hid (refStartsB R0 hwf sCoS k (by omega) (v := false) hco)
  have H2 := Lib.hid (refStartsB R0 hwf sPoS k (by omega) (v := false) hpo)
  have H3 := Lib.hid (bracketB R0 hn k (by omega) hq)
  (try simp only [Int.natCast_add, Int.cast_ofNat_Int] at H1 H2 H3)
  subst h60
  (try simp only [brkV] at H3)
  have hb : Below w.heap.size w w := Below.refl _ _
  have tk0 : True := trivial
  clear R R0 hz hwf hco hpo hq
  go_enter Try.func65, Try.ntmps65
  go_wp2_with (first
    | (go_at_call 37; (have _t := tk0); (with_reducible refine (H1.out _ hb).mono ?_); rintro e w1 ⟨rfl, hb1⟩; clear tk0 _t; have tk1 : True := trivial; replace hb := hb1; clear hb1)
    | (go_at_call 37; (have _t := tk1); (with_reducible refine (H2.out _ hb).mono ?_); rintro e w1 ⟨rfl, hb1⟩; clear tk1 _t; have tk2 : True := trivial; replace hb := hb1; clear hb1)
    | (go_at_call 70; (have _t := tk2); (with_reducible refine (H3.out _ hb).mono ?_); rintro e w1 ⟨rfl, hb1⟩; clear tk2 _t; have tk3 : True := trivial; replace hb := hb1; clear hb1))
  go_ret
  exact ⟨ret_num (by omega), hb⟩

theorem rpassed_any {b off n cap : Nat} {l : List Int} {w : World} (R : RRow w b off n cap l) (hwf : ∀ j, -2147483648 ≤ l.getD j 0 ∧ l.getD j 0 ≤ 2147483647) (hn : n ≤ 1000) (k : Nat) (hk : k < n) (h60 : l.getD k 0 = 60) {o : Option Nat} (ho : mtP (l.drop k) = o) :
    Says 65 #[.slice (some ⟨b, off, none⟩) n cap, .int .i64 k] (.int .i64 (pasV k o)) w w := by
  have hl := R.len
  have hlen : (l.drop k).length = n - k := by rw [dropl, hl]
  have hd4 : (l.drop k).drop 4 = l.drop (k + 4) := dd ..
  have hd2 : (l.drop k).drop 2 = l.drop (k + 2) := dd ..
  unfold mtP at ho
  rw [hd4, hd2] at ho
  cases hco : sw sCo (l.drop k)
  case true =>
    have h4 : k + 4 ≤ n := by have := sw_length hco; rw [hlen] at this; simp [sCo] at this; omega
    rw [if_pos hco] at ho
    cases hf : fnd sCc (l.drop (k + 4)) with
    | none => rw [hf] at ho; subst ho; exact rpas_co0 R hwf hn k hk 60 h60 rfl hco hf h4
    | some q =>
      rw [hf] at ho; subst ho
      have hq := (fnd_le _ _ _ hf).1
      rw [dropl, hl] at hq
      simp [sCc] at hq
      have := rpas_co1 R hwf hn k hk 60 h60 rfl hco q hf h4 (by omega)
      rwa [show (k : Int) + 4 + q + 3 = pasV k (some (q + 7)) by unfold pasV; simp only; omega] at this
  rw [if_neg (by rw [hco]; decide)] at ho
  cases hpo : sw sPo (l.drop k)
  case true =>
    have h4 : k + 2 ≤ n := by have := sw_length hpo; rw [hlen] at this; simp [sPo] at this; omega
    rw [if_pos hpo] at ho
    cases hf : fnd sPc (l.drop (k + 2)) with
    | none => rw [hf] at ho; subst ho; exact rpas_po0 R hwf hn k hk 60 h60 rfl hco hpo hf h4
    | some q =>
      rw [hf] at ho; subst ho
      have hq := (fnd_le _ _ _ hf).1
      rw [dropl, hl] at hq
      simp [sPc] at hq
      have := rpas_po1 R hwf hn k hk 60 h60 rfl hco hpo q hf h4 (by omega)
      rwa [show (k : Int) + 2 + q + 2 = pasV k (some (q + 4)) by unfold pasV; simp only; omega] at this
  rw [if_neg (by rw [hpo]; decide)] at ho
  cases o with
  | none => exact rpas_de0 R hwf hn k hk 60 h60 rfl hco hpo ho
  | some m =>
    have hq := dcl_le ho
    rw [hlen] at hq
    have := rpas_de1 R hwf hn k hk 60 h60 rfl hco hpo m ho hq.1 (by omega)
    rwa [show (k : Int) + m - 1 + 1 = pasV k (some m) by unfold pasV; simp only; omega] at this

theorem sbF_fuel : ∀ (f g : Nat) (s : List Int), s.length ≤ f → s.length ≤ g → sbF f s = sbF g s := by
  intro f
  induction f with
  | zero => intro g s h _; cases s with | nil => rw [sbF_nil, sbF_nil] | cons r s => simp at h
  | succ f ih =>
    intro g s h hg
    cases s with
    | nil => rw [sbF_nil, sbF_nil]
    | cons r s =>
      cases g with
      | zero => simp at hg
      | succ g =>
        simp only [List.length_cons] at h hg
        rw [sbF, sbF]
        split
        · rfl
        · split
          · cases hm : mtP (r :: s) with
            | none => rfl
            | some m =>
              have h2 := mtP_le hm
              simp only
              rw [ih g _ (by rw [dropl, List.length_cons]; omega) (by rw [dropl, List.length_cons]; omega)]
          · rw [ih g s (by omega) (by omega)]

set_option maxRecDepth 20000 in
set_option maxHeartbeats 2000000 in
theorem rclosing_any {b off n cap : Nat} {l : List Int} {w : World} (R : RRow w b off n cap l) (hwf : ∀ j, -2147483648 ≤ l.getD j 0 ∧ l.getD j 0 ≤ 2147483647) (hn : n ≤ 1000) (k : Nat) (hk : k ≤ n) :
    Says 39 #[.slice (some ⟨b, off, none⟩) n cap, .int .i64 k] (.int .i64 ((k : Int) + sbP (l.drop k))) w w := by
  have hm := R.max
  have hc := R.le
  unfold maxLen at hm
  have HR := Lib.hid (fun w' hb => R.below (w' := w') hb)
  have HW := Lib.hid hwf
  have HN := Lib.hid R.len
  obtain ⟨e, he⟩ : ∃ e, e = k + sbP (l.drop k) := ⟨_, rfl⟩
  have HE := Lib.hid (show k + sbF (n - k) (l.drop k) = e by rw [he]; unfold sbP; rw [dropl, R.len])
  have hen : e ≤ n := by have := sbP_le (l.drop k); rw [dropl, R.len] at this; omega
  have HRET := Lib.hid (show (k : Int) + sbP (l.drop k) = (e : Int) by omega)
  rw [HRET.out]
  clear R hwf he HRET
  go_enter Try.func39, Try.ntmps39
  go_wp2
  go_loopw [1] (fun iv wr => ∃ (v : Int), iv = .int .i64 v ∧ Hid (Below w.heap.size w wr) ∧ ((v = -1 ∧ e = n) ∨ ∃ i fu : Nat, v = i ∧ i ≤ n ∧ Hid (n - i ≤ fu) ∧ Hid (i + sbF fu (l.drop i) = e))) (fun iv _ => match iv with | .int _ v => if v < 0 then 0 else n + 1 - v.toNat | _ => 0)
  case atStart => exact ⟨k, rfl, Lib.hid (Below.refl _ _), .inr ⟨k, n - k, rfl, hk, Lib.hid (Nat.le_refl _), HE⟩⟩
  case round =>
    obtain ⟨v, rfl, HBL, hv⟩ := hrel
    rcases hv with ⟨rfl, hen2⟩ | ⟨i, fu, rfl, hin, HFU, HS⟩
    · have HEN := Lib.hid hen2
      clear hen2
      go_wp2
      go_ret
      exact ⟨ret_num (by have := HEN.out; omega), HBL.out⟩
    · by_cases hlt : i < n
      · have hcl := rcell (HR.out _ HBL.out) i hlt rfl
        obtain ⟨z, hz⟩ : ∃ z, l.getD i 0 = z := ⟨_, rfl⟩
        rw [hz] at hcl
        have hdr : l.drop i = z :: l.drop (i + 1) := by rw [drop_cons (by rw [HN.out]; exact hlt), hz]
        obtain ⟨fu, rfl⟩ : ∃ f', fu = f' + 1 := ⟨fu - 1, by have := HFU.out; omega⟩
        by_cases h93 : z = 93
        · have HF := Lib.hid (show i = e by have := HS.out; rw [hdr, sbF, if_pos h93] at this; exact this)
          subst h93
          clear hz hdr
          go_wp2
          go_ret
          exact ⟨ret_num (by have := HF.out; omega), HBL.out⟩
        · have q93 : (z != 93) = true := by simpa using h93
          by_cases h60 : z = 60
          · have hs := HS.out
            rw [hdr, sbF, if_neg h93, if_pos h60, ← hdr] at hs
            cases hmt : mtP (l.drop i) with
            | none =>
              rw [hmt, dropl, HN.out] at hs
              simp only at hs
              have hne : e = n := by omega
              have HC := Lib.hid (rpassed_any (HR.out _ HBL.out) HW.out hn i hlt (by rw [hz]; exact h60) hmt)
              (try simp only [pasV] at HC)
              clear hz hdr hs hmt
              go_wp2_with (go_at_call 65; (with_reducible refine HC.out.mono ?_); rintro e w1 ⟨rfl, hb1⟩)
              have HB1 := Lib.hid (Below.more HBL.out hb1)
              clear hb1
              go_roundw
              case rel => exact ⟨-1, rfl, HB1, .inl ⟨rfl, hne⟩⟩
              case measure => (simp; (repeat' split) <;> omega)
            | some m =>
              rw [hmt] at hs
              simp only at hs
              have hm2 := mtP_le hmt
              rw [dropl, HN.out] at hm2
              rw [dd] at hs
              have HC := Lib.hid (rpassed_any (HR.out _ HBL.out) HW.out hn i hlt (by rw [hz]; exact h60) hmt)
              (try simp only [pasV] at HC)
              have HS2 := Lib.hid (show (i + m) + sbF fu (l.drop (i + m)) = e by omega)
              clear hz hdr hs hmt
              go_wp2_with (go_at_call 65; (with_reducible refine HC.out.mono ?_); rintro e w1 ⟨rfl, hb1⟩)
              have HB1 := Lib.hid (Below.more HBL.out hb1)
              clear hb1
              go_roundw
              case rel => exact ⟨_, rfl, HB1, .inr ⟨i + m, fu, by omega, by omega, Lib.hid (by have := HFU.out; omega), HS2⟩⟩
              case measure => (simp; (repeat' split) <;> omega)
          · have HC := Lib.hid (rpas_o (HR.out _ HBL.out) HW.out hn i hlt z hz h60)
            have HS2 := Lib.hid (show (i + 1) + sbF fu (l.drop (i + 1)) = e by have := HS.out; rw [hdr, sbF, if_neg h93, if_neg h60] at this; omega)
            clear hz hdr
            go_wp2_with (go_at_call 65; (with_reducible refine HC.out.mono ?_); rintro e w1 ⟨rfl, hb1⟩)
            have HB1 := Lib.hid (Below.more HBL.out hb1)
            clear hb1
            go_roundw
            case rel => exact ⟨_, rfl, HB1, .inr ⟨i + 1, fu, by omega, by omega, Lib.hid (by have := HFU.out; omega), HS2⟩⟩
            case measure => (simp; (repeat' split) <;> omega)
      · obtain rfl : i = n := by omega
        have HF := Lib.hid (show i = e by have := HS.out; rw [List.drop_eq_nil_of_le (by rw [HN.out]; exact Nat.le_refl _), sbF_nil] at this; exact this)
        clear hlt
        go_wp2
        go_ret
        exact ⟨ret_num (by have := HF.out; omega), HBL.out⟩

end Go.Proofs.Ytpjcheelafegbaa
