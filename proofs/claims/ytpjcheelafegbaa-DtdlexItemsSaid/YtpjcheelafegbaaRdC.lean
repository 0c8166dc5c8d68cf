/-
  Contracts of the reference's layer 9: item.
-/
import Derived.Test.YtpjcheelafegbaaRdB
import Derived.Test.YtpjcheelafegbaaDxM
namespace Go.Proofs.Ytpjcheelafegbaa
open Go.RowKit
set_option linter.unusedVariables false

set_option maxRecDepth 20000 in
set_option maxHeartbeats 2000000 in
theorem ritm_co1 {b off n cap : Nat} {l : List Int} {w : World} (R : RRow w b off n cap l) (hwf : ∀ j, -2147483648 ≤ l.getD j 0 ∧ l.getD j 0 ≤ 2147483647) (hn : n ≤ 1000) (k : Nat) (hk : k < n) (z : Int) (hz : l.getD k 0 = z) (hco : sw sCo (l.drop k) = true) (q : Nat) (hq : fnd sCc (l.drop (k + 4)) = some q) (hk4 : k + 4 ≤ n) (hqn : k + 4 + q + 3 ≤ n) :
    Says 42 #[.slice (some ⟨b, off, none⟩) n cap, .int .i64 k] (parI 12 k ((k : Int) + 4 + q + 3)) w w := by
  have hm := R.max
  have hc := R.le
  unfold maxLen at hm
  have hcl := rcell R k hk hz
  have hblt := cell_lt hcl
  have hbn : ¬ b = w.heap.size := by omega
  have hbn2 : ¬ b = w.heap.size + 1 := by omega
  have hblt2 : b < w.heap.size + 1 := by omega
  have R0 := R.below (two_ok w rpB (rpJ k))
  have HCL := Lib.hid (fun (w' : World) (hb : Below ((w.alloc rpB).alloc (rpJ k)).heap.size ((w.alloc rpB).alloc (rpJ k)) w') => rcell (R0.below hb) k hk hz)
  have H1 := Lib.hid (refStartsB R0 hwf sCoS k (by omega) (v := true) hco)
  have H2 := Lib.hid (refFindB R0 hwf hn sCcS (k + 4) hk4 hq)
  (try simp only [Int.natCast_add, Int.cast_ofNat_Int] at H1 H2)
  (try simp only [fndV, Int.natCast_add, Int.cast_ofNat_Int] at H2)
  have i1 : (0 : Int) ≤ (k : Int) + 4 + q := by omega
  have hb : Below ((w.alloc rpB).alloc (rpJ k)).heap.size ((w.alloc rpB).alloc (rpJ k)) ((w.alloc rpB).alloc (rpJ k)) := Below.refl _ _
  have tk0 : True := trivial
  clear R R0 hz hwf hco hq
  go_enter Try.func42, Try.ntmps42
  go_wp2_with (first
    | (go_at_call 37; (have _t := tk0); (with_reducible refine (H1.out _ hb).mono ?_); rintro e w1 ⟨rfl, hb1⟩; clear tk0 _t; have tk1 : True := trivial; replace hb := hb1; clear hb1; (try clear c1 c2 hz0); obtain ⟨c1, c2⟩ := bcell hb; have hz1 : w.heap.size + 1 < w1.heap.size + 1 := (by have := hb.size; simp at this; omega); have hz0 : w.heap.size < w1.heap.size := (by omega); have hz2 : w.heap.size + 1 < w1.heap.size := (by have := hb.size; simp at this; omega); have hcl := HCL.out _ hb)
    | (go_at_call 69; (have _t := tk1); (with_reducible refine (H2.out _ hb).mono ?_); rintro e w1 ⟨rfl, hb1⟩; clear tk1 _t; have tk2 : True := trivial; replace hb := hb1; clear hb1; (try clear c1 c2 hz0); obtain ⟨c1, c2⟩ := bcell hb; have hz1 : w.heap.size + 1 < w1.heap.size + 1 := (by have := hb.size; simp at this; omega); have hz0 : w.heap.size < w1.heap.size := (by omega); have hz2 : w.heap.size + 1 < w1.heap.size := (by have := hb.size; simp at this; omega); have hcl := HCL.out _ hb))
  all_goals
    have y0 : w1.cell? ⟨w.heap.size, 0, none⟩ = some (.int .i64 0) := by simp [go_sem, c1]
    have y1 : w1.cell? ⟨w.heap.size, 1, none⟩ = some (.int .i64 0) := by simp [go_sem, c1]
    have y2 : w1.cell? ⟨w.heap.size, 2, none⟩ = some (.int .i64 0) := by simp [go_sem, c1]
    have HB2 := (two_ok w rpB (rpJ k)).trans (hb.mono (by simp; omega))
    refine bodyPost_ret (v := parI 12 k ((k : Int) + 4 + q + 3)) ?_ rfl ⟨rfl, ?_⟩
    · simp [results, Try.results42, go_sem, y0, y1, y2, parI] <;> omega
    · exact (((HB2.setCell (by simp) _).setCell (by simp) _).setCell (by simp) _)

set_option maxRecDepth 20000 in
set_option maxHeartbeats 2000000 in
theorem ritm_co0 {b off n cap : Nat} {l : List Int} {w : World} (R : RRow w b off n cap l) (hwf : ∀ j, -2147483648 ≤ l.getD j 0 ∧ l.getD j 0 ≤ 2147483647) (hn : n ≤ 1000) (k : Nat) (hk : k < n) (z : Int) (hz : l.getD k 0 = z) (hco : sw sCo (l.drop k) = true) (hq : fnd sCc (l.drop (k + 4)) = none) (hk4 : k + 4 ≤ n) :
    Says 42 #[.slice (some ⟨b, off, none⟩) n cap, .int .i64 k] (parI 8 k ((k : Int) + 1)) w w := by
  have hm := R.max
  have hc := R.le
  unfold maxLen at hm
  have hcl := rcell R k hk hz
  have hblt := cell_lt hcl
  have hbn : ¬ b = w.heap.size := by omega
  have hbn2 : ¬ b = w.heap.size + 1 := by omega
  have hblt2 : b < w.heap.size + 1 := by omega
  have R0 := R.below (two_ok w rpB (rpJ k))
  have HCL := Lib.hid (fun (w' : World) (hb : Below ((w.alloc rpB).alloc (rpJ k)).heap.size ((w.alloc rpB).alloc (rpJ k)) w') => rcell (R0.below hb) k hk hz)
  have H1 := Lib.hid (refStartsB R0 hwf sCoS k (by omega) (v := true) hco)
  have H2 := Lib.hid (refFindB R0 hwf hn sCcS (k + 4) hk4 hq)
  (try simp only [Int.natCast_add, Int.cast_ofNat_Int] at H1 H2)
  (try simp only [fndV] at H2)
  have hb : Below ((w.alloc rpB).alloc (rpJ k)).heap.size ((w.alloc rpB).alloc (rpJ k)) ((w.alloc rpB).alloc (rpJ k)) := Below.refl _ _
  have tk0 : True := trivial
  clear R R0 hz hwf hco hq
  go_enter Try.func42, Try.ntmps42
  go_wp2_with (first
    | (go_at_call 37; (have _t := tk0); (with_reducible refine (H1.out _ hb).mono ?_); rintro e w1 ⟨rfl, hb1⟩; clear tk0 _t; have tk1 : True := trivial; replace hb := hb1; clear hb1; (try clear c1 c2 hz0); obtain ⟨c1, c2⟩ := bcell hb; have hz1 : w.heap.size + 1 < w1.heap.size + 1 := (by have := hb.size; simp at this; omega); have hz0 : w.heap.size < w1.heap.size := (by omega); have hz2 : w.heap.size + 1 < w1.heap.size := (by have := hb.size; simp at this; omega); have hcl := HCL.out _ hb)
    | (go_at_call 69; (have _t := tk1); (with_reducible refine (H2.out _ hb).mono ?_); rintro e w1 ⟨rfl, hb1⟩; clear tk1 _t; have tk2 : True := trivial; replace hb := hb1; clear hb1; (try clear c1 c2 hz0); obtain ⟨c1, c2⟩ := bcell hb; have hz1 : w.heap.size + 1 < w1.heap.size + 1 := (by have := hb.size; simp at this; omega); have hz0 : w.heap.size < w1.heap.size := (by omega); have hz2 : w.heap.size + 1 < w1.heap.size := (by have := hb.size; simp at this; omega); have hcl := HCL.out _ hb))
  all_goals
    have y0 : w1.cell? ⟨w.heap.size, 0, none⟩ = some (.int .i64 0) := by simp [go_sem, c1]
    have y1 : w1.cell? ⟨w.heap.size, 1, none⟩ = some (.int .i64 0) := by simp [go_sem, c1]
    have y2 : w1.cell? ⟨w.heap.size, 2, none⟩ = some (.int .i64 0) := by simp [go_sem, c1]
    have HB2 := (two_ok w rpB (rpJ k)).trans (hb.mono (by simp; omega))
    refine bodyPost_ret (v := parI 8 k ((k : Int) + 1)) ?_ rfl ⟨rfl, ?_⟩
    · simp [results, Try.results42, go_sem, y0, y1, y2, parI] <;> omega
    · exact (((HB2.setCell (by simp) _).setCell (by simp) _).setCell (by simp) _)

set_option maxRecDepth 20000 in
set_option maxHeartbeats 2000000 in
theorem ritm_po1 {b off n cap : Nat} {l : List Int} {w : World} (R : RRow w b off n cap l) (hwf : ∀ j, -2147483648 ≤ l.getD j 0 ∧ l.getD j 0 ≤ 2147483647) (hn : n ≤ 1000) (k : Nat) (hk : k < n) (z : Int) (hz : l.getD k 0 = z) (hco : sw sCo (l.drop k) = false) (hpo : sw sPo (l.drop k) = true) (q : Nat) (hq : fnd sPc (l.drop (k + 2)) = some q) (hk4 : k + 2 ≤ n) (hqn : k + 2 + q + 2 ≤ n) :
    Says 42 #[.slice (some ⟨b, off, none⟩) n cap, .int .i64 k] (parI 13 k ((k : Int) + 2 + q + 2)) w w := by
  have hm := R.max
  have hc := R.le
  unfold maxLen at hm
  have hcl := rcell R k hk hz
  have hblt := cell_lt hcl
  have hbn : ¬ b = w.heap.size := by omega
  have hbn2 : ¬ b = w.heap.size + 1 := by omega
  have hblt2 : b < w.heap.size + 1 := by omega
  have R0 := R.below (two_ok w rpB (rpJ k))
  have HCL := Lib.hid (fun (w' : World) (hb : Below ((w.alloc rpB).alloc (rpJ k)).heap.size ((w.alloc rpB).alloc (rpJ k)) w') => rcell (R0.below hb) k hk hz)
  have H1 := Lib.hid (refStartsB R0 hwf sCoS k (by omega) (v := false) hco)
  have H2 := Lib.hid (refStartsB R0 hwf sPoS k (by omega) (v := true) hpo)
  have H3 := Lib.hid (refFindB R0 hwf hn sPcS (k + 2) hk4 hq)
  (try simp only [Int.natCast_add, Int.cast_ofNat_Int] at H1 H2 H3)
  (try simp only [fndV, Int.natCast_add, Int.cast_ofNat_Int] at H3)
  have i1 : (0 : Int) ≤ (k : Int) + 2 + q := by omega
  have hb : Below ((w.alloc rpB).alloc (rpJ k)).heap.size ((w.alloc rpB).alloc (rpJ k)) ((w.alloc rpB).alloc (rpJ k)) := Below.refl _ _
  have tk0 : True := trivial
  clear R R0 hz hwf hco hpo hq
  go_enter Try.func42, Try.ntmps42
  go_wp2_with (first
    | (go_at_call 37; (have _t := tk0); (with_reducible refine (H1.out _ hb).mono ?_); rintro e w1 ⟨rfl, hb1⟩; clear tk0 _t; have tk1 : True := trivial; replace hb := hb1; clear hb1; (try clear c1 c2 hz0); obtain ⟨c1, c2⟩ := bcell hb; have hz1 : w.heap.size + 1 < w1.heap.size + 1 := (by have := hb.size; simp at this; omega); have hz0 : w.heap.size < w1.heap.size := (by omega); have hz2 : w.heap.size + 1 < w1.heap.size := (by have := hb.size; simp at this; omega); have hcl := HCL.out _ hb)
    | (go_at_call 37; (have _t := tk1); (with_reducible refine (H2.out _ hb).mono ?_); rintro e w1 ⟨rfl, hb1⟩; clear tk1 _t; have tk2 : True := trivial; replace hb := hb1; clear hb1; (try clear c1 c2 hz0); obtain ⟨c1, c2⟩ := bcell hb; have hz1 : w.heap.size + 1 < w1.heap.size + 1 := (by have := hb.size; simp at this; omega); have hz0 : w.heap.size < w1.heap.size := (by omega); have hz2 : w.heap.size + 1 < w1.heap.size := (by have := hb.size; simp at this; omega); have hcl := HCL.out _ hb)
    | (go_at_call 69; (have _t := tk2); (with_reducible refine (H3.out _ hb).mono ?_); rintro e w1 ⟨rfl, hb1⟩; clear tk2 _t; have tk3 : True := trivial; replace hb := hb1; clear hb1; (try clear c1 c2 hz0); obtain ⟨c1, c2⟩ := bcell hb; have hz1 : w.heap.size + 1 < w1.heap.size + 1 := (by have := hb.size; simp at this; omega); have hz0 : w.heap.size < w1.heap.size := (by omega); have hz2 : w.heap.size + 1 < w1.heap.size := (by have := hb.size; simp at this; omega); have hcl := HCL.out _ hb))
  all_goals
    have y0 : w1.cell? ⟨w.heap.size, 0, none⟩ = some (.int .i64 0) := by simp [go_sem, c1]
    have y1 : w1.cell? ⟨w.heap.size, 1, none⟩ = some (.int .i64 0) := by simp [go_sem, c1]
    have y2 : w1.cell? ⟨w.heap.size, 2, none⟩ = some (.int .i64 0) := by simp [go_sem, c1]
    have HB2 := (two_ok w rpB (rpJ k)).trans (hb.mono (by simp; omega))
    refine bodyPost_ret (v := parI 13 k ((k : Int) + 2 + q + 2)) ?_ rfl ⟨rfl, ?_⟩
    · simp [results, Try.results42, go_sem, y0, y1, y2, parI] <;> omega
    · exact (((HB2.setCell (by simp) _).setCell (by simp) _).setCell (by simp) _)

set_option maxRecDepth 20000 in
set_option maxHeartbeats 2000000 in
theorem ritm_po0 {b off n cap : Nat} {l : List Int} {w : World} (R : RRow w b off n cap l) (hwf : ∀ j, -2147483648 ≤ l.getD j 0 ∧ l.getD j 0 ≤ 2147483647) (hn : n ≤ 1000) (k : Nat) (hk : k < n) (z : Int) (hz : l.getD k 0 = z) (hco : sw sCo (l.drop k) = false) (hpo : sw sPo (l.drop k) = true) (hq : fnd sPc (l.drop (k + 2)) = none) (hk4 : k + 2 ≤ n) :
    Says 42 #[.slice (some ⟨b, off, none⟩) n cap, .int .i64 k] (parI 8 k ((k : Int) + 1)) w w := by
  have hm := R.max
  have hc := R.le
  unfold maxLen at hm
  have hcl := rcell R k hk hz
  have hblt := cell_lt hcl
  have hbn : ¬ b = w.heap.size := by omega
  have hbn2 : ¬ b = w.heap.size + 1 := by omega
  have hblt2 : b < w.heap.size + 1 := by omega
  have R0 := R.below (two_ok w rpB (rpJ k))
  have HCL := Lib.hid (fun (w' : World) (hb : Below ((w.alloc rpB).alloc (rpJ k)).heap.size ((w.alloc rpB).alloc (rpJ k)) w') => rcell (R0.below hb) k hk hz)
  have H1 := Lib.hid (refStartsB R0 hwf sCoS k (by omega) (v := false) hco)
  have H2 := Lib.hid (refStartsB R0 hwf sPoS k (by omega) (v := true) hpo)
  have H3 := Lib.hid (refFindB R0 hwf hn sPcS (k + 2) hk4 hq)
  (try simp only [Int.natCast_add, Int.cast_ofNat_Int] at H1 H2 H3)
  (try simp only [fndV] at H3)
  have hb : Below ((w.alloc rpB).alloc (rpJ k)).heap.size ((w.alloc rpB).alloc (rpJ k)) ((w.alloc rpB).alloc (rpJ k)) := Below.refl _ _
  have tk0 : True := trivial
  clear R R0 hz hwf hco hpo hq
  go_enter Try.func42, Try.ntmps42
  go_wp2_with (first
    | (go_at_call 37; (have _t := tk0); (with_reducible refine (H1.out _ hb).mono ?_); rintro e w1 ⟨rfl, hb1⟩; clear tk0 _t; have tk1 : True := trivial; replace hb := hb1; clear hb1; (try clear c1 c2 hz0); obtain ⟨c1, c2⟩ := bcell hb; have hz1 : w.heap.size + 1 < w1.heap.size + 1 := (by have := hb.size; simp at this; omega); have hz0 : w.heap.size < w1.heap.size := (by omega); have hz2 : w.heap.size + 1 < w1.heap.size := (by have := hb.size; simp at this; omega); have hcl := HCL.out _ hb)
    | (go_at_call 37; (have _t := tk1); (with_reducible refine (H2.out _ hb).mono ?_); rintro e w1 ⟨rfl, hb1⟩; clear tk1 _t; have tk2 : True := trivial; replace hb := hb1; clear hb1; (try clear c1 c2 hz0); obtain ⟨c1, c2⟩ := bcell hb; have hz1 : w.heap.size + 1 < w1.heap.size + 1 := (by have := hb.size; simp at this; omega); have hz0 : w.heap.size < w1.heap.size := (by omega); have hz2 : w.heap.size + 1 < w1.heap.size := (by have := hb.size; simp at this; omega); have hcl := HCL.out _ hb)
    | (go_at_call 69; (have _t := tk2); (with_reducible refine (H3.out _ hb).mono ?_); rintro e w1 ⟨rfl, hb1⟩; clear tk2 _t; have tk3 : True := trivial; replace hb := hb1; clear hb1; (try clear c1 c2 hz0); obtain ⟨c1, c2⟩ := bcell hb; have hz1 : w.heap.size + 1 < w1.heap.size + 1 := (by have := hb.size; simp at this; omega); have hz0 : w.heap.size < w1.heap.size := (by omega); have hz2 : w.heap.size + 1 < w1.heap.size := (by have := hb.size; simp at this; omega); have hcl := HCL.out _ hb))
  all_goals
    have y0 : w1.cell? ⟨w.heap.size, 0, none⟩ = some (.int .i64 0) := by simp [go_sem, c1]
    have y1 : w1.cell? ⟨w.heap.size, 1, none⟩ = some (.int .i64 0) := by simp [go_sem, c1]
    have y2 : w1.cell? ⟨w.heap.size, 2, none⟩ = some (.int .i64 0) := by simp [go_sem, c1]
    have HB2 := (two_ok w rpB (rpJ k)).trans (hb.mono (by simp; omega))
    refine bodyPost_ret (v := parI 8 k ((k : Int) + 1)) ?_ rfl ⟨rfl, ?_⟩
    · simp [results, Try.results42, go_sem, y0, y1, y2, parI] <;> omega
    · exact (((HB2.setCell (by simp) _).setCell (by simp) _).setCell (by simp) _)

set_option maxRecDepth 20000 in
set_option maxHeartbeats 2000000 in
theorem ritm_de1 {b off n cap : Nat} {l : List Int} {w : World} (R : RRow w b off n cap l) (hwf : ∀ j, -2147483648 ≤ l.getD j 0 ∧ l.getD j 0 ≤ 2147483647) (hn : n ≤ 1000) (k : Nat) (hk : k < n) (z : Int) (hz : l.getD k 0 = z) (hco : sw sCo (l.drop k) = false) (hpo : sw sPo (l.drop k) = false) (hde : sw sDe (l.drop k) = true) (m : Nat) (hq : dcl 0 (l.drop k) = some m) (hm0 : 0 < m) (hqn : k + m ≤ n) :
    Says 42 #[.slice (some ⟨b, off, none⟩) n cap, .int .i64 k] (parI 11 k ((k : Int) + m - 1 + 1)) w w := by
  have hm := R.max
  have hc := R.le
  unfold maxLen at hm
  have hcl := rcell R k hk hz
  have hblt := cell_lt hcl
  have hbn : ¬ b = w.heap.size := by omega
  have hbn2 : ¬ b = w.heap.size + 1 := by omega
  have hblt2 : b < w.heap.size + 1 := by omega
  have R0 := R.below (two_ok w rpB (rpJ k))
  have HCL := Lib.hid (fun (w' : World) (hb : Below ((w.alloc rpB).alloc (rpJ k)).heap.size ((w.alloc rpB).alloc (rpJ k)) w') => rcell (R0.below hb) k hk hz)
  have H1 := Lib.hid (refStartsB R0 hwf sCoS k (by omega) (v := false) hco)
  have H2 := Lib.hid (refStartsB R0 hwf sPoS k (by omega) (v := false) hpo)
  have H3 := Lib.hid (refStartsB R0 hwf sDeS k (by omega) (v := true) hde)
  have H4 := Lib.hid (bracketB R0 hn k (by omega) hq)
  (try simp only [Int.natCast_add, Int.cast_ofNat_Int] at H1 H2 H3 H4)
  (try simp only [brkV] at H4)
  have i1 : (0 : Int) ≤ (k : Int) + m - 1 := by omega
  have hb : Below ((w.alloc rpB).alloc (rpJ k)).heap.size ((w.alloc rpB).alloc (rpJ k)) ((w.alloc rpB).alloc (rpJ k)) := Below.refl _ _
  have tk0 : True := trivial
  clear R R0 hz hwf hco hpo hde hq
  go_enter Try.func42, Try.ntmps42
  go_wp2_with (first
    | (go_at_call 37; (have _t := tk0); (with_reducible refine (H1.out _ hb).mono ?_); rintro e w1 ⟨rfl, hb1⟩; clear tk0 _t; have tk1 : True := trivial; replace hb := hb1; clear hb1; (try clear c1 c2 hz0); obtain ⟨c1, c2⟩ := bcell hb; have hz1 : w.heap.size + 1 < w1.heap.size + 1 := (by have := hb.size; simp at this; omega); have hz0 : w.heap.size < w1.heap.size := (by omega); have hz2 : w.heap.size + 1 < w1.heap.size := (by have := hb.size; simp at this; omega); have hcl := HCL.out _ hb)
    | (go_at_call 37; (have _t := tk1); (with_reducible refine (H2.out _ hb).mono ?_); rintro e w1 ⟨rfl, hb1⟩; clear tk1 _t; have tk2 : True := trivial; replace hb := hb1; clear hb1; (try clear c1 c2 hz0); obtain ⟨c1, c2⟩ := bcell hb; have hz1 : w.heap.size + 1 < w1.heap.size + 1 := (by have := hb.size; simp at this; omega); have hz0 : w.heap.size < w1.heap.size := (by omega); have hz2 : w.heap.size + 1 < w1.heap.size := (by have := hb.size; simp at this; omega); have hcl := HCL.out _ hb)
    | (go_at_call 37; (have _t := tk2); (with_reducible refine (H3.out _ hb).mono ?_); rintro e w1 ⟨rfl, hb1⟩; clear tk2 _t; have tk3 : True := trivial; replace hb := hb1; clear hb1; (try clear c1 c2 hz0); obtain ⟨c1, c2⟩ := bcell hb; have hz1 : w.heap.size + 1 < w1.heap.size + 1 := (by have := hb.size; simp at this; omega); have hz0 : w.heap.size < w1.heap.size := (by omega); have hz2 : w.heap.size + 1 < w1.heap.size := (by have := hb.size; simp at this; omega); have hcl := HCL.out _ hb)
    | (go_at_call 70; (have _t := tk3); (with_reducible refine (H4.out _ hb).mono ?_); rintro e w1 ⟨rfl, hb1⟩; clear tk3 _t; have tk4 : True := trivial; replace hb := hb1; clear hb1; (try clear c1 c2 hz0); obtain ⟨c1, c2⟩ := bcell hb; have hz1 : w.heap.size + 1 < w1.heap.size + 1 := (by have := hb.size; simp at this; omega); have hz0 : w.heap.size < w1.heap.size := (by omega); have hz2 : w.heap.size + 1 < w1.heap.size := (by have := hb.size; simp at this; omega); have hcl := HCL.out _ hb))
  all_goals
    have y0 : w1.cell? ⟨w.heap.size, 0, none⟩ = some (.int .i64 0) := by simp [go_sem, c1]
    have y1 : w1.cell? ⟨w.heap.size, 1, none⟩ = some (.int .i64 0) := by simp [go_sem, c1]
    have y2 : w1.cell? ⟨w.heap.size, 2, none⟩ = some (.int .i64 0) := by simp [go_sem, c1]
    have HB2 := (two_ok w rpB (rpJ k)).trans (hb.mono (by simp; omega))
    refine bodyPost_ret (v := parI 11 k ((k : Int) + m - 1 + 1)) ?_ rfl ⟨rfl, ?_⟩
    · simp [results, Try.results42, go_sem, y0, y1, y2, parI] <;> omega
    · exact (((HB2.setCell (by simp) _).setCell (by simp) _).setCell (by simp) _)

set_option maxRecDepth 20000 in
set_option maxHeartbeats 2000000 in
theorem ritm_de0 {b off n cap : Nat} {l : List Int} {w : World} (R : RRow w b off n cap l) (hwf : ∀ j, -2147483648 ≤ l.getD j 0 ∧ l.getD j 0 ≤ 2147483647) (hn : n ≤ 1000) (k : Nat) (hk : k < n) (z : Int) (hz : l.getD k 0 = z) (hco : sw sCo (l.drop k) = false) (hpo : sw sPo (l.drop k) = false) (hde : sw sDe (l.drop k) = true) (hq : dcl 0 (l.drop k) = none) :
    Says 42 #[.slice (some ⟨b, off, none⟩) n cap, .int .i64 k] (parI 8 k ((k : Int) + 1)) w w := by
  have hm := R.max
  have hc := R.le
  unfold maxLen at hm
  have hcl := rcell R k hk hz
  have hblt := cell_lt hcl
  have hbn : ¬ b = w.heap.size := by omega
  have hbn2 : ¬ b = w.heap.size + 1 := by omega
  have hblt2 : b < w.heap.size + 1 := by omega
  have R0 := R.below (two_ok w rpB (rpJ k))
  have HCL := Lib.hid (fun (w' : World) (hb : Below ((w.alloc rpB).alloc (rpJ k)).heap.size ((w.alloc rpB).alloc (rpJ k)) w') => rcell (R0.below hb) k hk hz)
  have H1 := Lib.hid (refStartsB R0 hwf sCoS k (by omega) (v := false) hco)
  have H2 := Lib.hid (refStartsB R0 hwf sPoS k (by omega) (v := false) hpo)
  have H3 := Lib.hid (refStartsB R0 hwf sDeS k (by omega) (v := true) hde)
  have H4 := Lib.hid (bracketB R0 hn k (by omega) hq)
  (try simp only [Int.natCast_add, Int.cast_ofNat_Int] at H1 H2 H3 H4)
  (try simp only [brkV] at H4)
  have hb : Below ((w.alloc rpB).alloc (rpJ k)).heap.size ((w.alloc rpB).alloc (rpJ k)) ((w.alloc rpB).alloc (rpJ k)) := Below.refl _ _
  have tk0 : True := trivial
  clear R R0 hz hwf hco hpo hde hq
  go_enter Try.func42, Try.ntmps42
  go_wp2_with (first
    | (go_at_call 37; (have _t := tk0); (with_reducible refine (H1.out _ hb).mono ?_); rintro e w1 ⟨rfl, hb1⟩; clear tk0 _t; have tk1 : True := trivial; replace hb := hb1; clear hb1; (try clear c1 c2 hz0); obtain ⟨c1, c2⟩ := bcell hb; have hz1 : w.heap.size + 1 < w1.heap.size + 1 := (by have := hb.size; simp at this; omega); have hz0 : w.heap.size < w1.heap.size := (by omega); have hz2 : w.heap.size + 1 < w1.heap.size := (by have := hb.size; simp at this; omega); have hcl := HCL.out _ hb)
    | (go_at_call 37; (have _t := tk1); (with_reducible refine (H2.out _ hb).mono ?_); rintro e w1 ⟨rfl, hb1⟩; clear tk1 _t; have tk2 : True := trivial; replace hb := hb1; clear hb1; (try clear c1 c2 hz0); obtain ⟨c1, c2⟩ := bcell hb; have hz1 : w.heap.size + 1 < w1.heap.size + 1 := (by have := hb.size; simp at this; omega); have hz0 : w.heap.size < w1.heap.size := (by omega); have hz2 : w.heap.size + 1 < w1.heap.size := (by have := hb.size; simp at this; omega); have hcl := HCL.out _ hb)
    | (go_at_call 37; (have _t := tk2); (with_reducible refine (H3.out _ hb).mono ?_); rintro e w1 ⟨rfl, hb1⟩; clear tk2 _t; have tk3 : True := trivial; replace hb := hb1; clear hb1; (try clear c1 c2 hz0); obtain ⟨c1, c2⟩ := bcell hb; have hz1 : w.heap.size + 1 < w1.heap.size + 1 := (by have := hb.size; simp at this; omega); have hz0 : w.heap.size < w1.heap.size := (by omega); have hz2 : w.heap.size + 1 < w1.heap.size := (by have := hb.size; simp at this; omega); have hcl := HCL.out _ hb)
    | (go_at_call 70; (have _t := tk3); (with_reducible refine (H4.out _ hb).mono ?_); rintro e w1 ⟨rfl, hb1⟩; clear tk3 _t; have tk4 : True := trivial; replace hb := hb1; clear hb1; (try clear c1 c2 hz0); obtain ⟨c1, c2⟩ := bcell hb; have hz1 : w.heap.size + 1 < w1.heap.size + 1 := (by have := hb.size; simp at this; omega); have hz0 : w.heap.size < w1.heap.size := (by omega); have hz2 : w.heap.size + 1 < w1.heap.size := (by have := hb.size; simp at this; omega); have hcl := HCL.out _ hb))
  all_goals
    have y0 : w1.cell? ⟨w.heap.size, 0, none⟩ = some (.int .i64 0) := by simp [go_sem, c1]
    have y1 : w1.cell? ⟨w.heap.size, 1, none⟩ = some (.int .i64 0) := by simp [go_sem, c1]
    have y2 : w1.cell? ⟨w.heap.size, 2, none⟩ = some (.int .i64 0) := by simp [go_sem, c1]
    have HB2 := (two_ok w rpB (rpJ k)).trans (hb.mono (by simp; omega))
    refine bodyPost_ret (v := parI 8 k ((k : Int) + 1)) ?_ rfl ⟨rfl, ?_⟩
    · simp [results, Try.results42, go_sem, y0, y1, y2, parI] <;> omega
    · exact (((HB2.setCell (by simp) _).setCell (by simp) _).setCell (by simp) _)

set_option maxRecDepth 20000 in
set_option maxHeartbeats 2000000 in
theorem ritm_pe1 {b off n cap : Nat} {l : List Int} {w : World} (R : RRow w b off n cap l) (hwf : ∀ j, -2147483648 ≤ l.getD j 0 ∧ l.getD j 0 ≤ 2147483647) (hn : n ≤ 1000) (k : Nat) (hk : k < n) (z : Int) (hz : l.getD k 0 = z) (hco : sw sCo (l.drop k) = false) (hpo : sw sPo (l.drop k) = false) (hde : sw sDe (l.drop k) = false) (h37 : z = 37) (q : Nat) (hq : leadP (l.drop (k + 1)) = q) (hq0 : 0 < q) (hqn : k + 1 + q ≤ n) (hsc : sw sSc (l.drop (k + 1 + q)) = true) :
    Says 42 #[.slice (some ⟨b, off, none⟩) n cap, .int .i64 k] (parI 14 k ((k : Int) + q + 2)) w w := by
  have hm := R.max
  have hc := R.le
  unfold maxLen at hm
  have hcl := rcell R k hk hz
  have hblt := cell_lt hcl
  have hbn : ¬ b = w.heap.size := by omega
  have hbn2 : ¬ b = w.heap.size + 1 := by omega
  have hblt2 : b < w.heap.size + 1 := by omega
  have R0 := R.below (two_ok w rpB (rpJ k))
  have HCL := Lib.hid (fun (w' : World) (hb : Below ((w.alloc rpB).alloc (rpJ k)).heap.size ((w.alloc rpB).alloc (rpJ k)) w') => rcell (R0.below hb) k hk hz)
  have H1 := Lib.hid (refStartsB R0 hwf sCoS k (by omega) (v := false) hco)
  have H2 := Lib.hid (refStartsB R0 hwf sPoS k (by omega) (v := false) hpo)
  have H3 := Lib.hid (refStartsB R0 hwf sDeS k (by omega) (v := false) hde)
  have H4 := Lib.hid (refLeadB R0 (k + 1) hq)
  have H5 := Lib.hid (refStartsB R0 hwf sScS (k + 1 + q) hqn (v := true) hsc)
  (try simp only [Int.natCast_add, Int.cast_ofNat_Int] at H1 H2 H3 H4 H5)
  (try simp only [Int.natCast_add, Int.cast_ofNat_Int] at H5)
  subst h37
  have hb : Below ((w.alloc rpB).alloc (rpJ k)).heap.size ((w.alloc rpB).alloc (rpJ k)) ((w.alloc rpB).alloc (rpJ k)) := Below.refl _ _
  have tk0 : True := trivial
  clear R R0 hz hwf hco hpo hde hq hsc
  go_enter Try.func42, Try.ntmps42
  go_wp2_with (first
    | (go_at_call 37; (have _t := tk0); (with_reducible refine (H1.out _ hb).mono ?_); rintro e w1 ⟨rfl, hb1⟩; clear tk0 _t; have tk1 : True := trivial; replace hb := hb1; clear hb1; (try clear c1 c2 hz0); obtain ⟨c1, c2⟩ := bcell hb; have hz1 : w.heap.size + 1 < w1.heap.size + 1 := (by have := hb.size; simp at this; omega); have hz0 : w.heap.size < w1.heap.size := (by omega); have hz2 : w.heap.size + 1 < w1.heap.size := (by have := hb.size; simp at this; omega); have hcl := HCL.out _ hb)
    | (go_at_call 37; (have _t := tk1); (with_reducible refine (H2.out _ hb).mono ?_); rintro e w1 ⟨rfl, hb1⟩; clear tk1 _t; have tk2 : True := trivial; replace hb := hb1; clear hb1; (try clear c1 c2 hz0); obtain ⟨c1, c2⟩ := bcell hb; have hz1 : w.heap.size + 1 < w1.heap.size + 1 := (by have := hb.size; simp at this; omega); have hz0 : w.heap.size < w1.heap.size := (by omega); have hz2 : w.heap.size + 1 < w1.heap.size := (by have := hb.size; simp at this; omega); have hcl := HCL.out _ hb)
    | (go_at_call 37; (have _t := tk2); (with_reducible refine (H3.out _ hb).mono ?_); rintro e w1 ⟨rfl, hb1⟩; clear tk2 _t; have tk3 : True := trivial; replace hb := hb1; clear hb1; (try clear c1 c2 hz0); obtain ⟨c1, c2⟩ := bcell hb; have hz1 : w.heap.size + 1 < w1.heap.size + 1 := (by have := hb.size; simp at this; omega); have hz0 : w.heap.size < w1.heap.size := (by omega); have hz2 : w.heap.size + 1 < w1.heap.size := (by have := hb.size; simp at this; omega); have hcl := HCL.out _ hb)
    | (go_at_call 63; (have _t := tk3); (with_reducible refine (H4.out _ hb).mono ?_); rintro e w1 ⟨rfl, hb1⟩; clear tk3 _t; have tk4 : True := trivial; replace hb := hb1; clear hb1; (try clear c1 c2 hz0); obtain ⟨c1, c2⟩ := bcell hb; have hz1 : w.heap.size + 1 < w1.heap.size + 1 := (by have := hb.size; simp at this; omega); have hz0 : w.heap.size < w1.heap.size := (by omega); have hz2 : w.heap.size + 1 < w1.heap.size := (by have := hb.size; simp at this; omega); have hcl := HCL.out _ hb)
    | (go_at_call 37; (have _t := tk4); (with_reducible refine (H5.out _ hb).mono ?_); rintro e w1 ⟨rfl, hb1⟩; clear tk4 _t; have tk5 : True := trivial; replace hb := hb1; clear hb1; (try clear c1 c2 hz0); obtain ⟨c1, c2⟩ := bcell hb; have hz1 : w.heap.size + 1 < w1.heap.size + 1 := (by have := hb.size; simp at this; omega); have hz0 : w.heap.size < w1.heap.size := (by omega); have hz2 : w.heap.size + 1 < w1.heap.size := (by have := hb.size; simp at this; omega); have hcl := HCL.out _ hb))
  all_goals
    have y0 : w1.cell? ⟨w.heap.size, 0, none⟩ = some (.int .i64 0) := by simp [go_sem, c1]
    have y1 : w1.cell? ⟨w.heap.size, 1, none⟩ = some (.int .i64 0) := by simp [go_sem, c1]
    have y2 : w1.cell? ⟨w.heap.size, 2, none⟩ = some (.int .i64 0) := by simp [go_sem, c1]
    have HB2 := (two_ok w rpB (rpJ k)).trans (hb.mono (by simp; omega))
    refine bodyPost_ret (v := parI 14 k ((k : Int) + q + 2)) ?_ rfl ⟨rfl, ?_⟩
    · simp [results, Try.results42, go_sem, y0, y1, y2, parI] <;> omega
    · exact (((HB2.setCell (by simp) _).setCell (by simp) _).setCell (by simp) _)

set_option maxRecDepth 20000 in
set_option maxHeartbeats 2000000 in
theorem ritm_pe2 {b off n cap : Nat} {l : List Int} {w : World} (R : RRow w b off n cap l) (hwf : ∀ j, -2147483648 ≤ l.getD j 0 ∧ l.getD j 0 ≤ 2147483647) (hn : n ≤ 1000) (k : Nat) (hk : k < n) (z : Int) (hz : l.getD k 0 = z) (hco : sw sCo (l.drop k) = false) (hpo : sw sPo (l.drop k) = false) (hde : sw sDe (l.drop k) = false) (h37 : z = 37) (q : Nat) (hq : leadP (l.drop (k + 1)) = q) (hq0 : 0 < q) (hqn : k + 1 + q ≤ n) (hsc : sw sSc (l.drop (k + 1 + q)) = false) :
    Says 42 #[.slice (some ⟨b, off, none⟩) n cap, .int .i64 k] (parI 8 k ((k : Int) + 1)) w w := by
  have hm := R.max
  have hc := R.le
  unfold maxLen at hm
  have hcl := rcell R k hk hz
  have hblt := cell_lt hcl
  have hbn : ¬ b = w.heap.size := by omega
  have hbn2 : ¬ b = w.heap.size + 1 := by omega
  have hblt2 : b < w.heap.size + 1 := by omega
  have R0 := R.below (two_ok w rpB (rpJ k))
  have HCL := Lib.hid (fun (w' : World) (hb : Below ((w.alloc rpB).alloc (rpJ k)).heap.size ((w.alloc rpB).alloc (rpJ k)) w') => rcell (R0.below hb) k hk hz)
  have H1 := Lib.hid (refStartsB R0 hwf sCoS k (by omega) (v := false) hco)
  have H2 := Lib.hid (refStartsB R0 hwf sPoS k (by omega) (v := false) hpo)
  have H3 := Lib.hid (refStartsB R0 hwf sDeS k (by omega) (v := false) hde)
  have H4 := Lib.hid (refLeadB R0 (k + 1) hq)
  have H5 := Lib.hid (refStartsB R0 hwf sScS (k + 1 + q) hqn (v := false) hsc)
  (try simp only [Int.natCast_add, Int.cast_ofNat_Int] at H1 H2 H3 H4 H5)
  (try simp only [Int.natCast_add, Int.cast_ofNat_Int] at H5)
  subst h37
  have hb : Below ((w.alloc rpB).alloc (rpJ k)).heap.size ((w.alloc rpB).alloc (rpJ k)) ((w.alloc rpB).alloc (rpJ k)) := Below.refl _ _
  have tk0 : True := trivial
  clear R R0 hz hwf hco hpo hde hq hsc
  go_enter Try.func42, Try.ntmps42
  go_wp2_with (first
    | (go_at_call 37; (have _t := tk0); (with_reducible refine (H1.out _ hb).mono ?_); rintro e w1 ⟨rfl, hb1⟩; clear tk0 _t; have tk1 : True := trivial; replace hb := hb1; clear hb1; (try clear c1 c2 hz0); obtain ⟨c1, c2⟩ := bcell hb; have hz1 : w.heap.size + 1 < w1.heap.size + 1 := (by have := hb.size; simp at this; omega); have hz0 : w.heap.size < w1.heap.size := (by omega); have hz2 : w.heap.size + 1 < w1.heap.size := (by have := hb.size; simp at this; omega); have hcl := HCL.out _ hb)
    | (go_at_call 37; (have _t := tk1); (with_reducible refine (H2.out _ hb).mono ?_); rintro e w1 ⟨rfl, hb1⟩; clear tk1 _t; have tk2 : True := trivial; replace hb := hb1; clear hb1; (try clear c1 c2 hz0); obtain ⟨c1, c2⟩ := bcell hb; have hz1 : w.heap.size + 1 < w1.heap.size + 1 := (by have := hb.size; simp at this; omega); have hz0 : w.heap.size < w1.heap.size := (by omega); have hz2 : w.heap.size + 1 < w1.heap.size := (by have := hb.size; simp at this; omega); have hcl := HCL.out _ hb)
    | (go_at_call 37; (have _t := tk2); (with_reducible refine (H3.out _ hb).mono ?_); rintro e w1 ⟨rfl, hb1⟩; clear tk2 _t; have tk3 : True := trivial; replace hb := hb1; clear hb1; (try clear c1 c2 hz0); obtain ⟨c1, c2⟩ := bcell hb; have hz1 : w.heap.size + 1 < w1.heap.size + 1 := (by have := hb.size; simp at this; omega); have hz0 : w.heap.size < w1.heap.size := (by omega); have hz2 : w.heap.size + 1 < w1.heap.size := (by have := hb.size; simp at this; omega); have hcl := HCL.out _ hb)
    | (go_at_call 63; (have _t := tk3); (with_reducible refine (H4.out _ hb).mono ?_); rintro e w1 ⟨rfl, hb1⟩; clear tk3 _t; have tk4 : True := trivial; replace hb := hb1; clear hb1; (try clear c1 c2 hz0); obtain ⟨c1, c2⟩ := bcell hb; have hz1 : w.heap.size + 1 < w1.heap.size + 1 := (by have := hb.size; simp at this; omega); have hz0 : w.heap.size < w1.heap.size := (by omega); have hz2 : w.heap.size + 1 < w1.heap.size := (by have := hb.size; simp at this; omega); have hcl := HCL.out _ hb)
    | (go_at_call 37; (have _t := tk4); (with_reducible refine (H5.out _ hb).mono ?_); rintro e w1 ⟨rfl, hb1⟩; clear tk4 _t; have tk5 : True := trivial; replace hb := hb1; clear hb1; (try clear c1 c2 hz0); obtain ⟨c1, c2⟩ := bcell hb; have hz1 : w.heap.size + 1 < w1.heap.size + 1 := (by have := hb.size; simp at this; omega); have hz0 : w.heap.size < w1.heap.size := (by omega); have hz2 : w.heap.size + 1 < w1.heap.size := (by have := hb.size; simp at this; omega); have hcl := HCL.out _ hb))
  all_goals
    have y0 : w1.cell? ⟨w.heap.size, 0, none⟩ = some (.int .i64 0) := by simp [go_sem, c1]
    have y1 : w1.cell? ⟨w.heap.size, 1, none⟩ = some (.int .i64 0) := by simp [go_sem, c1]
    have y2 : w1.cell? ⟨w.heap.size, 2, none⟩ = some (.int .i64 0) := by simp [go_sem, c1]
    have HB2 := (two_ok w rpB (rpJ k)).trans (hb.mono (by simp; omega))
    refine bodyPost_ret (v := parI 8 k ((k : Int) + 1)) ?_ rfl ⟨rfl, ?_⟩
    · simp [results, Try.results42, go_sem, y0, y1, y2, parI] <;> omega
    · exact (((HB2.setCell (by simp) _).setCell (by simp) _).setCell (by simp) _)

set_option maxRecDepth 20000 in
set_option maxHeartbeats 2000000 in
theorem ritm_pe0 {b off n cap : Nat} {l : List Int} {w : World} (R : RRow w b off n cap l) (hwf : ∀ j, -2147483648 ≤ l.getD j 0 ∧ l.getD j 0 ≤ 2147483647) (hn : n ≤ 1000) (k : Nat) (hk : k < n) (z : Int) (hz : l.getD k 0 = z) (hco : sw sCo (l.drop k) = false) (hpo : sw sPo (l.drop k) = false) (hde : sw sDe (l.drop k) = false) (h37 : z = 37) (hq : leadP (l.drop (k + 1)) = 0) :
    Says 42 #[.slice (some ⟨b, off, none⟩) n cap, .int .i64 k] (parI 8 k ((k : Int) + 1)) w w := by
  have hm := R.max
  have hc := R.le
  unfold maxLen at hm
  have hcl := rcell R k hk hz
  have hblt := cell_lt hcl
  have hbn : ¬ b = w.heap.size := by omega
  have hbn2 : ¬ b = w.heap.size + 1 := by omega
  have hblt2 : b < w.heap.size + 1 := by omega
  have R0 := R.below (two_ok w rpB (rpJ k))
  have HCL := Lib.hid (fun (w' : World) (hb : Below ((w.alloc rpB).alloc (rpJ k)).heap.size ((w.alloc rpB).alloc (rpJ k)) w') => rcell (R0.below hb) k hk hz)
  have H1 := Lib.hid (refStartsB R0 hwf sCoS k (by omega) (v := false) hco)
  have H2 := Lib.hid (refStartsB R0 hwf sPoS k (by omega) (v := false) hpo)
  have H3 := Lib.hid (refStartsB R0 hwf sDeS k (by omega) (v := false) hde)
  have H4 := Lib.hid (refLeadB R0 (k + 1) hq)
  (try simp only [Int.natCast_add, Int.cast_ofNat_Int] at H1 H2 H3 H4)
  subst h37
  have hb : Below ((w.alloc rpB).alloc (rpJ k)).heap.size ((w.alloc rpB).alloc (rpJ k)) ((w.alloc rpB).alloc (rpJ k)) := Below.refl _ _
  have tk0 : True := trivial
  clear R R0 hz hwf hco hpo hde hq
  go_enter Try.func42, Try.ntmps42
  go_wp2_with (first
    | (go_at_call 37; (have _t := tk0); (with_reducible refine (H1.out _ hb).mono ?_); rintro e w1 ⟨rfl, hb1⟩; clear tk0 _t; have tk1 : True := trivial; replace hb := hb1; clear hb1; (try clear c1 c2 hz0); obtain ⟨c1, c2⟩ := bcell hb; have hz1 : w.heap.size + 1 < w1.heap.size + 1 := (by have := hb.size; simp at this; omega); have hz0 : w.heap.size < w1.heap.size := (by omega); have hz2 : w.heap.size + 1 < w1.heap.size := (by have := hb.size; simp at this; omega); have hcl := HCL.out _ hb)
    | (go_at_call 37; (have _t := tk1); (with_reducible refine (H2.out _ hb).mono ?_); rintro e w1 ⟨rfl, hb1⟩; clear tk1 _t; have tk2 : True := trivial; replace hb := hb1; clear hb1; (try clear c1 c2 hz0); obtain ⟨c1, c2⟩ := bcell hb; have hz1 : w.heap.size + 1 < w1.heap.size + 1 := (by have := hb.size; simp at this; omega); have hz0 : w.heap.size < w1.heap.size := (by omega); have hz2 : w.heap.size + 1 < w1.heap.size := (by have := hb.size; simp at this; omega); have hcl := HCL.out _ hb)
    | (go_at_call 37; (have _t := tk2); (with_reducible refine (H3.out _ hb).mono ?_); rintro e w1 ⟨rfl, hb1⟩; clear tk2 _t; have tk3 : True := trivial; replace hb := hb1; clear hb1; (try clear c1 c2 hz0); obtain ⟨c1, c2⟩ := bcell hb; have hz1 : w.heap.size + 1 < w1.heap.size + 1 := (by have := hb.size; simp at this; omega); have hz0 : w.heap.size < w1.heap.size := (by omega); have hz2 : w.heap.size + 1 < w1.heap.size := (by have := hb.size; simp at this; omega); have hcl := HCL.out _ hb)
    | (go_at_call 63; (have _t := tk3); (with_reducible refine (H4.out _ hb).mono ?_); rintro e w1 ⟨rfl, hb1⟩; clear tk3 _t; have tk4 : True := trivial; replace hb := hb1; clear hb1; (try clear c1 c2 hz0); obtain ⟨c1, c2⟩ := bcell hb; have hz1 : w.heap.size + 1 < w1.heap.size + 1 := (by have := hb.size; simp at this; omega); have hz0 : w.heap.size < w1.heap.size := (by omega); have hz2 : w.heap.size + 1 < w1.heap.size := (by have := hb.size; simp at this; omega); have hcl := HCL.out _ hb))
  all_goals
    have y0 : w1.cell? ⟨w.heap.size, 0, none⟩ = some (.int .i64 0) := by simp [go_sem, c1]
    have y1 : w1.cell? ⟨w.heap.size, 1, none⟩ = some (.int .i64 0) := by simp [go_sem, c1]
    have y2 : w1.cell? ⟨w.heap.size, 2, none⟩ = some (.int .i64 0) := by simp [go_sem, c1]
    have HB2 := (two_ok w rpB (rpJ k)).trans (hb.mono (by simp; omega))
    refine bodyPost_ret (v := parI 8 k ((k : Int) + 1)) ?_ rfl ⟨rfl, ?_⟩
    · simp [results, Try.results42, go_sem, y0, y1, y2, parI] <;> omega
    · exact (((HB2.setCell (by simp) _).setCell (by simp) _).setCell (by simp) _)

set_option maxRecDepth 20000 in
set_option maxHeartbeats 2000000 in
theorem ritm_sp {b off n cap : Nat} {l : List Int} {w : World} (R : RRow w b off n cap l) (hwf : ∀ j, -2147483648 ≤ l.getD j 0 ∧ l.getD j 0 ≤ 2147483647) (hn : n ≤ 1000) (k : Nat) (hk : k < n) (z : Int) (hz : l.getD k 0 = z) (hco : sw sCo (l.drop k) = false) (hpo : sw sPo (l.drop k) = false) (hde : sw sDe (l.drop k) = false) (h37 : ¬ z = 37) (hs : spaceB z = true) (q : Nat) (hq : wdP (l.drop k) = (3, q)) :
    Says 42 #[.slice (some ⟨b, off, none⟩) n cap, .int .i64 k] (parI 3 k ((k : Int) + q)) w w := by
  have hm := R.max
  have hc := R.le
  unfold maxLen at hm
  have hcl := rcell R k hk hz
  have hblt := cell_lt hcl
  have hbn : ¬ b = w.heap.size := by omega
  have hbn2 : ¬ b = w.heap.size + 1 := by omega
  have hblt2 : b < w.heap.size + 1 := by omega
  have R0 := R.below (two_ok w rpB (rpJ k))
  have HCL := Lib.hid (fun (w' : World) (hb : Below ((w.alloc rpB).alloc (rpJ k)).heap.size ((w.alloc rpB).alloc (rpJ k)) w') => rcell (R0.below hb) k hk hz)
  have H1 := Lib.hid (refStartsB R0 hwf sCoS k (by omega) (v := false) hco)
  have H2 := Lib.hid (refStartsB R0 hwf sPoS k (by omega) (v := false) hpo)
  have H3 := Lib.hid (refStartsB R0 hwf sDeS k (by omega) (v := false) hde)
  have H4 := Lib.hid (refSpaceB (W := ((w.alloc rpB).alloc (rpJ k))) (r := z) hs)
  have H5 := Lib.hid (rwordB R0 hwf hn k hk hq)
  (try simp only [Int.natCast_add, Int.cast_ofNat_Int] at H1 H2 H3 H4 H5)
  have e37 : (z == 37) = false := by simpa using h37
  have hb : Below ((w.alloc rpB).alloc (rpJ k)).heap.size ((w.alloc rpB).alloc (rpJ k)) ((w.alloc rpB).alloc (rpJ k)) := Below.refl _ _
  have tk0 : True := trivial
  clear R R0 hz hwf hco hpo hde hq hs
  go_enter Try.func42, Try.ntmps42
  go_wp2_with (first
    | (go_at_call 37; (have _t := tk0); (with_reducible refine (H1.out _ hb).mono ?_); rintro e w1 ⟨rfl, hb1⟩; clear tk0 _t; have tk1 : True := trivial; replace hb := hb1; clear hb1; (try clear c1 c2 hz0); obtain ⟨c1, c2⟩ := bcell hb; have hz1 : w.heap.size + 1 < w1.heap.size + 1 := (by have := hb.size; simp at this; omega); have hz0 : w.heap.size < w1.heap.size := (by omega); have hz2 : w.heap.size + 1 < w1.heap.size := (by have := hb.size; simp at this; omega); have hcl := HCL.out _ hb)
    | (go_at_call 37; (have _t := tk1); (with_reducible refine (H2.out _ hb).mono ?_); rintro e w1 ⟨rfl, hb1⟩; clear tk1 _t; have tk2 : True := trivial; replace hb := hb1; clear hb1; (try clear c1 c2 hz0); obtain ⟨c1, c2⟩ := bcell hb; have hz1 : w.heap.size + 1 < w1.heap.size + 1 := (by have := hb.size; simp at this; omega); have hz0 : w.heap.size < w1.heap.size := (by omega); have hz2 : w.heap.size + 1 < w1.heap.size := (by have := hb.size; simp at this; omega); have hcl := HCL.out _ hb)
    | (go_at_call 37; (have _t := tk2); (with_reducible refine (H3.out _ hb).mono ?_); rintro e w1 ⟨rfl, hb1⟩; clear tk2 _t; have tk3 : True := trivial; replace hb := hb1; clear hb1; (try clear c1 c2 hz0); obtain ⟨c1, c2⟩ := bcell hb; have hz1 : w.heap.size + 1 < w1.heap.size + 1 := (by have := hb.size; simp at this; omega); have hz0 : w.heap.size < w1.heap.size := (by omega); have hz2 : w.heap.size + 1 < w1.heap.size := (by have := hb.size; simp at this; omega); have hcl := HCL.out _ hb)
    | (go_at_call 62; (have _t := tk3); (with_reducible refine (H4.out _ hb).mono ?_); rintro e w1 ⟨rfl, hb1⟩; clear tk3 _t; have tk4 : True := trivial; replace hb := hb1; clear hb1; (try clear c1 c2 hz0); obtain ⟨c1, c2⟩ := bcell hb; have hz1 : w.heap.size + 1 < w1.heap.size + 1 := (by have := hb.size; simp at this; omega); have hz0 : w.heap.size < w1.heap.size := (by omega); have hz2 : w.heap.size + 1 < w1.heap.size := (by have := hb.size; simp at this; omega); have hcl := HCL.out _ hb)
    | (go_at_call 38; (have _t := tk4); (with_reducible refine (H5.out _ hb).mono ?_); rintro e w1 ⟨rfl, hb1⟩; clear tk4 _t; have tk5 : True := trivial; replace hb := hb1; clear hb1; (try clear c1 c2 hz0); obtain ⟨c1, c2⟩ := bcell hb; have hz1 : w.heap.size + 1 < w1.heap.size + 1 := (by have := hb.size; simp at this; omega); have hz0 : w.heap.size < w1.heap.size := (by omega); have hz2 : w.heap.size + 1 < w1.heap.size := (by have := hb.size; simp at this; omega); have hcl := HCL.out _ hb))
  all_goals
    have y0 : w1.cell? ⟨w.heap.size, 0, none⟩ = some (.int .i64 0) := by simp [go_sem, c1]
    have y1 : w1.cell? ⟨w.heap.size, 1, none⟩ = some (.int .i64 0) := by simp [go_sem, c1]
    have y2 : w1.cell? ⟨w.heap.size, 2, none⟩ = some (.int .i64 0) := by simp [go_sem, c1]
    have HB2 := (two_ok w rpB (rpJ k)).trans (hb.mono (by simp; omega))
    refine bodyPost_ret (v := parI 3 k ((k : Int) + q)) ?_ rfl ⟨rfl, ?_⟩
    · simp [results, Try.results42, go_sem, y0, y1, y2, parI] <;> omega
    · exact (((HB2.setCell (by simp) _).setCell (by simp) _).setCell (by simp) _)

set_option maxRecDepth 20000 in
set_option maxHeartbeats 2000000 in
theorem ritm_j {b off n cap : Nat} {l : List Int} {w : World} (R : RRow w b off n cap l) (hwf : ∀ j, -2147483648 ≤ l.getD j 0 ∧ l.getD j 0 ≤ 2147483647) (hn : n ≤ 1000) (k : Nat) (hk : k < n) (z : Int) (hz : l.getD k 0 = z) (hco : sw sCo (l.drop k) = false) (hpo : sw sPo (l.drop k) = false) (hde : sw sDe (l.drop k) = false) (h37 : ¬ z = 37) (hs : spaceB z = false) :
    Says 42 #[.slice (some ⟨b, off, none⟩) n cap, .int .i64 k] (parI 8 k ((k : Int) + 1)) w w := by
  have hm := R.max
  have hc := R.le
  unfold maxLen at hm
  have hcl := rcell R k hk hz
  have hblt := cell_lt hcl
  have hbn : ¬ b = w.heap.size := by omega
  have hbn2 : ¬ b = w.heap.size + 1 := by omega
  have hblt2 : b < w.heap.size + 1 := by omega
  have R0 := R.below (two_ok w rpB (rpJ k))
  have HCL := Lib.hid (fun (w' : World) (hb : Below ((w.alloc rpB).alloc (rpJ k)).heap.size ((w.alloc rpB).alloc (rpJ k)) w') => rcell (R0.below hb) k hk hz)
  have H1 := Lib.hid (refStartsB R0 hwf sCoS k (by omega) (v := false) hco)
  have H2 := Lib.hid (refStartsB R0 hwf sPoS k (by omega) (v := false) hpo)
  have H3 := Lib.hid (refStartsB R0 hwf sDeS k (by omega) (v := false) hde)
  have H4 := Lib.hid (refSpaceB (W := ((w.alloc rpB).alloc (rpJ k))) (r := z) hs)
  (try simp only [Int.natCast_add, Int.cast_ofNat_Int] at H1 H2 H3 H4)
  have e37 : (z == 37) = false := by simpa using h37
  have hb : Below ((w.alloc rpB).alloc (rpJ k)).heap.size ((w.alloc rpB).alloc (rpJ k)) ((w.alloc rpB).alloc (rpJ k)) := Below.refl _ _
  have tk0 : True := trivial
  clear R R0 hz hwf hco hpo hde hs
  go_enter Try.func42, Try.ntmps42
  go_wp2_with (first
    | (go_at_call 37; (have _t := tk0); (with_reducible refine (H1.out _ hb).mono ?_); rintro e w1 ⟨rfl, hb1⟩; clear tk0 _t; have tk1 : True := trivial; replace hb := hb1; clear hb1; (try clear c1 c2 hz0); obtain ⟨c1, c2⟩ := bcell hb; have hz1 : w.heap.size + 1 < w1.heap.size + 1 := (by have := hb.size; simp at this; omega); have hz0 : w.heap.size < w1.heap.size := (by omega); have hz2 : w.heap.size + 1 < w1.heap.size := (by have := hb.size; simp at this; omega); have hcl := HCL.out _ hb)
    | (go_at_call 37; (have _t := tk1); (with_reducible refine (H2.out _ hb).mono ?_); rintro e w1 ⟨rfl, hb1⟩; clear tk1 _t; have tk2 : True := trivial; replace hb := hb1; clear hb1; (try clear c1 c2 hz0); obtain ⟨c1, c2⟩ := bcell hb; have hz1 : w.heap.size + 1 < w1.heap.size + 1 := (by have := hb.size; simp at this; omega); have hz0 : w.heap.size < w1.heap.size := (by omega); have hz2 : w.heap.size + 1 < w1.heap.size := (by have := hb.size; simp at this; omega); have hcl := HCL.out _ hb)
    | (go_at_call 37; (have _t := tk2); (with_reducible refine (H3.out _ hb).mono ?_); rintro e w1 ⟨rfl, hb1⟩; clear tk2 _t; have tk3 : True := trivial; replace hb := hb1; clear hb1; (try clear c1 c2 hz0); obtain ⟨c1, c2⟩ := bcell hb; have hz1 : w.heap.size + 1 < w1.heap.size + 1 := (by have := hb.size; simp at this; omega); have hz0 : w.heap.size < w1.heap.size := (by omega); have hz2 : w.heap.size + 1 < w1.heap.size := (by have := hb.size; simp at this; omega); have hcl := HCL.out _ hb)
    | (go_at_call 62; (have _t := tk3); (with_reducible refine (H4.out _ hb).mono ?_); rintro e w1 ⟨rfl, hb1⟩; clear tk3 _t; have tk4 : True := trivial; replace hb := hb1; clear hb1; (try clear c1 c2 hz0); obtain ⟨c1, c2⟩ := bcell hb; have hz1 : w.heap.size + 1 < w1.heap.size + 1 := (by have := hb.size; simp at this; omega); have hz0 : w.heap.size < w1.heap.size := (by omega); have hz2 : w.heap.size + 1 < w1.heap.size := (by have := hb.size; simp at this; omega); have hcl := HCL.out _ hb))
  all_goals
    have y0 : w1.cell? ⟨w.heap.size, 0, none⟩ = some (.int .i64 0) := by simp [go_sem, c1]
    have y1 : w1.cell? ⟨w.heap.size, 1, none⟩ = some (.int .i64 0) := by simp [go_sem, c1]
    have y2 : w1.cell? ⟨w.heap.size, 2, none⟩ = some (.int .i64 0) := by simp [go_sem, c1]
    have HB2 := (two_ok w rpB (rpJ k)).trans (hb.mono (by simp; omega))
    refine bodyPost_ret (v := parI 8 k ((k : Int) + 1)) ?_ rfl ⟨rfl, ?_⟩
    · simp [results, Try.results42, go_sem, y0, y1, y2, parI] <;> omega
    · exact (((HB2.setCell (by simp) _).setCell (by simp) _).setCell (by simp) _)

end Go.Proofs.Ytpjcheelafegbaa
