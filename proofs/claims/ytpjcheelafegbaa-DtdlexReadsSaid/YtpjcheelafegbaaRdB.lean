/-
  Contracts of the reference's layer 9: quoted, word.
-/
import Derived.Test.YtpjcheelafegbaaRdA
namespace Go.Proofs.Ytpjcheelafegbaa
open Go.RowKit
set_option linter.unusedVariables false

def quoV (k : Nat) (o : Option Nat) : Int := match o with | some q => (k : Int) + q + 2 | none => -1
set_option maxRecDepth 100000 in
set_option maxHeartbeats 1000000 in
theorem quoted9B {b off n cap : Nat} {l : List Int} {W : World} (R : RRow W b off n cap l) (hn : n ≤ 1000) (k : Nat) (hk : k < n) (z : Int) (hz : l.getD k 0 = z) {o : Option Nat} (ho : fnd [z] (l.drop (k + 1)) = o) (w : World) (hb : Below W.heap.size W w) :
    Says 64 #[.slice (some ⟨b, off, none⟩) n cap, .int .i64 k] (.int .i64 (quoV k o)) W w := by
  have hm := R.max
  have hc := R.le
  unfold maxLen at hm
  obtain ⟨b', off', hy, hc0⟩ := (R.below hb).cells.int (k := k) (by rw [R.len]; omega)
  simp only [Option.some.injEq, Addr.mk.injEq] at hy
  obtain ⟨rfl, rfl, _⟩ := hy
  rw [hz] at hc0
  have HR := Lib.hid (R.below hb)
  have HBW := Lib.hid hb
  have HO := Lib.hid ho
  have hlm : (l.drop (k + 1)).length = n - (k + 1) := by rw [List.length_drop, R.len]
  have HLM := Lib.hid hlm
  have HSW := Lib.hid (show ∀ x, k + 1 + x < n → sw [z] ((l.drop (k + 1)).drop x) = decide (l.getD (k + 1 + x) 0 = z) from fun x hx => by
    rw [sw_one (by rw [List.length_drop, hlm]; omega)]
    congr 2
    rw [dd, List.getD_eq_getElem?_getD, List.getD_eq_getElem?_getD, List.getElem?_drop]
    simp)
  clear R ho hz hlm hb
  go_enter Try.func64, Try.ntmps64
  go_wp2
  go_loopw [5] (fun i wr => ∃ j m : Nat, i = .int .i64 ((k + 1 + j : Nat)) ∧ k + 1 + j ≤ n ∧ wr = w.drewN m ∧ Hid (∀ x, x < j → sw [z] ((l.drop (k + 1)).drop x) = false)) (fun i _ => n - (intOf i).toNat)
  case atStart => exact ⟨0, 0, by go_num, by omega, rfl, Lib.hid (fun x hx => by omega)⟩
  case round =>
    obtain ⟨j, m, rfl, hj, rfl, HJ⟩ := hrel
    obtain ⟨i, hi⟩ : ∃ i, i = k + 1 + j := ⟨_, rfl⟩
    rw [← hi] at hj ⊢
    have HI := Lib.hid hi
    by_cases hlt : i < n
    · obtain ⟨b', off', hy, hc1⟩ := HR.out.cells.int (k := i) (by rw [HR.out.len]; omega)
      simp only [Option.some.injEq, Addr.mk.injEq] at hy
      obtain ⟨rfl, rfl, _⟩ := hy
      have hsw := HSW.out j (by omega)
      rw [← hi] at hsw
      obtain ⟨y, hy⟩ : ∃ y, y = l.getD i 0 := ⟨_, rfl⟩
      rw [← hy] at hc1 hsw
      clear hi hy
      by_cases he : y = z
      · have HF := Lib.hid (show o = some j by rw [← HO.out]; exact fnd_some [z] (by simp) _ j HJ.out (by rw [hsw]; exact decide_eq_true he))
        subst he
        clear hsw
        go_wp2
        go_quiet (fail)
        go_wp2
        go_ret
        rw [HF.out]
        exact ⟨ret_num (by have := HI.out; unfold quoV; simp only; omega), by first | exact below_drewN (below_drewN HBW.out _) _ | exact below_drewN HBW.out _⟩
      · have HK := Lib.hid (show ∀ x, x < j + 1 → sw [z] ((l.drop (k + 1)).drop x) = false from fun x hx => by
          by_cases h : x = j
          · subst h; rw [hsw]; exact decide_eq_false he
          · exact HJ.out x (by omega))
        have hq : ((y : Int) == z) = false := by simpa using he
        clear hsw
        go_wp2
        go_quiet (fail)
        go_wp2
        go_roundw
        case rel => exact ⟨j + 1, m + nq, by have := HI.out; go_num, by have := HI.out; omega, by first | rfl | exact World.drewN_drewN .., HK⟩
        case measure => simp [intOf]; omega
    · obtain rfl : i = n := by omega
      have HF := Lib.hid (show o = none by rw [← HO.out]; exact fnd_none [z] (by simp) _ (fun x hx => HJ.out x (by rw [HLM.out] at hx; simp at hx; have := HI.out; omega)))
      clear hi
      go_wp2
      go_ret
      rw [HF.out]
      exact ⟨rfl, below_drewN HBW.out _⟩

abbrev rpB : Obj := .cells #[.int .i64 0, .int .i64 0, .int .i64 0] 36
abbrev rpJ (k : Nat) : Obj := .cells #[.int .i64 8, .int .i64 (k : Nat), .int .i64 ((k : Int) + 1)] 36
theorem rcell {b off n cap : Nat} {l : List Int} {w : World} (R : RRow w b off n cap l) (k : Nat) (hk : k < n) {z : Int} (hz : l.getD k 0 = z) : w.cell? ⟨b, off + k, none⟩ = some (.int .i32 z) := by
  obtain ⟨b', off', hy, hcl⟩ := R.cells.int (k := k) (by rw [R.len]; omega)
  simp only [Option.some.injEq, Addr.mk.injEq] at hy
  obtain ⟨rfl, rfl, _⟩ := hy
  rw [hz] at hcl
  exact hcl

set_option maxRecDepth 20000 in
set_option maxHeartbeats 2000000 in
theorem rwrd_nm {b off n cap : Nat} {l : List Int} {w : World} (R : RRow w b off n cap l) (hwf : ∀ j, -2147483648 ≤ l.getD j 0 ∧ l.getD j 0 ≤ 2147483647) (hn : n ≤ 1000) (k : Nat) (hk : k < n) (z : Int) (hz : l.getD k 0 = z) (hs : spaceB z = false) (q : Nat) (hq : leadP (l.drop k) = q) (hq0 : 0 < q) (hqn : k + q ≤ n) :
    Says 38 #[.slice (some ⟨b, off, none⟩) n cap, .int .i64 k] (parI 2 k ((k : Int) + q)) w w := by
  have hm := R.max
  have hc := R.le
  unfold maxLen at hm
  have hcl := rcell R k hk hz
  have hblt := cell_lt hcl
  have hbn : ¬ b = w.heap.size := by omega
  have hbn2 : ¬ b = w.heap.size + 1 := by omega
  have hblt2 : b < w.heap.size + 1 := by omega
  have R0 := R.below (one_ok w rpB)
  have HCL := Lib.hid (fun (w' : World) (hb : Below (w.alloc rpB).heap.size (w.alloc rpB) w') => rcell (R0.below hb) k hk hz)
  have H1 := Lib.hid (refSpaceB (W := (w.alloc rpB)) (r := z) hs)
  have H2 := Lib.hid (refLeadB R0 k hq)
  (try simp only [Int.natCast_add, Int.cast_ofNat_Int] at H1 H2)
  have hb : Below (w.alloc rpB).heap.size (w.alloc rpB) (w.alloc rpB) := Below.refl _ _
  have tk0 : True := trivial
  clear R R0 hz hwf hs hq
  go_enter Try.func38, Try.ntmps38
  go_wp2_with (first
    | (go_at_call 62; (have _t := tk0); (with_reducible refine (H1.out _ hb).mono ?_); rintro e w1 ⟨rfl, hb1⟩; clear tk0 _t; have tk1 : True := trivial; replace hb := hb1; clear hb1; (try clear c1 c2 hz0); obtain ⟨c1, c2⟩ := bcell hb; have hz1 : w.heap.size + 1 < w1.heap.size + 1 := (by have := hb.size; simp at this; omega); have hz0 : w.heap.size < w1.heap.size := (by omega); have hcl := HCL.out _ hb)
    | (go_at_call 63; (have _t := tk1); (with_reducible refine (H2.out _ hb).mono ?_); rintro e w1 ⟨rfl, hb1⟩; clear tk1 _t; have tk2 : True := trivial; replace hb := hb1; clear hb1; (try clear c1 c2 hz0); obtain ⟨c1, c2⟩ := bcell hb; have hz1 : w.heap.size + 1 < w1.heap.size + 1 := (by have := hb.size; simp at this; omega); have hz0 : w.heap.size < w1.heap.size := (by omega); have hcl := HCL.out _ hb))
  all_goals
    have y0 : w1.cell? ⟨w.heap.size, 0, none⟩ = some (.int .i64 0) := by simp [go_sem, c1]
    have y1 : w1.cell? ⟨w.heap.size, 1, none⟩ = some (.int .i64 0) := by simp [go_sem, c1]
    have y2 : w1.cell? ⟨w.heap.size, 2, none⟩ = some (.int .i64 0) := by simp [go_sem, c1]
    have HB2 := (one_ok w rpB).trans (hb.mono (by simp))
    refine bodyPost_ret (v := parI 2 k ((k : Int) + q)) ?_ rfl ⟨rfl, ?_⟩
    · simp [results, Try.results38, go_sem, y0, y1, y2, parI] <;> omega
    · exact (((HB2.setCell (by simp) _).setCell (by simp) _).setCell (by simp) _)

set_option maxRecDepth 20000 in
set_option maxHeartbeats 2000000 in
theorem rwrd_qd1 {b off n cap : Nat} {l : List Int} {w : World} (R : RRow w b off n cap l) (hwf : ∀ j, -2147483648 ≤ l.getD j 0 ∧ l.getD j 0 ≤ 2147483647) (hn : n ≤ 1000) (k : Nat) (hk : k < n) (z : Int) (hz : l.getD k 0 = z) (hs : spaceB z = false) (hq0 : leadP (l.drop k) = 0) (h3 : z = 34) (q : Nat) (hq : fnd [34] (l.drop (k + 1)) = some q) (hqn : k + 2 + q ≤ n) :
    Says 38 #[.slice (some ⟨b, off, none⟩) n cap, .int .i64 k] (parI 4 k ((k : Int) + q + 2)) w w := by
  have hm := R.max
  have hc := R.le
  unfold maxLen at hm
  have hcl := rcell R k hk hz
  have hblt := cell_lt hcl
  have hbn : ¬ b = w.heap.size := by omega
  have hbn2 : ¬ b = w.heap.size + 1 := by omega
  have hblt2 : b < w.heap.size + 1 := by omega
  have R0 := R.below (one_ok w rpB)
  have HCL := Lib.hid (fun (w' : World) (hb : Below (w.alloc rpB).heap.size (w.alloc rpB) w') => rcell (R0.below hb) k hk hz)
  have H1 := Lib.hid (refSpaceB (W := (w.alloc rpB)) (r := z) hs)
  have H2 := Lib.hid (refLeadB R0 k hq0)
  have H3 := Lib.hid (quoted9B R0 hn k hk z hz (o := some q) (by rw [h3]; exact hq))
  (try simp only [Int.natCast_add, Int.cast_ofNat_Int] at H1 H2 H3)
  (try simp only [quoV] at H3)
  have i1 : (0 : Int) < (k : Int) + q + 2 := by omega
  have hb : Below (w.alloc rpB).heap.size (w.alloc rpB) (w.alloc rpB) := Below.refl _ _
  have tk0 : True := trivial
  clear R R0 hz hwf hs hq hq0
  subst h3
  go_enter Try.func38, Try.ntmps38
  go_wp2_with (first
    | (go_at_call 62; (have _t := tk0); (with_reducible refine (H1.out _ hb).mono ?_); rintro e w1 ⟨rfl, hb1⟩; clear tk0 _t; have tk1 : True := trivial; replace hb := hb1; clear hb1; (try clear c1 c2 hz0); obtain ⟨c1, c2⟩ := bcell hb; have hz1 : w.heap.size + 1 < w1.heap.size + 1 := (by have := hb.size; simp at this; omega); have hz0 : w.heap.size < w1.heap.size := (by omega); have hcl := HCL.out _ hb)
    | (go_at_call 63; (have _t := tk1); (with_reducible refine (H2.out _ hb).mono ?_); rintro e w1 ⟨rfl, hb1⟩; clear tk1 _t; have tk2 : True := trivial; replace hb := hb1; clear hb1; (try clear c1 c2 hz0); obtain ⟨c1, c2⟩ := bcell hb; have hz1 : w.heap.size + 1 < w1.heap.size + 1 := (by have := hb.size; simp at this; omega); have hz0 : w.heap.size < w1.heap.size := (by omega); have hcl := HCL.out _ hb)
    | (go_at_call 64; (have _t := tk2); (with_reducible refine (H3.out _ hb).mono ?_); rintro e w1 ⟨rfl, hb1⟩; clear tk2 _t; have tk3 : True := trivial; replace hb := hb1; clear hb1; (try clear c1 c2 hz0); obtain ⟨c1, c2⟩ := bcell hb; have hz1 : w.heap.size + 1 < w1.heap.size + 1 := (by have := hb.size; simp at this; omega); have hz0 : w.heap.size < w1.heap.size := (by omega); have hcl := HCL.out _ hb))
  all_goals
    have y0 : w1.cell? ⟨w.heap.size, 0, none⟩ = some (.int .i64 0) := by simp [go_sem, c1]
    have y1 : w1.cell? ⟨w.heap.size, 1, none⟩ = some (.int .i64 0) := by simp [go_sem, c1]
    have y2 : w1.cell? ⟨w.heap.size, 2, none⟩ = some (.int .i64 0) := by simp [go_sem, c1]
    have HB2 := (one_ok w rpB).trans (hb.mono (by simp))
    refine bodyPost_ret (v := parI 4 k ((k : Int) + q + 2)) ?_ rfl ⟨rfl, ?_⟩
    · simp [results, Try.results38, go_sem, y0, y1, y2, parI] <;> omega
    · exact (((HB2.setCell (by simp) _).setCell (by simp) _).setCell (by simp) _)

set_option maxRecDepth 20000 in
set_option maxHeartbeats 2000000 in
theorem rwrd_qd0 {b off n cap : Nat} {l : List Int} {w : World} (R : RRow w b off n cap l) (hwf : ∀ j, -2147483648 ≤ l.getD j 0 ∧ l.getD j 0 ≤ 2147483647) (hn : n ≤ 1000) (k : Nat) (hk : k < n) (z : Int) (hz : l.getD k 0 = z) (hs : spaceB z = false) (hq0 : leadP (l.drop k) = 0) (h3 : z = 34) (hq : fnd [34] (l.drop (k + 1)) = none) :
    Says 38 #[.slice (some ⟨b, off, none⟩) n cap, .int .i64 k] (parI 8 k ((k : Int) + 1)) w w := by
  have hm := R.max
  have hc := R.le
  unfold maxLen at hm
  have hcl := rcell R k hk hz
  have hblt := cell_lt hcl
  have hbn : ¬ b = w.heap.size := by omega
  have hbn2 : ¬ b = w.heap.size + 1 := by omega
  have hblt2 : b < w.heap.size + 1 := by omega
  have R0 := R.below (one_ok w rpB)
  have HCL := Lib.hid (fun (w' : World) (hb : Below (w.alloc rpB).heap.size (w.alloc rpB) w') => rcell (R0.below hb) k hk hz)
  have H1 := Lib.hid (refSpaceB (W := (w.alloc rpB)) (r := z) hs)
  have H2 := Lib.hid (refLeadB R0 k hq0)
  have H3 := Lib.hid (quoted9B R0 hn k hk z hz (o := none) (by rw [h3]; exact hq))
  (try simp only [Int.natCast_add, Int.cast_ofNat_Int] at H1 H2 H3)
  (try simp only [quoV] at H3)
  have hb : Below (w.alloc rpB).heap.size (w.alloc rpB) (w.alloc rpB) := Below.refl _ _
  have tk0 : True := trivial
  clear R R0 hz hwf hs hq hq0
  subst h3
  go_enter Try.func38, Try.ntmps38
  go_wp2_with (first
    | (go_at_call 62; (have _t := tk0); (with_reducible refine (H1.out _ hb).mono ?_); rintro e w1 ⟨rfl, hb1⟩; clear tk0 _t; have tk1 : True := trivial; replace hb := hb1; clear hb1; (try clear c1 c2 hz0); obtain ⟨c1, c2⟩ := bcell hb; have hz1 : w.heap.size + 1 < w1.heap.size + 1 := (by have := hb.size; simp at this; omega); have hz0 : w.heap.size < w1.heap.size := (by omega); have hcl := HCL.out _ hb)
    | (go_at_call 63; (have _t := tk1); (with_reducible refine (H2.out _ hb).mono ?_); rintro e w1 ⟨rfl, hb1⟩; clear tk1 _t; have tk2 : True := trivial; replace hb := hb1; clear hb1; (try clear c1 c2 hz0); obtain ⟨c1, c2⟩ := bcell hb; have hz1 : w.heap.size + 1 < w1.heap.size + 1 := (by have := hb.size; simp at this; omega); have hz0 : w.heap.size < w1.heap.size := (by omega); have hcl := HCL.out _ hb)
    | (go_at_call 64; (have _t := tk2); (with_reducible refine (H3.out _ hb).mono ?_); rintro e w1 ⟨rfl, hb1⟩; clear tk2 _t; have tk3 : True := trivial; replace hb := hb1; clear hb1; (try clear c1 c2 hz0); obtain ⟨c1, c2⟩ := bcell hb; have hz1 : w.heap.size + 1 < w1.heap.size + 1 := (by have := hb.size; simp at this; omega); have hz0 : w.heap.size < w1.heap.size := (by omega); have hcl := HCL.out _ hb))
  all_goals
    have y0 : w1.cell? ⟨w.heap.size, 0, none⟩ = some (.int .i64 0) := by simp [go_sem, c1]
    have y1 : w1.cell? ⟨w.heap.size, 1, none⟩ = some (.int .i64 0) := by simp [go_sem, c1]
    have y2 : w1.cell? ⟨w.heap.size, 2, none⟩ = some (.int .i64 0) := by simp [go_sem, c1]
    have HB2 := (one_ok w rpB).trans (hb.mono (by simp))
    refine bodyPost_ret (v := parI 8 k ((k : Int) + 1)) ?_ rfl ⟨rfl, ?_⟩
    · simp [results, Try.results38, go_sem, y0, y1, y2, parI] <;> omega
    · exact (((HB2.setCell (by simp) _).setCell (by simp) _).setCell (by simp) _)

set_option maxRecDepth 20000 in
set_option maxHeartbeats 2000000 in
theorem rwrd_qs1 {b off n cap : Nat} {l : List Int} {w : World} (R : RRow w b off n cap l) (hwf : ∀ j, -2147483648 ≤ l.getD j 0 ∧ l.getD j 0 ≤ 2147483647) (hn : n ≤ 1000) (k : Nat) (hk : k < n) (z : Int) (hz : l.getD k 0 = z) (hs : spaceB z = false) (hq0 : leadP (l.drop k) = 0) (h3 : z = 39) (q : Nat) (hq : fnd [39] (l.drop (k + 1)) = some q) (hqn : k + 2 + q ≤ n) :
    Says 38 #[.slice (some ⟨b, off, none⟩) n cap, .int .i64 k] (parI 4 k ((k : Int) + q + 2)) w w := by
  have hm := R.max
  have hc := R.le
  unfold maxLen at hm
  have hcl := rcell R k hk hz
  have hblt := cell_lt hcl
  have hbn : ¬ b = w.heap.size := by omega
  have hbn2 : ¬ b = w.heap.size + 1 := by omega
  have hblt2 : b < w.heap.size + 1 := by omega
  have R0 := R.below (one_ok w rpB)
  have HCL := Lib.hid (fun (w' : World) (hb : Below (w.alloc rpB).heap.size (w.alloc rpB) w') => rcell (R0.below hb) k hk hz)
  have H1 := Lib.hid (refSpaceB (W := (w.alloc rpB)) (r := z) hs)
  have H2 := Lib.hid (refLeadB R0 k hq0)
  have H3 := Lib.hid (quoted9B R0 hn k hk z hz (o := some q) (by rw [h3]; exact hq))
  (try simp only [Int.natCast_add, Int.cast_ofNat_Int] at H1 H2 H3)
  (try simp only [quoV] at H3)
  have i1 : (0 : Int) < (k : Int) + q + 2 := by omega
  have hb : Below (w.alloc rpB).heap.size (w.alloc rpB) (w.alloc rpB) := Below.refl _ _
  have tk0 : True := trivial
  clear R R0 hz hwf hs hq hq0
  subst h3
  go_enter Try.func38, Try.ntmps38
  go_wp2_with (first
    | (go_at_call 62; (have _t := tk0); (with_reducible refine (H1.out _ hb).mono ?_); rintro e w1 ⟨rfl, hb1⟩; clear tk0 _t; have tk1 : True := trivial; replace hb := hb1; clear hb1; (try clear c1 c2 hz0); obtain ⟨c1, c2⟩ := bcell hb; have hz1 : w.heap.size + 1 < w1.heap.size + 1 := (by have := hb.size; simp at this; omega); have hz0 : w.heap.size < w1.heap.size := (by omega); have hcl := HCL.out _ hb)
    | (go_at_call 63; (have _t := tk1); (with_reducible refine (H2.out _ hb).mono ?_); rintro e w1 ⟨rfl, hb1⟩; clear tk1 _t; have tk2 : True := trivial; replace hb := hb1; clear hb1; (try clear c1 c2 hz0); obtain ⟨c1, c2⟩ := bcell hb; have hz1 : w.heap.size + 1 < w1.heap.size + 1 := (by have := hb.size; simp at this; omega); have hz0 : w.heap.size < w1.heap.size := (by omega); have hcl := HCL.out _ hb)
    | (go_at_call 64; (have _t := tk2); (with_reducible refine (H3.out _ hb).mono ?_); rintro e w1 ⟨rfl, hb1⟩; clear tk2 _t; have tk3 : True := trivial; replace hb := hb1; clear hb1; (try clear c1 c2 hz0); obtain ⟨c1, c2⟩ := bcell hb; have hz1 : w.heap.size + 1 < w1.heap.size + 1 := (by have := hb.size; simp at this; omega); have hz0 : w.heap.size < w1.heap.size := (by omega); have hcl := HCL.out _ hb))
  all_goals
    have y0 : w1.cell? ⟨w.heap.size, 0, none⟩ = some (.int .i64 0) := by simp [go_sem, c1]
    have y1 : w1.cell? ⟨w.heap.size, 1, none⟩ = some (.int .i64 0) := by simp [go_sem, c1]
    have y2 : w1.cell? ⟨w.heap.size, 2, none⟩ = some (.int .i64 0) := by simp [go_sem, c1]
    have HB2 := (one_ok w rpB).trans (hb.mono (by simp))
    refine bodyPost_ret (v := parI 4 k ((k : Int) + q + 2)) ?_ rfl ⟨rfl, ?_⟩
    · simp [results, Try.results38, go_sem, y0, y1, y2, parI] <;> omega
    · exact (((HB2.setCell (by simp) _).setCell (by simp) _).setCell (by simp) _)

set_option maxRecDepth 20000 in
set_option maxHeartbeats 2000000 in
theorem rwrd_qs0 {b off n cap : Nat} {l : List Int} {w : World} (R : RRow w b off n cap l) (hwf : ∀ j, -2147483648 ≤ l.getD j 0 ∧ l.getD j 0 ≤ 2147483647) (hn : n ≤ 1000) (k : Nat) (hk : k < n) (z : Int) (hz : l.getD k 0 = z) (hs : spaceB z = false) (hq0 : leadP (l.drop k) = 0) (h3 : z = 39) (hq : fnd [39] (l.drop (k + 1)) = none) :
    Says 38 #[.slice (some ⟨b, off, none⟩) n cap, .int .i64 k] (parI 8 k ((k : Int) + 1)) w w := by
  have hm := R.max
  have hc := R.le
  unfold maxLen at hm
  have hcl := rcell R k hk hz
  have hblt := cell_lt hcl
  have hbn : ¬ b = w.heap.size := by omega
  have hbn2 : ¬ b = w.heap.size + 1 := by omega
  have hblt2 : b < w.heap.size + 1 := by omega
  have R0 := R.below (one_ok w rpB)
  have HCL := Lib.hid (fun (w' : World) (hb : Below (w.alloc rpB).heap.size (w.alloc rpB) w') => rcell (R0.below hb) k hk hz)
  have H1 := Lib.hid (refSpaceB (W := (w.alloc rpB)) (r := z) hs)
  have H2 := Lib.hid (refLeadB R0 k hq0)
  have H3 := Lib.hid (quoted9B R0 hn k hk z hz (o := none) (by rw [h3]; exact hq))
  (try simp only [Int.natCast_add, Int.cast_ofNat_Int] at H1 H2 H3)
  (try simp only [quoV] at H3)
  have hb : Below (w.alloc rpB).heap.size (w.alloc rpB) (w.alloc rpB) := Below.refl _ _
  have tk0 : True := trivial
  clear R R0 hz hwf hs hq hq0
  subst h3
  go_enter Try.func38, Try.ntmps38
  go_wp2_with (first
    | (go_at_call 62; (have _t := tk0); (with_reducible refine (H1.out _ hb).mono ?_); rintro e w1 ⟨rfl, hb1⟩; clear tk0 _t; have tk1 : True := trivial; replace hb := hb1; clear hb1; (try clear c1 c2 hz0); obtain ⟨c1, c2⟩ := bcell hb; have hz1 : w.heap.size + 1 < w1.heap.size + 1 := (by have := hb.size; simp at this; omega); have hz0 : w.heap.size < w1.heap.size := (by omega); have hcl := HCL.out _ hb)
    | (go_at_call 63; (have _t := tk1); (with_reducible refine (H2.out _ hb).mono ?_); rintro e w1 ⟨rfl, hb1⟩; clear tk1 _t; have tk2 : True := trivial; replace hb := hb1; clear hb1; (try clear c1 c2 hz0); obtain ⟨c1, c2⟩ := bcell hb; have hz1 : w.heap.size + 1 < w1.heap.size + 1 := (by have := hb.size; simp at this; omega); have hz0 : w.heap.size < w1.heap.size := (by omega); have hcl := HCL.out _ hb)
    | (go_at_call 64; (have _t := tk2); (with_reducible refine (H3.out _ hb).mono ?_); rintro e w1 ⟨rfl, hb1⟩; clear tk2 _t; have tk3 : True := trivial; replace hb := hb1; clear hb1; (try clear c1 c2 hz0); obtain ⟨c1, c2⟩ := bcell hb; have hz1 : w.heap.size + 1 < w1.heap.size + 1 := (by have := hb.size; simp at this; omega); have hz0 : w.heap.size < w1.heap.size := (by omega); have hcl := HCL.out _ hb))
  all_goals
    have y0 : w1.cell? ⟨w.heap.size, 0, none⟩ = some (.int .i64 0) := by simp [go_sem, c1]
    have y1 : w1.cell? ⟨w.heap.size, 1, none⟩ = some (.int .i64 0) := by simp [go_sem, c1]
    have y2 : w1.cell? ⟨w.heap.size, 2, none⟩ = some (.int .i64 0) := by simp [go_sem, c1]
    have HB2 := (one_ok w rpB).trans (hb.mono (by simp))
    refine bodyPost_ret (v := parI 8 k ((k : Int) + 1)) ?_ rfl ⟨rfl, ?_⟩
    · simp [results, Try.results38, go_sem, y0, y1, y2, parI] <;> omega
    · exact (((HB2.setCell (by simp) _).setCell (by simp) _).setCell (by simp) _)

set_option maxRecDepth 20000 in
set_option maxHeartbeats 2000000 in
theorem rwrd_j {b off n cap : Nat} {l : List Int} {w : World} (R : RRow w b off n cap l) (hwf : ∀ j, -2147483648 ≤ l.getD j 0 ∧ l.getD j 0 ≤ 2147483647) (hn : n ≤ 1000) (k : Nat) (hk : k < n) (z : Int) (hz : l.getD k 0 = z) (hs : spaceB z = false) (hq0 : leadP (l.drop k) = 0) (h34 : ¬ z = 34) (h39 : ¬ z = 39) :
    Says 38 #[.slice (some ⟨b, off, none⟩) n cap, .int .i64 k] (parI 8 k ((k : Int) + 1)) w w := by
  have hm := R.max
  have hc := R.le
  unfold maxLen at hm
  have hcl := rcell R k hk hz
  have hblt := cell_lt hcl
  have hbn : ¬ b = w.heap.size := by omega
  have hbn2 : ¬ b = w.heap.size + 1 := by omega
  have hblt2 : b < w.heap.size + 1 := by omega
  have R0 := R.below (one_ok w rpB)
  have HCL := Lib.hid (fun (w' : World) (hb : Below (w.alloc rpB).heap.size (w.alloc rpB) w') => rcell (R0.below hb) k hk hz)
  have H1 := Lib.hid (refSpaceB (W := (w.alloc rpB)) (r := z) hs)
  have H2 := Lib.hid (refLeadB R0 k hq0)
  (try simp only [Int.natCast_add, Int.cast_ofNat_Int] at H1 H2)
  have e34 : (z == 34) = false := by simpa using h34
  have e39 : (z == 39) = false := by simpa using h39
  have hb : Below (w.alloc rpB).heap.size (w.alloc rpB) (w.alloc rpB) := Below.refl _ _
  have tk0 : True := trivial
  clear R R0 hz hwf hs hq0
  go_enter Try.func38, Try.ntmps38
  go_wp2_with (first
    | (go_at_call 62; (have _t := tk0); (with_reducible refine (H1.out _ hb).mono ?_); rintro e w1 ⟨rfl, hb1⟩; clear tk0 _t; have tk1 : True := trivial; replace hb := hb1; clear hb1; (try clear c1 c2 hz0); obtain ⟨c1, c2⟩ := bcell hb; have hz1 : w.heap.size + 1 < w1.heap.size + 1 := (by have := hb.size; simp at this; omega); have hz0 : w.heap.size < w1.heap.size := (by omega); have hcl := HCL.out _ hb)
    | (go_at_call 63; (have _t := tk1); (with_reducible refine (H2.out _ hb).mono ?_); rintro e w1 ⟨rfl, hb1⟩; clear tk1 _t; have tk2 : True := trivial; replace hb := hb1; clear hb1; (try clear c1 c2 hz0); obtain ⟨c1, c2⟩ := bcell hb; have hz1 : w.heap.size + 1 < w1.heap.size + 1 := (by have := hb.size; simp at this; omega); have hz0 : w.heap.size < w1.heap.size := (by omega); have hcl := HCL.out _ hb))
  all_goals
    have y0 : w1.cell? ⟨w.heap.size, 0, none⟩ = some (.int .i64 0) := by simp [go_sem, c1]
    have y1 : w1.cell? ⟨w.heap.size, 1, none⟩ = some (.int .i64 0) := by simp [go_sem, c1]
    have y2 : w1.cell? ⟨w.heap.size, 2, none⟩ = some (.int .i64 0) := by simp [go_sem, c1]
    have HB2 := (one_ok w rpB).trans (hb.mono (by simp))
    refine bodyPost_ret (v := parI 8 k ((k : Int) + 1)) ?_ rfl ⟨rfl, ?_⟩
    · simp [results, Try.results38, go_sem, y0, y1, y2, parI] <;> omega
    · exact (((HB2.setCell (by simp) _).setCell (by simp) _).setCell (by simp) _)

set_option maxRecDepth 20000 in
set_option maxHeartbeats 2000000 in
theorem rwrd_sp {b off n cap : Nat} {l : List Int} {w : World} (R : RRow w b off n cap l) (hwf : ∀ j, -2147483648 ≤ l.getD j 0 ∧ l.getD j 0 ≤ 2147483647) (hn : n ≤ 1000) (k : Nat) (hk : k < n) (z : Int) (hz : l.getD k 0 = z) (hs : spaceB z = true) (q : Nat) (hq : runP spaceB (l.drop k) = q) :
    Says 38 #[.slice (some ⟨b, off, none⟩) n cap, .int .i64 k] (parI 3 k ((k : Int) + q)) w w := by
  have hm := R.max
  have hc := R.le
  unfold maxLen at hm
  have HCL := Lib.hid (fun (x : Nat) (hx : x < n) => rcell R x hx rfl)
  have hcl := rcell R k hk hz
  have hblt := cell_lt hcl
  have hbn : ¬ b = w.heap.size := by omega
  have HGD := Lib.hid (show ∀ x, (l.drop k).getD x 0 = l.getD (k + x) 0 from fun x => by
    rw [List.getD_eq_getElem?_getD, List.getD_eq_getElem?_getD, List.getElem?_drop])
  have HLM := Lib.hid (show (l.drop k).length = n - k by rw [List.length_drop, R.len])
  have HS := Lib.hid (fun (r : Int) (v : Bool) (h : spaceB r = v) (w : World) => (refSpace_any r w).mono (fun e w' (hh : e = .returned (.bool (spaceB r)) ∧ w = w') => show e = .returned (.bool v) ∧ w = w' from ⟨by rw [hh.1, h], hh.2⟩))
  have H1 := Lib.hid (fun w => HS.out z true hs w)
  have HQ := Lib.hid hq
  clear R hs hz hq hwf
  go_enter Try.func38, Try.ntmps38
  go_wp2_with (go_at_call 62; (with_reducible refine (H1.out _).mono ?_); rintro e w1 ⟨rfl, rfl⟩)
  go_loop [5] (fun iv => ∃ i : Nat, iv = .int .i64 i ∧ k ≤ i ∧ i ≤ n ∧ Hid (∀ x, x < i - k → spaceB ((l.drop k).getD x 0) = true)) (fun iv => n - (intOf iv).toNat)
  case atStart => exact ⟨k, rfl, Nat.le_refl _, by omega, Lib.hid (fun x hx => by omega)⟩
  case round =>
    obtain ⟨i, rfl, hki, hit, HJ⟩ := hrel
    by_cases hlt : i < n
    · have hci := HCL.out i hlt
      have hgd := HGD.out (i - k)
      rw [show k + (i - k) = i by omega] at hgd
      obtain ⟨y, hy⟩ : ∃ y, y = l.getD i 0 := ⟨_, rfl⟩
      rw [← hy] at hci hgd
      have HG := Lib.hid hgd
      clear hy hgd
      cases hsp : spaceB y
      · have HF := Lib.hid (show i = k + q by
          have := runP_of spaceB (l.drop k) (i - k) HJ.out (by rw [HLM.out]; omega) (by rw [HG.out]; exact hsp)
          rw [HQ.out] at this; omega)
        have H2 := Lib.hid (fun w => HS.out y false hsp w)
        clear hsp
        go_wp2_with (go_at_call 62; (with_reducible refine (H2.out _).mono ?_); rintro e w1 ⟨rfl, rfl⟩)
        refine bodyPost_ret (v := parI 3 k i) ?_ rfl ⟨?_, ?_⟩
        · simp [results, Try.results38, go_sem, parI]
        · exact ret_par rfl rfl (by have := HF.out; omega)
        · first
            | exact one_ok w rpB
            | exact ((((one_ok w rpB).setCell (p := ⟨w.heap.size, 0, none⟩) (Nat.le_refl _) _).setCell (p := ⟨w.heap.size, 1, none⟩) (Nat.le_refl _) _).setCell (p := ⟨w.heap.size, 2, none⟩) (Nat.le_refl _) _)
            | exact (one_ok w _)
      · have HK := Lib.hid (show ∀ x, x < (i + 1) - k → spaceB ((l.drop k).getD x 0) = true from fun x hx => by
          by_cases h : x = i - k
          · rw [h, HG.out]; exact hsp
          · exact HJ.out x (by omega))
        have H2 := Lib.hid (fun w => HS.out y true hsp w)
        clear hsp
        go_wp2_with (go_at_call 62; (with_reducible refine (H2.out _).mono ?_); rintro e w1 ⟨rfl, rfl⟩)
        go_round
        case rel => exact ⟨i + 1, by go_num, by omega, by omega, HK⟩
        case measure => simp [intOf]; omega
    · obtain rfl : i = n := by omega
      have HF := Lib.hid (show i = k + q by
        have := runP_all spaceB (l.drop k) (fun x hx => HJ.out x (by rw [HLM.out] at hx; exact hx))
        rw [HQ.out, HLM.out] at this; omega)
      clear hlt
      go_wp2
      refine bodyPost_ret (v := parI 3 k i) ?_ rfl ⟨?_, ?_⟩
      · simp [results, Try.results38, go_sem, parI]
      · exact ret_par rfl rfl (by have := HF.out; omega)
      · first
          | exact one_ok w rpB
          | exact ((((one_ok w rpB).setCell (p := ⟨w.heap.size, 0, none⟩) (Nat.le_refl _) _).setCell (p := ⟨w.heap.size, 1, none⟩) (Nat.le_refl _) _).setCell (p := ⟨w.heap.size, 2, none⟩) (Nat.le_refl _) _)
          | exact (one_ok w _)

theorem leadP_0 {l : List Int} {k : Nat} (hk : k < l.length) (h : startB (l.getD k 0) = false) : leadP (l.drop k) = 0 := by
  rw [drop_cons hk, leadP, if_neg (by rw [h]; decide)]
theorem leadP_1 {l : List Int} {k : Nat} (hk : k < l.length) (h : startB (l.getD k 0) = true) : 0 < leadP (l.drop k) := by
  rw [drop_cons hk, leadP, if_pos h, run, List.takeWhile_cons, if_pos (start_is_name h)]
  simp

theorem rword_any {b off n cap : Nat} {l : List Int} {w : World} (R : RRow w b off n cap l) (hwf : ∀ j, -2147483648 ≤ l.getD j 0 ∧ l.getD j 0 ≤ 2147483647) (hn : n ≤ 1000) (k : Nat) (hk : k < n) {t : Nat × Nat} (ht : wdP (l.drop k) = t) :
    Says 38 #[.slice (some ⟨b, off, none⟩) n cap, .int .i64 k] (parI t.1 k ((k : Int) + t.2)) w w := by
  have hl := R.len
  obtain ⟨z, hz⟩ : ∃ z, l.getD k 0 = z := ⟨_, rfl⟩
  have h0 : (l.drop k).getD 0 0 = z := by rw [← hz]; simp
  have hw := wdP_ok (l.drop k) (by rw [dropl, hl]; omega)
  rw [ht, dropl, hl] at hw
  unfold wdP at ht
  rw [h0] at ht
  cases hs : spaceB z
  · rw [if_neg (by rw [hs]; decide)] at ht
    cases hst : startB z
    · rw [if_neg (by rw [hst]; decide)] at ht
      have h0' := leadP_0 (l := l) (k := k) (by omega) (by rw [hz]; exact hst)
      by_cases hq : z = 34 ∨ z = 39
      · rw [if_pos hq] at ht
        unfold quoD at ht
        have hdd : (l.drop k).drop 1 = l.drop (k + 1) := dd ..
        rw [hdd] at ht
        rcases hq with rfl | rfl
        · cases hf : fnd [34] (l.drop (k + 1)) with
          | none => rw [hf] at ht; subst ht; exact rwrd_qd0 R hwf hn k hk 34 hz hs h0' rfl hf
          | some q =>
            rw [hf] at ht; subst ht
            have := rwrd_qd1 R hwf hn k hk 34 hz hs h0' rfl q hf (by simp only at hw; omega)
            rwa [show (k : Int) + q + 2 = (k : Int) + ((q + 2 : Nat)) by omega] at this
        · cases hf : fnd [39] (l.drop (k + 1)) with
          | none => rw [hf] at ht; subst ht; exact rwrd_qs0 R hwf hn k hk 39 hz hs h0' rfl hf
          | some q =>
            rw [hf] at ht; subst ht
            have := rwrd_qs1 R hwf hn k hk 39 hz hs h0' rfl q hf (by simp only at hw; omega)
            rwa [show (k : Int) + q + 2 = (k : Int) + ((q + 2 : Nat)) by omega] at this
      · rw [if_neg hq] at ht
        subst ht
        exact rwrd_j R hwf hn k hk z hz hs h0' (fun h => hq (.inl h)) (fun h => hq (.inr h))
    · rw [if_pos hst] at ht
      subst ht
      exact rwrd_nm R hwf hn k hk z hz hs _ rfl (leadP_1 (by omega) (by rw [hz]; exact hst)) (by simp only at hw; omega)
  · rw [if_pos hs] at ht
    subst ht
    exact rwrd_sp R hwf hn k hk z hz hs _ rfl
theorem rwordB {b off n cap : Nat} {l : List Int} {W : World} (R : RRow W b off n cap l) (hwf : ∀ j, -2147483648 ≤ l.getD j 0 ∧ l.getD j 0 ≤ 2147483647) (hn : n ≤ 1000) (k : Nat) (hk : k < n) {t : Nat × Nat} (ht : wdP (l.drop k) = t) (w : World) (hb : Below W.heap.size W w) :
    Says 38 #[.slice (some ⟨b, off, none⟩) n cap, .int .i64 k] (parI t.1 k ((k : Int) + t.2)) W w :=
  (rword_any (R.below hb) hwf hn k hk ht).mono fun e w' ⟨he, hw⟩ => ⟨he, Below.more hb hw⟩

end Go.Proofs.Ytpjcheelafegbaa
