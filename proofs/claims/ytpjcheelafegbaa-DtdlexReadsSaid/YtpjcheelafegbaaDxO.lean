/-
  Contract of layer 9: inBrackets, its ways.
-/
import Derived.Test.YtpjcheelafegbaaDxN
namespace Go.Proofs.Ytpjcheelafegbaa
open Go.RowKit
set_option linter.unusedVariables false

/-- A subset with its brackets, from a place on. -/
def brP (k : Nat) (s : List Int) : List PartA :=
  [(5, k, k + 1)] ++ (if 0 < sbP (s.drop 1) then [(6, k + 1, k + 1 + sbP (s.drop 1))] else []) ++ (if 1 + sbP (s.drop 1) < s.length then [(5, k + 1 + sbP (s.drop 1), k + 1 + sbP (s.drop 1) + 1)] else [])
theorem br_one (x y z : Int) (w : World) (B : Nat) (hB : B ≤ w.heap.size) : (w.alloc (.cells #[.int .i64 x, .int .i64 y, .int .i64 z] 32)).ownsRow B 32 3 (.slice (some ⟨w.heap.size, 0, none⟩) 1 1) 1 [.int .i64 x, .int .i64 y, .int .i64 z] :=
  World.ownsRow_lit w #[.int .i64 x, .int .i64 y, .int .i64 z] 1 hB (by unfold maxLen; omega) rfl

set_option maxRecDepth 20000 in
set_option maxHeartbeats 4000000 in
theorem br_11 {a : Option Addr} {n cap : Nat} {l : List Int} {w : World} (R : NRow w a n cap l) (hn : n ≤ 1000) (k : Nat) (hk : k < n) (q : Nat) (hq : sbP (l.drop (k + 1)) = q) (hq0 : 0 < q) (hqn : k + 1 + q < n) :
    Calls Try.prog 60 #[.slice a n cap, .int .i64 (k : Nat)] w (OwnD w ([(5, k, k + 1)] ++ [(6, k + 1, k + 1 + q)] ++ [(5, k + 1 + q, k + 1 + q + 1)])) := by
  obtain ⟨i0, hi, hz0, hz1', hz2'⟩ := info_parts Try.infoDPar
  have HI := Lib.hid (And.intro hi (And.intro hz0 (And.intro hz1' hz2')))
  have hm := R.max
  have hc := R.le
  unfold maxLen at hm
  have HNS := Lib.hid (newSubset_any R hn)
  have HEN := Lib.hid (fun (w1 : World) (p : Nat) (A0 : Nat) (hs : Sub A0 w1 p a n cap l 0 (.slice none 0 0) []) => end_any hs (k + 1) (by omega) hn)
  rw [hq] at HEN
  simp only [Nat.add_zero, Int.natCast_add, Int.cast_ofNat_Int] at HEN
  have tok2 : True := trivial
  clear R hq hi hz0 hz1' hz2'
  go_enter Try.func60, Try.ntmps60
  go_wp2_with (first
    | (go_at_call 67; (with_reducible refine HNS.out.mono ?_); rintro e w1 ⟨⟨p, rfl, hp, hsub, hsz⟩, hb1⟩; have HSB := Lib.hid (And.intro hsub (And.intro hsz hp)); clear hsub hsz)
    | (go_at_call 77; (with_reducible refine (HEN.out _ _ _ HSB.out.1).mono ?_); rintro e w1' ⟨rfl, hkp⟩; have HB1 := Lib.hid (hkp.below hb1 hp hb1.size); have hz1 := HB1.out.size; have HO2 := Lib.hid (br_one 5 k ((k : Int) + 1) w1' w.heap.size hz1); have HB2 := Lib.hid (HB1.out.alloc hz1 (.cells #[.int .i64 5, .int .i64 (k : Nat), .int .i64 ((k : Int) + 1)] 32)); have hz2 := HB2.out.size; clear hkp)
    | (at_builtin; (have _t := tok2); refine wpList_append_own _ rfl _ _ 25 rfl w.heap.size 32 i0 _ 3 24 Try.underlying25 HI.out.1 HI.out.2.1 HI.out.2.2.1 HI.out.2.2.2 rfl (by decide) _ _ _ rfl (HO2.out.alloc _) _ _ _ [.int .i64 6, .int .i64 ((k : Int) + 1), .int .i64 ((k : Int) + 1 + q)] rfl rfl (new_cells_at _ [.int .i64 6, .int .i64 ((k : Int) + 1), .int .i64 ((k : Int) + 1 + q)] _ _ (by simp)) (one_par _ _ _) (by unfold maxLen; omega) (by omega) (by simp; omega) ?_; intro v3 w3 hown3 hg3 _; clear tok2 _t; have tok3 : True := trivial; obtain ⟨a3, e3, rfl, _⟩ := owns_slice hown3; have HO3 := Lib.hid hown3; have HB3 := Lib.hid (below_grown_alloc HB2.out (by omega) hg3 (fun x hx => (HO2.out.lt x hx).1)); have hz3 := HB3.out.size; clear hown3 hg3)
    | (at_builtin; (have _t := tok3); refine wpList_append_own _ rfl _ _ 25 rfl w.heap.size 32 i0 _ 3 24 Try.underlying25 HI.out.1 HI.out.2.1 HI.out.2.2.1 HI.out.2.2.2 rfl (by decide) _ _ _ rfl (HO3.out.alloc _) _ _ _ [.int .i64 5, .int .i64 ((k : Int) + 1 + q), .int .i64 ((k : Int) + 1 + q + 1)] rfl rfl (new_cells_at _ [.int .i64 5, .int .i64 ((k : Int) + 1 + q), .int .i64 ((k : Int) + 1 + q + 1)] _ _ (by simp)) (one_par _ _ _) (by unfold maxLen; omega) (by omega) (by simp; omega) ?_; intro v4 w4 hown4 hg4 _; clear tok3 _t; have tok4 : True := trivial; obtain ⟨a4, e4, rfl, _⟩ := owns_slice hown4; have HO4 := Lib.hid hown4; have HB4 := Lib.hid (below_grown_alloc HB3.out (by omega) hg4 (fun x hx => (HO3.out.lt x hx).1)); have hz4 := HB4.out.size; clear hown4 hg4))
  go_ret
  exact ⟨_, rfl, HO4.out, HB4.out⟩

set_option maxRecDepth 20000 in
set_option maxHeartbeats 4000000 in
theorem br_10 {a : Option Addr} {n cap : Nat} {l : List Int} {w : World} (R : NRow w a n cap l) (hn : n ≤ 1000) (k : Nat) (hk : k < n) (q : Nat) (hq : sbP (l.drop (k + 1)) = q) (hq0 : 0 < q) (hqn : k + 1 + q = n) :
    Calls Try.prog 60 #[.slice a n cap, .int .i64 (k : Nat)] w (OwnD w ([(5, k, k + 1)] ++ [(6, k + 1, k + 1 + q)])) := by
  obtain ⟨i0, hi, hz0, hz1', hz2'⟩ := info_parts Try.infoDPar
  have HI := Lib.hid (And.intro hi (And.intro hz0 (And.intro hz1' hz2')))
  have hm := R.max
  have hc := R.le
  unfold maxLen at hm
  have HNS := Lib.hid (newSubset_any R hn)
  have HEN := Lib.hid (fun (w1 : World) (p : Nat) (A0 : Nat) (hs : Sub A0 w1 p a n cap l 0 (.slice none 0 0) []) => end_any hs (k + 1) (by omega) hn)
  rw [hq] at HEN
  simp only [Nat.add_zero, Int.natCast_add, Int.cast_ofNat_Int] at HEN
  have tok2 : True := trivial
  clear R hq hi hz0 hz1' hz2'
  go_enter Try.func60, Try.ntmps60
  go_wp2_with (first
    | (go_at_call 67; (with_reducible refine HNS.out.mono ?_); rintro e w1 ⟨⟨p, rfl, hp, hsub, hsz⟩, hb1⟩; have HSB := Lib.hid (And.intro hsub (And.intro hsz hp)); clear hsub hsz)
    | (go_at_call 77; (with_reducible refine (HEN.out _ _ _ HSB.out.1).mono ?_); rintro e w1' ⟨rfl, hkp⟩; have HB1 := Lib.hid (hkp.below hb1 hp hb1.size); have hz1 := HB1.out.size; have HO2 := Lib.hid (br_one 5 k ((k : Int) + 1) w1' w.heap.size hz1); have HB2 := Lib.hid (HB1.out.alloc hz1 (.cells #[.int .i64 5, .int .i64 (k : Nat), .int .i64 ((k : Int) + 1)] 32)); have hz2 := HB2.out.size; clear hkp)
    | (at_builtin; (have _t := tok2); refine wpList_append_own _ rfl _ _ 25 rfl w.heap.size 32 i0 _ 3 24 Try.underlying25 HI.out.1 HI.out.2.1 HI.out.2.2.1 HI.out.2.2.2 rfl (by decide) _ _ _ rfl (HO2.out.alloc _) _ _ _ [.int .i64 6, .int .i64 ((k : Int) + 1), .int .i64 ((k : Int) + 1 + q)] rfl rfl (new_cells_at _ [.int .i64 6, .int .i64 ((k : Int) + 1), .int .i64 ((k : Int) + 1 + q)] _ _ (by simp)) (one_par _ _ _) (by unfold maxLen; omega) (by omega) (by simp; omega) ?_; intro v3 w3 hown3 hg3 _; clear tok2 _t; have tok3 : True := trivial; obtain ⟨a3, e3, rfl, _⟩ := owns_slice hown3; have HO3 := Lib.hid hown3; have HB3 := Lib.hid (below_grown_alloc HB2.out (by omega) hg3 (fun x hx => (HO2.out.lt x hx).1)); have hz3 := HB3.out.size; clear hown3 hg3))
  go_ret
  exact ⟨_, rfl, HO3.out, HB3.out⟩

set_option maxRecDepth 20000 in
set_option maxHeartbeats 4000000 in
theorem br_01 {a : Option Addr} {n cap : Nat} {l : List Int} {w : World} (R : NRow w a n cap l) (hn : n ≤ 1000) (k : Nat) (hk : k < n) (q : Nat) (hq : sbP (l.drop (k + 1)) = q) (hq0 : q = 0) (hqn : k + 1 + q < n) :
    Calls Try.prog 60 #[.slice a n cap, .int .i64 (k : Nat)] w (OwnD w ([(5, k, k + 1)] ++ [(5, k + 1, k + 1 + 1)])) := by
  obtain ⟨i0, hi, hz0, hz1', hz2'⟩ := info_parts Try.infoDPar
  have HI := Lib.hid (And.intro hi (And.intro hz0 (And.intro hz1' hz2')))
  have hm := R.max
  have hc := R.le
  unfold maxLen at hm
  have HNS := Lib.hid (newSubset_any R hn)
  have HEN := Lib.hid (fun (w1 : World) (p : Nat) (A0 : Nat) (hs : Sub A0 w1 p a n cap l 0 (.slice none 0 0) []) => end_any hs (k + 1) (by omega) hn)
  rw [hq] at HEN
  subst hq0
  simp only [Nat.add_zero] at hqn
  simp only [Nat.add_zero, Int.natCast_add, Int.cast_ofNat_Int] at HEN
  have tok2 : True := trivial
  clear R hq hi hz0 hz1' hz2'
  go_enter Try.func60, Try.ntmps60
  go_wp2_with (first
    | (go_at_call 67; (with_reducible refine HNS.out.mono ?_); rintro e w1 ⟨⟨p, rfl, hp, hsub, hsz⟩, hb1⟩; have HSB := Lib.hid (And.intro hsub (And.intro hsz hp)); clear hsub hsz)
    | (go_at_call 77; (with_reducible refine (HEN.out _ _ _ HSB.out.1).mono ?_); rintro e w1' ⟨rfl, hkp⟩; have HB1 := Lib.hid (hkp.below hb1 hp hb1.size); have hz1 := HB1.out.size; have HO2 := Lib.hid (br_one 5 k ((k : Int) + 1) w1' w.heap.size hz1); have HB2 := Lib.hid (HB1.out.alloc hz1 (.cells #[.int .i64 5, .int .i64 (k : Nat), .int .i64 ((k : Int) + 1)] 32)); have hz2 := HB2.out.size; clear hkp)
    | (at_builtin; (have _t := tok2); refine wpList_append_own _ rfl _ _ 25 rfl w.heap.size 32 i0 _ 3 24 Try.underlying25 HI.out.1 HI.out.2.1 HI.out.2.2.1 HI.out.2.2.2 rfl (by decide) _ _ _ rfl (HO2.out.alloc _) _ _ _ [.int .i64 5, .int .i64 ((k : Int) + 1), .int .i64 ((k : Int) + 1 + 1)] rfl rfl (new_cells_at _ [.int .i64 5, .int .i64 ((k : Int) + 1), .int .i64 ((k : Int) + 1 + 1)] _ _ (by simp)) (one_par _ _ _) (by unfold maxLen; omega) (by omega) (by simp; omega) ?_; intro v3 w3 hown3 hg3 _; clear tok2 _t; have tok3 : True := trivial; obtain ⟨a3, e3, rfl, _⟩ := owns_slice hown3; have HO3 := Lib.hid hown3; have HB3 := Lib.hid (below_grown_alloc HB2.out (by omega) hg3 (fun x hx => (HO2.out.lt x hx).1)); have hz3 := HB3.out.size; clear hown3 hg3))
  go_ret
  exact ⟨_, rfl, HO3.out, HB3.out⟩

set_option maxRecDepth 20000 in
set_option maxHeartbeats 4000000 in
theorem br_00 {a : Option Addr} {n cap : Nat} {l : List Int} {w : World} (R : NRow w a n cap l) (hn : n ≤ 1000) (k : Nat) (hk : k < n) (q : Nat) (hq : sbP (l.drop (k + 1)) = q) (hq0 : q = 0) (hqn : k + 1 + q = n) :
    Calls Try.prog 60 #[.slice a n cap, .int .i64 (k : Nat)] w (OwnD w ([(5, k, k + 1)])) := by
  obtain ⟨i0, hi, hz0, hz1', hz2'⟩ := info_parts Try.infoDPar
  have HI := Lib.hid (And.intro hi (And.intro hz0 (And.intro hz1' hz2')))
  have hm := R.max
  have hc := R.le
  unfold maxLen at hm
  have HNS := Lib.hid (newSubset_any R hn)
  have HEN := Lib.hid (fun (w1 : World) (p : Nat) (A0 : Nat) (hs : Sub A0 w1 p a n cap l 0 (.slice none 0 0) []) => end_any hs (k + 1) (by omega) hn)
  rw [hq] at HEN
  subst hq0
  simp only [Nat.add_zero] at hqn
  simp only [Nat.add_zero, Int.natCast_add, Int.cast_ofNat_Int] at HEN
  have tok2 : True := trivial
  clear R hq hi hz0 hz1' hz2'
  go_enter Try.func60, Try.ntmps60
  go_wp2_with (first
    | (go_at_call 67; (with_reducible refine HNS.out.mono ?_); rintro e w1 ⟨⟨p, rfl, hp, hsub, hsz⟩, hb1⟩; have HSB := Lib.hid (And.intro hsub (And.intro hsz hp)); clear hsub hsz)
    | (go_at_call 77; (with_reducible refine (HEN.out _ _ _ HSB.out.1).mono ?_); rintro e w1' ⟨rfl, hkp⟩; have HB1 := Lib.hid (hkp.below hb1 hp hb1.size); have hz1 := HB1.out.size; have HO2 := Lib.hid (br_one 5 k ((k : Int) + 1) w1' w.heap.size hz1); have HB2 := Lib.hid (HB1.out.alloc hz1 (.cells #[.int .i64 5, .int .i64 (k : Nat), .int .i64 ((k : Int) + 1)] 32)); have hz2 := HB2.out.size; clear hkp))
  go_ret
  exact ⟨_, rfl, HO2.out, HB2.out⟩

end Go.Proofs.Ytpjcheelafegbaa
