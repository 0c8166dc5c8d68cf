/-
  DtdlexWhole: for every row of runes it returns true.
-/
import Derived.Test.YtpjcheelafegbaaDtA
namespace Go.Proofs.Ytpjcheelafegbaa
open Go.RowKit
set_option linter.unusedVariables false

theorem inP_all {res : List Int → List PartA} {l : List Int} {n : Nat} (hl : l.length = n) : inP res l 0 n = res l := by
  unfold inP
  rw [if_pos (by omega)]
  simp only [Int.toNat_natCast, Int.toNat_zero, List.drop_zero]
  rw [List.take_of_length_le (by omega)]
  simp [shiftP]

set_option maxRecDepth 20000 in
set_option maxHeartbeats 4000000 in
theorem dtdlexWhole_any (a : Option Addr) (len cap : Nat) (zs : List Int) (w : World) (hlen : zs.length = len) (hc : len ≤ cap) (hm : cap ≤ maxLen) (hat : AtCells w a (zs.map (.int .i32))) :
    Calls Try.prog 6 #[.slice a len cap] w fun e w' => e = .returned (.bool true) ∧ Below w.heap.size w w' := by
  have HF := Lib.hid (fewD_any a len cap w hc hm)
  obtain ⟨n, hn⟩ : ∃ n, n = min len 160 := ⟨_, rfl⟩
  obtain ⟨l, hl⟩ : ∃ l, l = zs.take 160 := ⟨_, rfl⟩
  have hln : l.length = n := by rw [hl, hn, List.length_take, hlen]; omega
  have hatl : AtCells w a (l.map (.int .i32)) := by rw [hl, List.map_take]; exact hat.take 160
  have R : NRow w a n cap l := ⟨hln, by omega, hm, hatl⟩
  rw [← hn] at HF
  obtain ⟨P1, hP1⟩ : ∃ P, P = dtP l := ⟨_, rfl⟩
  obtain ⟨P2, hP2⟩ : ∃ P, P = rowP itP 0 l := ⟨_, rfl⟩
  obtain ⟨P3, hP3⟩ : ∃ P, P = rowP wdP 0 l := ⟨_, rfl⟩
  have HC1 := Lib.hid (show chainD 0 P1 n by rw [hP1, ← hln]; exact dtP_chain l)
  have HC2 := Lib.hid (show chainD 0 P2 n by rw [hP2, ← hln]; have := rowF_chain itP_reads l.length 0 l (Nat.le_refl _); rwa [Nat.zero_add] at this)
  have HC3 := Lib.hid (show chainD 0 P3 n by rw [hP3, ← hln]; have := rowF_chain wdP_reads l.length 0 l (Nat.le_refl _); rwa [Nat.zero_add] at this)
  have HP1 := Lib.hid (fun (w' : World) (hb : Below w.heap.size w w') => show Calls Try.prog 13 #[.slice a n cap, .int .i64 0, .int .i64 n] w' (OwnD w' P1) from by
    have := PartsD_any (R.below hb) (by omega) 0 n; rwa [inP_all hln, ← hP1] at this)
  have HP2 := Lib.hid (fun (w' : World) (hb : Below w.heap.size w w') => show Calls Try.prog 16 #[.slice a n cap, .int .i64 0, .int .i64 n] w' (OwnD w' P2) from by
    have := Items_any (R.below hb) (by omega) 0 n; rwa [inP_all hln, ← hP2] at this)
  have HP3 := Lib.hid (fun (w' : World) (hb : Below w.heap.size w w') => show Calls Try.prog 18 #[.slice a n cap, .int .i64 0, .int .i64 n] w' (OwnD w' P3) from by
    have := Words_any (R.below hb) (by omega) 0 n; rwa [inP_all hln, ← hP3] at this)
  have q1 : P1.length ≤ 1000 := by have := (chainD_len HC1.out).1; omega
  have q2 : P2.length ≤ 1000 := by have := (chainD_len HC2.out).1; omega
  have q3 : P3.length ≤ 1000 := by have := (chainD_len HC3.out).1; omega
  have HV1 := Lib.hid (fun (v : Option Addr) (c : Nat) (w' : World) (h : AtCells w' v (parsCells P1)) => covers_any v P1.length c P1 0 n w' rfl q1 h HC1.out)
  have HV2 := Lib.hid (fun (v : Option Addr) (c : Nat) (w' : World) (h : AtCells w' v (parsCells P2)) => covers_any v P2.length c P2 0 n w' rfl q2 h HC2.out)
  have HV3 := Lib.hid (fun (v : Option Addr) (c : Nat) (w' : World) (h : AtCells w' v (parsCells P3)) => covers_any v P3.length c P3 0 n w' rfl q3 h HC3.out)
  simp only [Int.cast_ofNat_Int] at HV1 HV2 HV3
  have tk0 : True := trivial
  clear hat hlen hc hn hl hatl hln R hP1 hP2 hP3 q1 q2 q3
  go_enter Try.func6, Try.ntmps6
  go_wp2_with (first
    | (go_at_call 11; (with_reducible refine HF.out.mono ?_); rintro e w' ⟨rfl, rfl⟩; have HB := Lib.hid (Below.refl w.heap.size w))
    | (go_at_call 13; (with_reducible refine (HP1.out _ HB.out).mono ?_); rintro e w1 ⟨v, rfl, hown, hb1⟩; obtain ⟨va, vc, rfl, hvc⟩ := owns_slice hown; have HA := Lib.hid (AtCells.of_owns hown); have HB1 := Lib.hid (Below.more HB.out hb1); clear hown hb1 HB; have HB := HB1; clear HB1)
    | (go_at_call 16; (with_reducible refine (HP2.out _ HB.out).mono ?_); rintro e w1 ⟨v, rfl, hown, hb1⟩; obtain ⟨va, vc, rfl, hvc⟩ := owns_slice hown; have HA := Lib.hid (AtCells.of_owns hown); have HB1 := Lib.hid (Below.more HB.out hb1); clear hown hb1 HB; have HB := HB1; clear HB1)
    | (go_at_call 18; (with_reducible refine (HP3.out _ HB.out).mono ?_); rintro e w1 ⟨v, rfl, hown, hb1⟩; obtain ⟨va, vc, rfl, hvc⟩ := owns_slice hown; have HA := Lib.hid (AtCells.of_owns hown); have HB1 := Lib.hid (Below.more HB.out hb1); clear hown hb1 HB; have HB := HB1; clear HB1)
    | (go_at_call 23; (with_reducible refine (HV3.out _ _ _ HA.out).mono ?_); rintro e w1 ⟨rfl, hb1⟩; have HB1 := Lib.hid (Below.more HB.out hb1); clear hb1 HB HA; have HB := HB1; clear HB1)
    | (go_at_call 23; (with_reducible refine (HV2.out _ _ _ HA.out).mono ?_); rintro e w1 ⟨rfl, hb1⟩; have HB1 := Lib.hid (Below.more HB.out hb1); clear hb1 HB HA; have HB := HB1; clear HB1)
    | (go_at_call 23; (with_reducible refine (HV1.out _ _ _ HA.out).mono ?_); rintro e w1 ⟨rfl, hb1⟩; have HB1 := Lib.hid (Below.more HB.out hb1); clear hb1 HB HA; have HB := HB1; clear HB1)
    | (go_at_call 15; (with_reducible refine (awakeD_any _).mono ?_); rintro e w1 ⟨rfl, hb1⟩; have HB1 := Lib.hid (Below.more HB.out hb1); clear hb1 HB; have HB := HB1; clear HB1))
  go_ret
  exact ⟨rfl, HB.out⟩

end Go.Proofs.Ytpjcheelafegbaa
