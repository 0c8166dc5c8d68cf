/-
  DtdlexItems: for every row of runes and any two places it returns true.
-/
import Derived.Test.YtpjcheelafegbaaDtB
namespace Go.Proofs.Ytpjcheelafegbaa
open Go.RowKit
set_option linter.unusedVariables false

set_option maxRecDepth 20000 in
set_option maxHeartbeats 4000000 in
theorem dtdlexItems_any (a : Option Addr) (len cap : Nat) (zs : List Int) (f t : Int) (w : World) (hlen : zs.length = len) (hc : len ≤ cap) (hm : cap ≤ maxLen) (hat : AtCells w a (zs.map (.int .i32))) (hwf : ∀ z ∈ zs, (Lit.int .i32 z).wf = true) :
    Calls Try.prog 4 #[.slice a len cap, .int .i64 f, .int .i64 t] w fun e w' => e = .returned (.bool true) ∧ Below w.heap.size w w' := by
  have HF := Lib.hid (fewD_any a len cap w hc hm)
  obtain ⟨n, hn⟩ : ∃ n, n = min len 160 := ⟨_, rfl⟩
  obtain ⟨l, hl⟩ : ∃ l, l = zs.take 160 := ⟨_, rfl⟩
  have hln : l.length = n := by rw [hl, hn, List.length_take, hlen]; omega
  have hatl : AtCells w a (l.map (.int .i32)) := by rw [hl, List.map_take]; exact hat.take 160
  have R : NRow w a n cap l := ⟨hln, by omega, hm, hatl⟩
  have hn160 : n ≤ 160 := by omega
  have hwl : ∀ j, -2147483648 ≤ l.getD j 0 ∧ l.getD j 0 ≤ 2147483647 := fun j => by rw [hl]; exact wf_bounds hwf 160 j
  rw [← hn] at HF
  obtain ⟨P0, hP0⟩ : ∃ P, inP (rowP itP 0) l f t = P := ⟨_, rfl⟩
  have HP0 := Lib.hid (fun (w' : World) (hb : Below w.heap.size w w') => hP0 ▸ Items_any (R.below hb) (by omega) f t)
  have HR0 := Lib.hid (fun (w' : World) (hb : Below w.heap.size w w') => hP0 ▸ ritems_any (R.below hb) hwl (by omega) f t)
  have q0 : P0.length ≤ 1000 := by rw [← hP0]; have := inP_length (res := (rowP itP 0)) (rowP_facts itP_reads) l f t; omega
  have HS0 := Lib.hid (fun (a1 a2 : Option Addr) (c1 c2 : Nat) (w' : World) (h1 : AtCells w' a1 (parsCells P0)) (h2 : AtCells w' a2 (parsCells P0)) => sameD_any P0 P0.length rfl q0 a1 a2 c1 c2 w' h1 h2)
  obtain ⟨P1, hP1⟩ : ∃ P, inP (rowP wdP 0) l f t = P := ⟨_, rfl⟩
  have HP1 := Lib.hid (fun (w' : World) (hb : Below w.heap.size w w') => hP1 ▸ Words_any (R.below hb) (by omega) f t)
  have HR1 := Lib.hid (fun (w' : World) (hb : Below w.heap.size w w') => hP1 ▸ rwords_any (R.below hb) hwl (by omega) f t)
  have q1 : P1.length ≤ 1000 := by rw [← hP1]; have := inP_length (res := (rowP wdP 0)) (rowP_facts wdP_reads) l f t; omega
  have HS1 := Lib.hid (fun (a1 a2 : Option Addr) (c1 c2 : Nat) (w' : World) (h1 : AtCells w' a1 (parsCells P1)) (h2 : AtCells w' a2 (parsCells P1)) => sameD_any P1 P1.length rfl q1 a1 a2 c1 c2 w' h1 h2)
  have tk0 : True := trivial
  clear hat hlen hc hn hl hatl hln R hwl hwf hP0 q0 hP1 q1
  go_enter Try.func4, Try.ntmps4
  go_wp2_with (first
    | (go_at_call 11; (with_reducible refine HF.out.mono ?_); rintro e w' ⟨rfl, rfl⟩; have HB := Lib.hid (Below.refl w.heap.size w))
    | (go_at_call 16; (with_reducible refine (HP0.out _ HB.out).mono ?_); rintro e w1 ⟨v, rfl, hown, hb1⟩; obtain ⟨va, vc, rfl, hvc⟩ := owns_slice hown; have HA := Lib.hid (AtCells.of_owns hown); have HB1 := Lib.hid (Below.more HB.out hb1); clear hown hb1 HB; have HB := HB1; clear HB1)
    | (go_at_call 17; (with_reducible refine (HR0.out _ HB.out).mono ?_); rintro e w1 ⟨v, rfl, hown, hb1⟩; obtain ⟨ra, rc, rfl, hrc⟩ := owns_slice hown; have HA2 := Lib.hid (AtCells.of_owns hown); have HA1 := Lib.hid (HA.out.below hb1); clear HA; have HA := HA1; clear HA1; have HB1 := Lib.hid (Below.more HB.out hb1); clear hown hb1 HB; have HB := HB1; clear HB1)
    | (go_at_call 18; (with_reducible refine (HP1.out _ HB.out).mono ?_); rintro e w1 ⟨v, rfl, hown, hb1⟩; obtain ⟨va, vc, rfl, hvc⟩ := owns_slice hown; have HA := Lib.hid (AtCells.of_owns hown); have HB1 := Lib.hid (Below.more HB.out hb1); clear hown hb1 HB; have HB := HB1; clear HB1)
    | (go_at_call 19; (with_reducible refine (HR1.out _ HB.out).mono ?_); rintro e w1 ⟨v, rfl, hown, hb1⟩; obtain ⟨ra, rc, rfl, hrc⟩ := owns_slice hown; have HA2 := Lib.hid (AtCells.of_owns hown); have HA1 := Lib.hid (HA.out.below hb1); clear HA; have HA := HA1; clear HA1; have HB1 := Lib.hid (Below.more HB.out hb1); clear hown hb1 HB; have HB := HB1; clear HB1)
    | (go_at_call 12; (with_reducible refine (HS1.out _ _ _ _ _ HA.out HA2.out).mono ?_); rintro e w1 ⟨rfl, hb1⟩; have HB1 := Lib.hid (Below.more HB.out hb1); clear hb1 HB HA HA2; have HB := HB1; clear HB1)
    | (go_at_call 12; (with_reducible refine (HS0.out _ _ _ _ _ HA.out HA2.out).mono ?_); rintro e w1 ⟨rfl, hb1⟩; have HB1 := Lib.hid (Below.more HB.out hb1); clear hb1 HB HA HA2; have HB := HB1; clear HB1)
    | (go_at_call 15; (with_reducible refine (awakeD_any _).mono ?_); rintro e w1 ⟨rfl, hb1⟩; have HB1 := Lib.hid (Below.more HB.out hb1); clear hb1 HB; have HB := HB1; clear HB1))
  go_ret
  exact ⟨rfl, HB.out⟩

end Go.Proofs.Ytpjcheelafegbaa
