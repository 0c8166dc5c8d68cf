/-
  SpliceBack: for every row of bytes and every row of changes it returns true.
-/
import Derived.Test.YtpjcheelafegbaaSqL
namespace Go.Proofs.Ytpjcheelafegbaa
open Go.Shelf Go.RowKit Go.Lib Go.Sort
set_option linter.unusedVariables false

theorem rowB_owned {W : World} {base n c : Nat} {a : Option Addr} {B : List Int} (own : W.ownsRow base 5 1 (.slice a n c) n (B.map (.int .u8))) (hc : n ≤ c) (hl : B.length = n) (hn : n ≤ 1000) : RowB W a n c B := ⟨fun h => owns_nil own h, hl, hn, hc, owns_cap own, AtCells.of_owns own⟩

set_option maxRecDepth 20000 in
set_option maxHeartbeats 4000000 in
theorem spliceBack_any (a : Option Addr) (len cap : Nat) (zs : List Int) (a1 : Option Addr) (n c : Nat) (L : List Chg) (w : World) (w0 : Arg .u8 w a len cap zs) (w1 : ArgC w a1 n c L) :
    Calls Try.prog 9 #[.slice a len cap, .slice a1 n c] w fun e w' => e = .returned (.bool true) ∧ Below w.heap.size w w' := by
  obtain ⟨m, hm⟩ : ∃ m, m = min len 80 := ⟨_, rfl⟩
  obtain ⟨B, hB⟩ : ∃ B, B = zs.take 80 := ⟨_, rfl⟩
  have R : RowB w a m cap B := ⟨w0.nil, by rw [hB, List.length_take, w0.length]; omega, by omega, by have := w0.le; omega, w0.max, by rw [hB, List.map_take]; exact w0.cells.take 80⟩
  have HS := Lib.hid (fun (W : World) => hm ▸ short_any a len cap W w0.le w0.max)
  have hlen8 := fewL_length w1.len
  have HF := Lib.hid (few_any a1 n c L w w1.len (Nat.le_trans w1.le w1.max) w1.at_ (fun x hx => ⟨(w1.held x hx).le, (w1.held x hx).max⟩))
  have HH := Lib.hid (fun (W : World) (hb : Below w.heap.size w W) => fewL_held w1.held hb)
  have HSH := Lib.hid (fun (x : Chg) (hx : x ∈ fewL L) => fewL_short hx)
  obtain ⟨q, hq⟩ : ∃ q, q = min n 8 := ⟨_, rfl⟩
  have hq8 : q ≤ 8 := by omega
  obtain ⟨l, hl⟩ : ∃ l, l = fewL L := ⟨_, rfl⟩
  have hfl : fewL L = (L.take 8).map shC := rfl
  rw [← hfl] at HF
  rw [← hl, ← hq] at HF
  rw [← hl] at HH HSH hlen8
  rw [← hq] at hlen8
  have HL := Lib.hid hlen8
  have HR := Lib.hid R
  have hbl : B.length ≤ 80 := by rw [R.length]; omega
  have HBL := Lib.hid hbl
  clear hm hB w0 w1 hlen8 hq hl hfl R hbl
  by_cases hyes : ∃ C Kp, Yes B l C Kp
  · obtain ⟨C, Kp, hy⟩ := hyes
    have HY := Lib.hid hy
    have tok1 : True := trivial
    clear hy
    go_enter Try.func9, Try.ntmps9
    go_wp2_with (first
      | (go_at_call 30; (with_reducible refine (HS.out _).mono ?_); rintro e w' ⟨rfl, rfl⟩)
      | (go_at_call 24; (with_reducible refine HF.out.mono ?_); rintro e w1 ⟨v1, rfl, own1, hb1⟩; obtain ⟨b1, d1, rfl, hd1⟩ := owns_slice own1; have HO1 := Lib.hid (And.intro own1 hb1); clear own1 hb1 hd1)
      | (go_at_call 26; (with_reducible refine (ours_any _ _ _ l w1 HL.out (by omega) (AtCells.of_owns HO1.out.1)).mono ?_); rintro e w2 ⟨v2, rfl, own2, hb2⟩; have HO2 := Lib.hid (And.intro own2 (Below.more HO1.out.2 hb2)); clear own2 hb2)
      | (go_at_call 31; (have _t := tok1); (with_reducible refine (apply_yes (HR.out.below HO2.out.2) HO2.out.1 HL.out (by omega) (HH.out _ HO2.out.2) HY.out).mono ?_); clear tok1 _t; have tok2 : True := trivial; rintro e w3 ⟨v9, v10, K, rfl, o9, o10, hK, hh, hb3⟩; obtain ⟨a9, c9, rfl, hc9⟩ := owns_slice o9; have hyb := yes_back HY.out HSH.out hK; have hcl : C.length ≤ 1000 := (by have h1 := hyb.2; have h2 := HBL.out; have h3 := HL.out; omega); obtain ⟨A, hA⟩ := hyb.1; have HO3 := Lib.hid (And.intro (rowB_owned o9 hc9 rfl hcl) (And.intro o10 (And.intro hh (Below.more HO2.out.2 hb3)))); have HYB := Lib.hid (And.intro hA (show K.length = q by have h1 := congrArg List.length hK; have h2 := congrArg List.length hK; rw [List.length_map] at h1; have h4 := HL.out; exact kp_len HY.out hK h4)); clear o9 o10 hK hh hb3 hc9 hcl hA hyb)
      | (go_at_call 31; (have _t := tok2); (with_reducible refine (apply_yes HO3.out.1 HO3.out.2.1 HYB.out.2 (by omega) HO3.out.2.2.1 HYB.out.1).mono ?_); clear tok2 _t; have tok3 : True := trivial; rintro e w4 ⟨u9, u10, K2, rfl, o9, o10, _, _, hb4⟩; obtain ⟨e9, f9, rfl, hf9⟩ := owns_slice o9; have HB4 := Lib.hid (Below.more HO3.out.2.2.2 hb4); have hr1 := run_strB (P := Try.prog) w4 54 5 9 Try.underlying54 Try.underlying5 Try.underlying9 e9 B.length f9 B rfl (AtCells.of_owns o9); have hr2 := run_strB (P := Try.prog) w4 54 5 9 Try.underlying54 Try.underlying5 Try.underlying9 a m cap B HR.out.length (HR.out.at_.below HB4.out); clear o9 o10 hb4 hf9)
      | (go_at_call 29; (with_reducible refine (awake12_any _).mono ?_); rintro e w5 ⟨rfl, hb5⟩; have HB5 := Lib.hid (Below.more HB4.out hb5); clear hb5))
    go_ret
    exact ⟨rfl, HB5.out⟩
  · have HN := Lib.hid (show ∀ C Kp, ¬ Yes B l C Kp from fun C Kp h => hyes ⟨C, Kp, h⟩)
    clear hyes
    go_enter Try.func9, Try.ntmps9
    go_wp2_with (first
      | (go_at_call 30; (with_reducible refine (HS.out _).mono ?_); rintro e w' ⟨rfl, rfl⟩)
      | (go_at_call 24; (with_reducible refine HF.out.mono ?_); rintro e w1 ⟨v1, rfl, own1, hb1⟩; obtain ⟨b1, d1, rfl, hd1⟩ := owns_slice own1; have HO1 := Lib.hid (And.intro own1 hb1); clear own1 hb1 hd1)
      | (go_at_call 26; (with_reducible refine (ours_any _ _ _ l w1 HL.out (by omega) (AtCells.of_owns HO1.out.1)).mono ?_); rintro e w2 ⟨v2, rfl, own2, hb2⟩; have HO2 := Lib.hid (And.intro own2 (Below.more HO1.out.2 hb2)); clear own2 hb2)
      | (go_at_call 31; (with_reducible refine (apply_ref (HR.out.below HO2.out.2) HO2.out.1 HL.out (by omega) (HH.out _ HO2.out.2) HN.out).mono ?_); rintro e w3 ⟨k, hk, rfl, hb3⟩; have HB4 := Lib.hid (Below.more HO2.out.2 hb3); clear hb3)
      | (go_at_call 29; (with_reducible refine (awake12_any _).mono ?_); rintro e w5 ⟨rfl, hb5⟩; have HB5 := Lib.hid (Below.more HB4.out hb5); clear hb5))
    go_ret
    exact ⟨rfl, HB5.out⟩

end Go.Proofs.Ytpjcheelafegbaa
