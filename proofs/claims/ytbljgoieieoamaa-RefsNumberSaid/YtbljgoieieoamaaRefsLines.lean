/-
  RefsLines: for every row of runes it returns true.
-/
import Derived.Test.YtbljgoieieoamaaRfL
import Derived.Test.YtbljgoieieoamaaArgs
namespace Go.Proofs.Ytbljgoieieoamaa
open Go.RowKit
set_option linter.unusedVariables false

theorem row100 {w : World} {a : Option Addr} {len cap : Nat} {zs : List Int} (w0 : Arg .i32 w a len cap zs) : NRw w a (min len 100) cap (zs.take 100) :=
  ⟨by rw [List.length_take, w0.length]; omega, by have := w0.le; omega, w0.max, by rw [List.map_take]; exact w0.cells.take 100, fun z hz => by
    have h := w0.wf z (List.mem_of_mem_take hz)
    simp [Lit.wf, IntKind.min, IntKind.max, IntKind.signed, IntKind.bits] at h; omega⟩

set_option maxRecDepth 20000 in
set_option maxHeartbeats 4000000 in
theorem refsLines_any (a : Option Addr) (len cap : Nat) (zs : List Int) (w : World) (w0 : Arg .i32 w a len cap zs) :
    Says 11 #[.slice a len cap] (.bool true) w w := by
  have R := row100 w0
  obtain ⟨m, hm⟩ : ∃ m, m = min len 100 := ⟨_, rfl⟩
  obtain ⟨l, hl⟩ : ∃ l, l = zs.take 100 := ⟨_, rfl⟩
  rw [← hm, ← hl] at R
  have hm100 : m ≤ 100 := by omega
  have HS := Lib.hid (fun (W : World) => hm ▸ few14_any a len cap W w0.le w0.max)
  have HR := Lib.hid R
  have hll := linT_len l l.length
  rw [R.len] at hll
  obtain ⟨o, ho⟩ : ∃ o, o = linP l := ⟨_, rfl⟩
  have hol : o.length ≤ m := by rw [ho]; unfold linP; rw [R.len]; exact hll
  have HO := Lib.hid (show (linP l = o) ∧ linP o = o ∧ Runes o ∧ (∀ x ∈ o, x ≠ 13) from ⟨ho.symm, by rw [ho]; exact linP_same _ (linP_no l), by rw [ho]; exact linP_wf R.wf, by rw [ho]; exact linP_no l⟩)
  obtain ⟨q, hq⟩ : ∃ q, q = o.length := ⟨_, rfl⟩
  have HQ := Lib.hid hq
  rw [← hq] at hol
  clear hm hl w0 R hll ho hq
  go_enter Try.func11, Try.ntmps11
  go_wp2_with (first
    | (go_at_call 20; (with_reducible refine (HS.out _).mono ?_); rintro e w' ⟨rfl, rfl⟩)
    | (go_at_call 33; (with_reducible refine (lines_any HR.out (by omega)).mono ?_); rintro e w2 ⟨v2, rfl, own2, hb2⟩; (rw [HO.out.1, ← HQ.out] at own2); obtain ⟨a2, c2, rfl, R2⟩ := nrw_own own2 HO.out.2.2.1; have HR2 := Lib.hid (And.intro R2 hb2); clear own2 hb2 R2))
  go_loopw [12] (fun iv wr => ∃ k : Nat, iv = .int .i64 k ∧ k ≤ q ∧ wr = w2) (fun iv _ => q - (intOf iv).toNat)
  case atStart => exact ⟨0, rfl, Nat.zero_le _, rfl⟩
  case round =>
    obtain ⟨k, rfl, hk, rfl⟩ := hrel
    by_cases hlt : k < q
    · obtain ⟨b, off, rfl, hc⟩ := HR2.out.1.cells.int (k := k) (by rw [← HQ.out]; exact hlt)
      have hne := HO.out.2.2.2 (o.getD k 0) (by rw [List.getD_eq_getElem?_getD, List.getElem?_eq_getElem (by rw [← HQ.out]; exact hlt)]; simp)
      obtain ⟨z, hz⟩ : ∃ z, z = o.getD k 0 := ⟨_, rfl⟩
      rw [← hz] at hc hne
      have hzb : (z == 13) = false := by simpa using hne
      have hkz : (k : Int) < (q : Int) := by omega
      have hkw : IntKind.i64.wrap ((k : Int) + 1) = (k : Int) + 1 := by rw [IntKind.wrap_i64]; omega
      clear hz hne
      go_wp2
      go_roundw
      case rel => first | exact ⟨k + 1, by go_num, by omega, trivial⟩ | exact ⟨k + 1, by go_num, by omega, rfl⟩
      case measure => simp [intOf]; omega
    · obtain rfl : k = q := by omega
      have hkf : ¬ (k : Int) < (k : Int) := by omega
      have tok1 : True := trivial
      clear hlt
      go_wp2_with (first
        | (go_at_call 34; (with_reducible refine (refLines_any (HR.out.below HR2.out.2) (by omega)).mono ?_); rintro e w3 ⟨v3, rfl, own3, hb3⟩; (rw [HO.out.1, ← HQ.out] at own3); obtain ⟨a3, c3, rfl, R3⟩ := nrw_own own3 HO.out.2.2.1; have HR3 := Lib.hid (And.intro R3 (And.intro (HR2.out.1.below hb3) (Below.more HR2.out.2 hb3))); clear own3 hb3 R3)
        | (go_at_call 30; (have _t := tok1); (with_reducible refine (same14_true HR3.out.2.1 HR3.out.1 (by omega)).mono ?_); clear tok1 _t; rintro e w4 ⟨rfl, hb4⟩; have HR4 := Lib.hid (And.intro (HR3.out.2.1.below hb4) (Below.more HR3.out.2.2 hb4)); clear hb4)
        | (go_at_call 33; (with_reducible refine (lines_any HR4.out.1 (by omega)).mono ?_); rintro e w5 ⟨v5, rfl, own5, hb5⟩; (rw [HO.out.2.1, ← HQ.out] at own5); obtain ⟨a5, c5, rfl, R5⟩ := nrw_own own5 HO.out.2.2.1; have HR5 := Lib.hid (And.intro R5 (And.intro (HR4.out.1.below hb5) (Below.more HR4.out.2 hb5))); clear own5 hb5 R5)
        | (go_at_call 30; (with_reducible refine (same14_true HR5.out.1 HR5.out.2.1 (by omega)).mono ?_); rintro e w6 ⟨rfl, hb6⟩; have HB6 := Lib.hid (Below.more HR5.out.2.2 hb6); clear hb6)
        | (go_at_call 23; (with_reducible refine (awake14_any _).mono ?_); rintro e w7 ⟨rfl, hb7⟩; have HB7 := Lib.hid (Below.more HB6.out hb7); clear hb7))
      go_ret
      exact ⟨rfl, HB7.out⟩

end Go.Proofs.Ytbljgoieieoamaa
