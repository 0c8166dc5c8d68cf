/-
  RefsPut: for every row of runes and any quote it returns true.
-/
import Derived.Test.YtbljgoieieoamaaRfQ
import Derived.Test.YtbljgoieieoamaaRfO2
import Derived.Test.YtbljgoieieoamaaRfO3
import Derived.Test.YtbljgoieieoamaaArgs
namespace Go.Proofs.Ytbljgoieieoamaa
open Go.RowKit
set_option linter.unusedVariables false

theorem row100p {w : World} {a : Option Addr} {len cap : Nat} {zs : List Int} (w0 : Arg .i32 w a len cap zs) : NRw w a (min len 100) cap (zs.take 100) :=
  ⟨by rw [List.length_take, w0.length]; omega, by have := w0.le; omega, w0.max, by rw [List.map_take]; exact w0.cells.take 100, fun z hz => by
    have h := w0.wf z (List.mem_of_mem_take hz)
    simp [Lit.wf, IntKind.min, IntKind.max, IntKind.signed, IntKind.bits] at h; omega⟩
theorem refPut_any {w : World} {a : Option Addr} {n cap : Nat} {l : List Int} (R : NRw w a n cap l) (hn : n ≤ 1000) (q : Int) : Calls Try.prog 31 #[.slice a n cap, .int .i32 q] w (OwnRunes w (putP l q)) := by
  by_cases h1 : q = 34
  · subst h1; exact refPut_dq R hn
  by_cases h2 : q = 39
  · subst h2; exact refPut_sq R hn
  exact refPut_no R hn q h1 h2

set_option maxRecDepth 20000 in
set_option maxHeartbeats 4000000 in
theorem refsPut_any (a : Option Addr) (len cap : Nat) (zs : List Int) (q : Int) (w : World) (w0 : Arg .i32 w a len cap zs) :
    Says 8 #[.slice a len cap, .int .i32 q] (.bool true) w w := by
  have R := row100p w0
  obtain ⟨m, hm⟩ : ∃ m, m = min len 100 := ⟨_, rfl⟩
  obtain ⟨l, hl⟩ : ∃ l, l = zs.take 100 := ⟨_, rfl⟩
  rw [← hm, ← hl] at R
  have hm100 : m ≤ 100 := by omega
  have HS := Lib.hid (fun (W : World) => hm ▸ few14_any a len cap W w0.le w0.max)
  have HR := Lib.hid R
  have hpl := putT_len l q l.length
  obtain ⟨o, ho⟩ : ∃ o, o = putP l q := ⟨_, rfl⟩
  have hol : o.length ≤ 600 := by rw [ho]; unfold putP; rw [R.len] at hpl ⊢; omega
  have HO := Lib.hid (show putP l q = o ∧ Runes o ∧ plainP o = some l from ⟨ho.symm, by rw [ho]; exact putP_wf R.wf _, by rw [ho]; exact plain_put l q⟩)
  obtain ⟨k, hk⟩ : ∃ k, k = o.length := ⟨_, rfl⟩
  have HQ := Lib.hid hk
  have HLN := Lib.hid (And.intro R.len R.wf)
  rw [← hk] at hol
  have tok1 : True := trivial
  clear hm hl w0 R hpl ho hk
  go_enter Try.func8, Try.ntmps8
  go_wp2_with (first
    | (go_at_call 20; (with_reducible refine (HS.out _).mono ?_); rintro e w' ⟨rfl, rfl⟩)
    | (go_at_call 28; (with_reducible refine (put_any HR.out (by omega) q).mono ?_); rintro e w2 ⟨v2, rfl, own2, hb2⟩; (rw [HO.out.1, ← HQ.out] at own2); obtain ⟨a2, c2, rfl, R2⟩ := nrw_own own2 HO.out.2.1; have HR2 := Lib.hid (And.intro R2 hb2); clear own2 hb2 R2)
    | (go_at_call 29; (with_reducible refine (plainly_any HR2.out.1 (by omega)).mono ?_); rintro e w3 ⟨h3, hb3⟩; (rw [HO.out.2.2] at h3); obtain ⟨v3, rfl, own3⟩ := h3; (rw [HLN.out.1] at own3); obtain ⟨a3, c3, rfl, R3⟩ := nrw_own own3 HLN.out.2; have HR3 := Lib.hid (And.intro R3 (And.intro (HR2.out.1.below hb3) (Below.more HR2.out.2 hb3))); clear own3 hb3 R3)
    | (go_at_call 31; (with_reducible refine (refPut_any (HR.out.below HR3.out.2.2) (by omega) q).mono ?_); rintro e w4 ⟨v4, rfl, own4, hb4⟩; (rw [HO.out.1, ← HQ.out] at own4); obtain ⟨a4, c4, rfl, R4⟩ := nrw_own own4 HO.out.2.1; have HR4 := Lib.hid (And.intro R4 (And.intro (HR3.out.2.1.below hb4) (And.intro (HR3.out.1.below hb4) (Below.more HR3.out.2.2 hb4)))); clear own4 hb4 R4)
    | (go_at_call 30; (have _t := tok1); (with_reducible refine (same14_true HR4.out.2.1 HR4.out.1 (by omega)).mono ?_); clear tok1 _t; rintro e w5 ⟨rfl, hb5⟩; have HR5 := Lib.hid (And.intro (HR4.out.2.2.1.below hb5) (Below.more HR4.out.2.2.2 hb5)); clear hb5)
    | (go_at_call 30; (with_reducible refine (same14_true HR5.out.1 (HR.out.below HR5.out.2) (by omega)).mono ?_); rintro e w6 ⟨rfl, hb6⟩; have HB6 := Lib.hid (Below.more HR5.out.2 hb6); clear hb6)
    | (go_at_call 23; (with_reducible refine (awake14_any _).mono ?_); rintro e w7 ⟨rfl, hb7⟩; have HB7 := Lib.hid (Below.more HB6.out hb7); clear hb7))
  go_ret
  exact ⟨rfl, HB7.out⟩

end Go.Proofs.Ytbljgoieieoamaa
