/-
  RefsApart: for every row of runes and either quote it returns true.
-/
import Derived.Test.YtbljgoieieoamaaRfM
import Derived.Test.YtbljgoieieoamaaArgs
namespace Go.Proofs.Ytbljgoieieoamaa
open Go.RowKit
set_option linter.unusedVariables false

theorem row100a {w : World} {a : Option Addr} {len cap : Nat} {zs : List Int} (w0 : Arg .i32 w a len cap zs) : NRw w a (min len 100) cap (zs.take 100) :=
  ⟨by rw [List.length_take, w0.length]; omega, by have := w0.le; omega, w0.max, by rw [List.map_take]; exact w0.cells.take 100, fun z hz => by
    have h := w0.wf z (List.mem_of_mem_take hz)
    simp [Lit.wf, IntKind.min, IntKind.max, IntKind.signed, IntKind.bits] at h; omega⟩

theorem pcsF_len : ∀ (f k : Nat) (l : List Int), (pcsF f k l).length ≤ f
  | 0, _, _ => by simp [pcsF]
  | f + 1, k, [] => by simp [pcsF]
  | f + 1, k, r :: l => by
    have := pcsF_len f (k + (pieceP (r :: l)).2.1) ((r :: l).drop (pieceP (r :: l)).2.1)
    simp only [pcsF, List.length_cons]; omega

theorem getD_mem {l : List Int} {k : Nat} (h : k < l.length) : l.getD k 0 ∈ l := by rw [List.getD_eq_getElem?_getD, List.getElem?_eq_getElem h]; simp

set_option maxRecDepth 20000 in
set_option maxHeartbeats 4000000 in
theorem refsApart_any (a : Option Addr) (len cap : Nat) (zs : List Int) (sg1 : Bool) (w : World) (w0 : Arg .i32 w a len cap zs) :
    Says 10 #[.slice a len cap, .bool sg1] (.bool true) w w := by
  have R := row100a w0
  obtain ⟨m, hm⟩ : ∃ m, m = min len 100 := ⟨_, rfl⟩
  obtain ⟨l, hl⟩ : ∃ l, l = zs.take 100 := ⟨_, rfl⟩
  rw [← hm, ← hl] at R
  have hm100 : m ≤ 100 := by omega
  have HS := Lib.hid (fun (W : World) => hm ▸ few14_any a len cap W w0.le w0.max)
  have HR := Lib.hid R
  cases sg1 with
  | false =>
    have hpl := putT_len l 34 l.length
    obtain ⟨o, ho⟩ : ∃ o, o = putP l 34 := ⟨_, rfl⟩
    have hol : o.length ≤ 600 := by rw [ho]; unfold putP; rw [R.len] at hpl ⊢; omega
    have HO := Lib.hid (show putP l 34 = o ∧ Runes o ∧ (∀ x ∈ o, apB 34 x) ∧ (∀ x ∈ pcs o, x.1 ≠ 4) from ⟨ho.symm, by rw [ho]; exact putP_wf R.wf _, by rw [ho]; exact putP_apart l 34 (by omega), by rw [ho]; exact pcs_put_kinds l 34⟩)
    obtain ⟨q, hq⟩ : ∃ q, q = o.length := ⟨_, rfl⟩
    have HQ := Lib.hid hq
    rw [← hq] at hol
    clear hm hl w0 R hpl ho hq
    go_enter Try.func10, Try.ntmps10
    go_wp2_with (first
      | (go_at_call 20; (with_reducible refine (HS.out _).mono ?_); rintro e w' ⟨rfl, rfl⟩)
      | (go_at_call 28; (with_reducible refine (put_any HR.out (by omega) 34).mono ?_); rintro e w2 ⟨v2, rfl, own2, hb2⟩; (rw [HO.out.1, ← HQ.out] at own2); obtain ⟨a2, c2, rfl, R2⟩ := nrw_own own2 HO.out.2.1; have HR2 := Lib.hid (And.intro R2 hb2); clear own2 hb2 R2))
    go_loopw [19] (fun iv wr => ∃ k : Nat, iv = .int .i64 k ∧ k ≤ q ∧ wr = w2) (fun iv _ => q - (intOf iv).toNat)
    case atStart => exact ⟨0, rfl, Nat.zero_le _, rfl⟩
    case round =>
      obtain ⟨k, rfl, hk, rfl⟩ := hrel
      by_cases hlt : k < q
      · obtain ⟨b, off, rfl, hc⟩ := HR2.out.1.cells.int (k := k) (by rw [← HQ.out]; exact hlt)
        have hne := HO.out.2.2.1 (o.getD k 0) (getD_mem (by rw [← HQ.out]; exact hlt))
        obtain ⟨z, hz⟩ : ∃ z, z = o.getD k 0 := ⟨_, rfl⟩
        rw [← hz] at hc hne
        obtain ⟨n1, n2, n3, n4, n5⟩ := hne
        have z1 : (z == 60) = false := by simpa using n1
        have z2 : (z == 34) = false := by simpa using n2
        have z3 : (z == 9) = false := by simpa using n3
        have z4 : (z == 10) = false := by simpa using n4
        have z5 : (z == 13) = false := by simpa using n5
        have hkz : (k : Int) < (q : Int) := by omega
        have hkw : IntKind.i64.wrap ((k : Int) + 1) = (k : Int) + 1 := by rw [IntKind.wrap_i64]; omega
        clear hz
        go_wp2
        go_roundw
        case rel => first | exact ⟨k + 1, by go_num, by omega, trivial⟩ | exact ⟨k + 1, by go_num, by omega, rfl⟩
        case measure => simp [intOf]; omega
      · obtain rfl : k = q := by omega
        have hkf : ¬ (k : Int) < (k : Int) := by omega
        clear hlt
        obtain ⟨P, hP⟩ : ∃ P, P = pcs o := ⟨_, rfl⟩
        have HPK := Lib.hid (show ∀ x ∈ P, x.1 ≠ 4 from by rw [hP]; exact HO.out.2.2.2)
        have HPE := Lib.hid hP
        clear hP
        go_wp2_with (go_at_call 21; (with_reducible refine (pieces_any HR2.out.1 (by omega)).mono ?_); rintro e w3 ⟨v3, rfl, own3, hb3⟩; (rw [← HPE.out] at own3); obtain ⟨a3, c3, rfl, hc3⟩ := owns_slice own3; have HP3 := Lib.hid (And.intro (AtCells.of_owns own3) (Below.more HR2.out.2 hb3)); have hpm := own3.1; clear own3 hb3 hc3)
        obtain ⟨pn, hpn⟩ : ∃ pn, pn = P.length := ⟨_, rfl⟩
        rw [← hpn]
        have HPN := Lib.hid hpn
        have hpb : pn ≤ 600 := by have h := pcsF_len o.length 0 o; rw [hpn, HPE.out]; unfold pcs; rw [← HQ.out] at h ⊢; omega
        clear hpn hpm
        go_loopw [46] (fun iv wr2 => ∃ j : Nat, iv = .int .i64 j ∧ j ≤ pn ∧ Hid (Below w3.heap.size w3 wr2)) (fun iv _ => pn - (intOf iv).toNat)
        case atStart => exact ⟨0, rfl, Nat.zero_le _, Lib.hid (Below.refl _ _)⟩
        case round =>
          obtain ⟨j, rfl, hj, HB⟩ := hrel
          by_cases hlt : j < pn
          · obtain ⟨x, hx⟩ : ∃ x, P[j]? = some x := ⟨_, List.getElem?_eq_getElem (by rw [← HPN.out]; exact hlt)⟩
            have hx4 := HPK.out x (List.mem_of_getElem? hx)
            obtain ⟨b, off, rfl, d0, d1, d2, d3, d4⟩ := pc_cells (HP3.out.1.below HB.out) hx
            obtain ⟨x0, x1, x2, x3, x4⟩ := x
            simp only at hx4 d0 d1 d2 d3 d4
            obtain ⟨S, hS⟩ : ∃ S, S = strOfNums x4 := ⟨_, rfl⟩
            rw [← hS] at d4
            have hx5 : ¬ (x0 : Int) = 4 := by omega
            have hjz : (j : Int) < (pn : Int) := by omega
            clear hx hx4 hS
            go_wp2
            go_roundw
            case rel => exact ⟨j + 1, by go_num, by omega, Lib.hid (HB.out.alloc HB.out.size _)⟩
            case measure => simp [intOf]; omega
          · obtain rfl : j = pn := by omega
            have hjf : ¬ (j : Int) < (j : Int) := by omega
            clear hlt
            go_wp2_with (go_at_call 23; (with_reducible refine (awake14_any _).mono ?_); rintro e w7 ⟨rfl, hb7⟩; have HB7 := Lib.hid (Below.more (Below.more HP3.out.2 HB.out) hb7); clear hb7)
            go_ret
            exact ⟨rfl, HB7.out⟩
  | true =>
    have hpl := putT_len l 39 l.length
    obtain ⟨o, ho⟩ : ∃ o, o = putP l 39 := ⟨_, rfl⟩
    have hol : o.length ≤ 600 := by rw [ho]; unfold putP; rw [R.len] at hpl ⊢; omega
    have HO := Lib.hid (show putP l 39 = o ∧ Runes o ∧ (∀ x ∈ o, apB 39 x) ∧ (∀ x ∈ pcs o, x.1 ≠ 4) from ⟨ho.symm, by rw [ho]; exact putP_wf R.wf _, by rw [ho]; exact putP_apart l 39 (by omega), by rw [ho]; exact pcs_put_kinds l 39⟩)
    obtain ⟨q, hq⟩ : ∃ q, q = o.length := ⟨_, rfl⟩
    have HQ := Lib.hid hq
    rw [← hq] at hol
    clear hm hl w0 R hpl ho hq
    go_enter Try.func10, Try.ntmps10
    go_wp2_with (first
      | (go_at_call 20; (with_reducible refine (HS.out _).mono ?_); rintro e w' ⟨rfl, rfl⟩)
      | (go_at_call 28; (with_reducible refine (put_any HR.out (by omega) 39).mono ?_); rintro e w2 ⟨v2, rfl, own2, hb2⟩; (rw [HO.out.1, ← HQ.out] at own2); obtain ⟨a2, c2, rfl, R2⟩ := nrw_own own2 HO.out.2.1; have HR2 := Lib.hid (And.intro R2 hb2); clear own2 hb2 R2))
    go_loopw [19] (fun iv wr => ∃ k : Nat, iv = .int .i64 k ∧ k ≤ q ∧ wr = w2) (fun iv _ => q - (intOf iv).toNat)
    case atStart => exact ⟨0, rfl, Nat.zero_le _, rfl⟩
    case round =>
      obtain ⟨k, rfl, hk, rfl⟩ := hrel
      by_cases hlt : k < q
      · obtain ⟨b, off, rfl, hc⟩ := HR2.out.1.cells.int (k := k) (by rw [← HQ.out]; exact hlt)
        have hne := HO.out.2.2.1 (o.getD k 0) (getD_mem (by rw [← HQ.out]; exact hlt))
        obtain ⟨z, hz⟩ : ∃ z, z = o.getD k 0 := ⟨_, rfl⟩
        rw [← hz] at hc hne
        obtain ⟨n1, n2, n3, n4, n5⟩ := hne
        have z1 : (z == 60) = false := by simpa using n1
        have z2 : (z == 39) = false := by simpa using n2
        have z3 : (z == 9) = false := by simpa using n3
        have z4 : (z == 10) = false := by simpa using n4
        have z5 : (z == 13) = false := by simpa using n5
        have hkz : (k : Int) < (q : Int) := by omega
        have hkw : IntKind.i64.wrap ((k : Int) + 1) = (k : Int) + 1 := by rw [IntKind.wrap_i64]; omega
        clear hz
        go_wp2
        go_roundw
        case rel => first | exact ⟨k + 1, by go_num, by omega, trivial⟩ | exact ⟨k + 1, by go_num, by omega, rfl⟩
        case measure => simp [intOf]; omega
      · obtain rfl : k = q := by omega
        have hkf : ¬ (k : Int) < (k : Int) := by omega
        clear hlt
        obtain ⟨P, hP⟩ : ∃ P, P = pcs o := ⟨_, rfl⟩
        have HPK := Lib.hid (show ∀ x ∈ P, x.1 ≠ 4 from by rw [hP]; exact HO.out.2.2.2)
        have HPE := Lib.hid hP
        clear hP
        go_wp2_with (go_at_call 21; (with_reducible refine (pieces_any HR2.out.1 (by omega)).mono ?_); rintro e w3 ⟨v3, rfl, own3, hb3⟩; (rw [← HPE.out] at own3); obtain ⟨a3, c3, rfl, hc3⟩ := owns_slice own3; have HP3 := Lib.hid (And.intro (AtCells.of_owns own3) (Below.more HR2.out.2 hb3)); have hpm := own3.1; clear own3 hb3 hc3)
        obtain ⟨pn, hpn⟩ : ∃ pn, pn = P.length := ⟨_, rfl⟩
        rw [← hpn]
        have HPN := Lib.hid hpn
        have hpb : pn ≤ 600 := by have h := pcsF_len o.length 0 o; rw [hpn, HPE.out]; unfold pcs; rw [← HQ.out] at h ⊢; omega
        clear hpn hpm
        go_loopw [46] (fun iv wr2 => ∃ j : Nat, iv = .int .i64 j ∧ j ≤ pn ∧ Hid (Below w3.heap.size w3 wr2)) (fun iv _ => pn - (intOf iv).toNat)
        case atStart => exact ⟨0, rfl, Nat.zero_le _, Lib.hid (Below.refl _ _)⟩
        case round =>
          obtain ⟨j, rfl, hj, HB⟩ := hrel
          by_cases hlt : j < pn
          · obtain ⟨x, hx⟩ : ∃ x, P[j]? = some x := ⟨_, List.getElem?_eq_getElem (by rw [← HPN.out]; exact hlt)⟩
            have hx4 := HPK.out x (List.mem_of_getElem? hx)
            obtain ⟨b, off, rfl, d0, d1, d2, d3, d4⟩ := pc_cells (HP3.out.1.below HB.out) hx
            obtain ⟨x0, x1, x2, x3, x4⟩ := x
            simp only at hx4 d0 d1 d2 d3 d4
            obtain ⟨S, hS⟩ : ∃ S, S = strOfNums x4 := ⟨_, rfl⟩
            rw [← hS] at d4
            have hx5 : ¬ (x0 : Int) = 4 := by omega
            have hjz : (j : Int) < (pn : Int) := by omega
            clear hx hx4 hS
            go_wp2
            go_roundw
            case rel => exact ⟨j + 1, by go_num, by omega, Lib.hid (HB.out.alloc HB.out.size _)⟩
            case measure => simp [intOf]; omega
          · obtain rfl : j = pn := by omega
            have hjf : ¬ (j : Int) < (j : Int) := by omega
            clear hlt
            go_wp2_with (go_at_call 23; (with_reducible refine (awake14_any _).mono ?_); rintro e w7 ⟨rfl, hb7⟩; have HB7 := Lib.hid (Below.more (Below.more HP3.out.2 HB.out) hb7); clear hb7)
            go_ret
            exact ⟨rfl, HB7.out⟩

end Go.Proofs.Ytbljgoieieoamaa
