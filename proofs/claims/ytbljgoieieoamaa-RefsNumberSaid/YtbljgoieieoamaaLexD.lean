/-
  Contracts of layer 7: item, subset, doctype.
-/
import Derived.Test.YtbljgoieieoamaaLexQ
namespace Go.Proofs.Ytbljgoieieoamaa
open Go.RowKit
set_option linter.unusedVariables false

theorem sObS : Sign ⟨#[91]⟩ := Sign.of (by decide)

/-- Runes that were just laid. -/
theorem laid_at (w : World) (S : List Int) : AtCells (w.alloc (.cells (S.map (Value.int .i32)).toArray 21)) (some ⟨w.heap.size, 0, none⟩) (S.map (.int .i32)) := by
  intro j u hj
  refine ⟨w.heap.size, 0, rfl, ?_⟩
  rw [Nat.zero_add]
  have := new_cells w (S.map (Value.int .i32)) 21 j u hj
  by_cases h0 : j = 0
  · subst h0; simpa [Addr.add] using this
  · simpa [Addr.add, h0] using this

/-- bare, of one sign that was just laid. -/
theorem bare1 {b off n cap : Nat} {l : List Int} {w : World} (R : RRow w b off n cap l) (x : Int) (k : Nat) (hk : k ≤ n) (g : Nat) (hg : g = w.heap.size) :
    Calls Try.prog 93 #[.slice (some ⟨b, off, none⟩) n cap, .int .i64 k, .slice (some ⟨g, 0, none⟩) 1 1] (w.alloc (.cells #[.int .i32 x] 21)) fun e w' => e = .returned (.int .i64 ((k + bareP [x] 0 (l.drop k) : Nat))) ∧ Below w.heap.size w w' := by
  subst hg
  refine (bareC (R.below ((Below.refl _ _).alloc (Nat.le_refl _) _)) (m := 1) (S := [x]) rfl (by decide) (laid_at w [x]) k hk).mono ?_
  rintro e w' ⟨rfl, rfl⟩
  exact ⟨rfl, (Below.refl _ _).alloc (Nat.le_refl _) _⟩
/-- bare, of two signs that were just laid. -/
theorem bare2 {b off n cap : Nat} {l : List Int} {w : World} (R : RRow w b off n cap l) (x y : Int) (k : Nat) (hk : k ≤ n) (g : Nat) (hg : g = w.heap.size) :
    Calls Try.prog 93 #[.slice (some ⟨b, off, none⟩) n cap, .int .i64 k, .slice (some ⟨g, 0, none⟩) 2 2] (w.alloc (.cells #[.int .i32 x, .int .i32 y] 21)) fun e w' => e = .returned (.int .i64 ((k + bareP [x, y] 0 (l.drop k) : Nat))) ∧ Below w.heap.size w w' := by
  subst hg
  refine (bareC (R.below ((Below.refl _ _).alloc (Nat.le_refl _) _)) (m := 2) (S := [x, y]) rfl (by decide) (laid_at w [x, y]) k hk).mono ?_
  rintro e w' ⟨rfl, rfl⟩
  exact ⟨rfl, (Below.refl _ _).alloc (Nat.le_refl _) _⟩

theorem item_c {l : List Int} (h : sw sCo l = true) : itemP l = 4 + (behP sCc (l.drop 4)).1 := by unfold itemP; rw [if_pos h]
theorem item_p {l : List Int} (h : sw sCo l = false) (h2 : sw sPo l = true) : itemP l = 2 + (behP sPc (l.drop 2)).1 := by unfold itemP; rw [if_neg (by rw [h]; decide), if_pos h2]
theorem item_e {l : List Int} (h : sw sCo l = false) (h2 : sw sPo l = false) : itemP l = bareP [62] 0 l + (edgeP (l.drop (bareP [62] 0 l))).1 := by unfold itemP; rw [if_neg (by rw [h]; decide), if_neg (by rw [h2]; decide)]

set_option maxHeartbeats 1000000 in
theorem item_any {b off n cap : Nat} {l : List Int} {w : World} (R : RRow w b off n cap l) (k : Nat) (hk : k ≤ n) :
    Calls Try.prog 109 #[.slice (some ⟨b, off, none⟩) n cap, .int .i64 k] w fun e w' => e = .returned (.int .i64 ((k + itemP (l.drop k) : Nat))) ∧ Below w.heap.size w w' := by
  have hm := R.max
  have hc := R.le
  unfold maxLen at hm
  have hdl : (l.drop k).length = n - k := by rw [dropl, R.len]
  cases h1 : sw sCo (l.drop k)
  · cases h2 : sw sPo (l.drop k)
    · have HI := Lib.hid (item_e h1 h2)
      have HC1 := Lib.hid (fun (w' : World) hb => startsC (R.below (w' := w') hb) sCoS k hk h1)
      have HC2 := Lib.hid (fun (w' : World) hb => startsC (R.below (w' := w') hb) sPoS k hk h2)
      have HB := Lib.hid (fun (w' : World) hb => bare1 (R.below (w' := w') hb) 62 k hk _ rfl)
      have hle := bareP_le [62] (l.drop k) 0
      rw [hdl] at hle
      have HE := Lib.hid (fun (w' : World) hb => edge_any (R.below (w' := w') hb) (k + bareP [62] 0 (l.drop k)) (by omega))
      obtain ⟨q, hq⟩ : ∃ q, q = bareP [62] 0 (l.drop k) := ⟨_, rfl⟩
      rw [← hq] at HE HB HI hle
      rw [← List.drop_drop] at HE
      rw [Int.natCast_add k q] at HE
      obtain ⟨x, hx⟩ : ∃ x, x = edgeP ((l.drop k).drop q) := ⟨_, rfl⟩
      rw [← hx] at HE HI
      clear R h1 h2 hdl hq hx
      go_enter Try.func109, Try.ntmps109
      go_wp2_with (first
        | (go_at_call 46; (with_reducible refine (HC1.out _ (Below.refl _ _)).mono ?_); rintro e w1 ⟨rfl, m1, rfl⟩)
        | (go_at_call 46; (with_reducible refine (HC2.out _ (below_drewN (Below.refl _ _) _)).mono ?_); rintro e w1 ⟨rfl, m2, rfl⟩)
        | (go_at_call 93; (refine (HB.out _ (below_drewN (Below.refl _ _) _)).mono ?_); rintro e w3 ⟨rfl, hb3⟩; have HB3 := Lib.hid ((below_drewN (Below.refl _ _) _ : Below w.heap.size w _).trans hb3); clear hb3)
        | (go_at_call 90; (with_reducible refine (HE.out _ HB3.out).mono ?_); rintro e w4 ⟨rfl, m4, rfl⟩))
      go_ret
      rw [HI.out]
      exact ⟨ret_num (by omega), below_drewN HB3.out _⟩
    · have HI := Lib.hid (item_p h1 h2)
      have hl := sw_length h2
      rw [hdl] at hl
      have hk2 : k + 2 ≤ n := by simp [sPo] at hl; omega
      have HC1 := Lib.hid (fun (w' : World) hb => startsC (R.below (w' := w') hb) sCoS k hk h1)
      have HC2 := Lib.hid (fun (w' : World) hb => startsC (R.below (w' := w') hb) sPoS k hk h2)
      have HE := Lib.hid (fun (w' : World) hb => behind_any (R.below (w' := w') hb) sPcS (k + 2) hk2)
      rw [show sg ⟨#[63, 62]⟩ = sPc from rfl, ← List.drop_drop] at HE
      rw [Int.natCast_add k 2] at HE
      obtain ⟨x, hx⟩ : ∃ x, x = behP sPc ((l.drop k).drop 2) := ⟨_, rfl⟩
      rw [← hx] at HE HI
      clear hx
      clear R h1 h2 hdl hl
      go_enter Try.func109, Try.ntmps109
      go_wp2_with (first
        | (go_at_call 46; (with_reducible refine (HC1.out _ (Below.refl _ _)).mono ?_); rintro e w1 ⟨rfl, m1, rfl⟩)
        | (go_at_call 46; (with_reducible refine (HC2.out _ (below_drewN (Below.refl _ _) _)).mono ?_); rintro e w1 ⟨rfl, m2, rfl⟩)
        | (go_at_call 88; (refine (HE.out _ (below_drewN (Below.refl _ _) _)).mono ?_); rintro e w3 ⟨rfl, m3, rfl⟩))
      go_ret
      rw [HI.out]
      exact ⟨ret_num (by omega), below_drewN (Below.refl _ _) _⟩
  · have HI := Lib.hid (item_c h1)
    have hl := sw_length h1
    rw [hdl] at hl
    have hk2 : k + 4 ≤ n := by simp [sCo] at hl; omega
    have HC1 := Lib.hid (fun (w' : World) hb => startsC (R.below (w' := w') hb) sCoS k hk h1)
    have HE := Lib.hid (fun (w' : World) hb => behind_any (R.below (w' := w') hb) sCcS (k + 4) hk2)
    rw [show sg ⟨#[45, 45, 62]⟩ = sCc from rfl, ← List.drop_drop] at HE
    rw [Int.natCast_add k 4] at HE
    obtain ⟨x, hx⟩ : ∃ x, x = behP sCc ((l.drop k).drop 4) := ⟨_, rfl⟩
    rw [← hx] at HE HI
    clear hx
    clear R h1 hdl hl
    go_enter Try.func109, Try.ntmps109
    go_wp2_with (first
      | (go_at_call 46; (with_reducible refine (HC1.out _ (Below.refl _ _)).mono ?_); rintro e w1 ⟨rfl, m1, rfl⟩)
      | (go_at_call 88; (refine (HE.out _ (below_drewN (Below.refl _ _) _)).mono ?_); rintro e w3 ⟨rfl, m3, rfl⟩))
    go_ret
    rw [HI.out]
    exact ⟨ret_num (by omega), below_drewN (Below.refl _ _) _⟩

set_option maxHeartbeats 1000000 in
theorem subset_any {b off n cap : Nat} {l : List Int} {w : World} (R : RRow w b off n cap l) (k : Nat) (hk : k ≤ n) :
    Calls Try.prog 105 #[.slice (some ⟨b, off, none⟩) n cap, .int .i64 k] w fun e w' => e = .returned (.int .i64 ((k + subP (l.drop k) : Nat))) ∧ Below w.heap.size w w' := by
  have hm := R.max
  have hc := R.le
  unfold maxLen at hm
  have HR := Lib.hid R
  clear R
  go_enter Try.func105, Try.ntmps105
  go_wp2
  go_loopw [5] (fun i wr => ∃ (j f : Nat), k ≤ j ∧ j ≤ n ∧ n - j ≤ f ∧ i = .int .i64 j ∧ Below w.heap.size w wr ∧ Hid (k + subP (l.drop k) = j + subF f (l.drop j))) (fun i _ => n - (intOf i).toNat)
  case atStart => exact ⟨k, n - k, by omega, hk, by omega, rfl, Below.refl _ _, Lib.hid (by unfold subP; rw [dropl, HR.out.len])⟩
  case round =>
    obtain ⟨j, f, hkj, hj, hf, rfl, hbl, HJ⟩ := hrel
    by_cases hlt : j < n
    · obtain ⟨b', off', hy, hc1⟩ := (HR.out.cells.below hbl).int (k := j) (by rw [HR.out.len]; exact hlt)
      simp only [Option.some.injEq, Addr.mk.injEq] at hy
      obtain ⟨rfl, rfl, _⟩ := hy
      have hd := drop_cons (l := l) (k := j) (by rw [HR.out.len]; exact hlt)
      obtain ⟨z, hz⟩ : ∃ z, z = l.getD j 0 := ⟨_, rfl⟩
      rw [← hz] at hc1 hd
      obtain ⟨f, rfl⟩ : ∃ f', f = f' + 1 := ⟨f - 1, by omega⟩
      have hJ := HJ.out
      rw [hd, subF] at hJ
      by_cases h93 : z = 93
      · rw [if_pos h93] at hJ
        subst h93
        have HJ2 := Lib.hid hJ
        clear hJ hd hz HJ
        go_wp2
        go_ret
        rw [HJ2.out]
        exact ⟨ret_num (by omega), hbl⟩
      · rw [if_neg h93] at hJ
        have e1 : (z == 93) = false := by simpa using h93
        by_cases h60 : z = 60
        · rw [if_pos h60, h60] at hJ
          rw [h60] at hd
          have hp := itemP_pos (l.drop (j + 1))
          rw [← hd] at hp hJ
          have hle := itemP_le (l.drop j)
          rw [dropl, HR.out.len] at hle
          have HI := Lib.hid (fun w' hb => item_any (HR.out.below (w' := w') hb) j hj)
          obtain ⟨q, hq⟩ : ∃ q, q = itemP (l.drop j) := ⟨_, rfl⟩
          rw [← hq] at HI hle hp hJ
          rw [List.drop_drop, ← Nat.add_assoc] at hJ
          have HJ2 := Lib.hid hJ
          have HBL := Lib.hid hbl
          subst h60
          clear hJ hd hz HJ hbl hq
          go_wp2_with (go_at_call 109; (with_reducible refine (HI.out _ HBL.out).mono ?_); rintro e w1 ⟨rfl, hb1⟩; have HB2 := Lib.hid (HBL.out.trans (hb1.mono HBL.out.size)); clear hb1)
          go_roundw
          case rel => exact ⟨j + q, f, by omega, by omega, by omega, by go_num, HB2.out, HJ2⟩
          case measure => simp [intOf]; omega
        · rw [if_neg h60, ← Nat.add_assoc] at hJ
          have e2 : (z == 60) = false := by simpa using h60
          have HJ2 := Lib.hid hJ
          clear hJ hd hz HJ
          go_wp2
          go_roundw
          case rel => exact ⟨j + 1, f, by omega, by omega, by omega, by go_num, hbl, HJ2⟩
          case measure => simp [intOf]; omega
    · obtain rfl : n = j := by omega
      have hJ := HJ.out
      have hn : l.drop n = [] := List.drop_eq_nil_of_le (by rw [HR.out.len]; exact Nat.le_refl _)
      rw [hn] at hJ
      have HJ2 := Lib.hid (show k + subP (l.drop k) = n by rw [hJ]; cases f <;> rfl)
      clear hJ hlt HJ
      go_wp2
      go_ret
      rw [HJ2.out]
      exact ⟨rfl, hbl⟩

theorem docF_no {f : Nat} {l : List Int} (h : sw sOb l = false) : docF f l = 0 := by
  cases f with
  | zero => rfl
  | succ f => rw [docF, if_neg (by rw [h]; decide)]

set_option maxHeartbeats 1000000 in
theorem doctype_any {b off n cap : Nat} {l : List Int} {w : World} (R : RRow w b off n cap l) (k : Nat) (hk : k ≤ n) :
    Calls Try.prog 89 #[.slice (some ⟨b, off, none⟩) n cap, .int .i64 k] w fun e w' => e = .returned (.tuple #[.int .i64 ((k + (docP (l.drop k)).1 : Nat)), .bool (docP (l.drop k)).2]) ∧ Below w.heap.size w w' := by
  have hm := R.max
  have hc := R.le
  unfold maxLen at hm
  have hdl : (l.drop k).length = n - k := by rw [dropl, R.len]
  have HB := Lib.hid (bare2 R 91 62 k hk _ rfl)
  have hle := bareP_le [91, 62] (l.drop k) 0
  rw [hdl] at hle
  obtain ⟨q, hq⟩ : ∃ q, q = bareP [91, 62] 0 (l.drop k) := ⟨_, rfl⟩
  have hE : docE (l.drop k) = q + docF (n - k) (l.drop (k + q)) := by unfold docE; rw [hdl, ← hq, List.drop_drop]
  have HD := Lib.hid (show docP (l.drop k) = (docE (l.drop k) + (edgeP (l.drop (k + docE (l.drop k)))).1, (edgeP (l.drop (k + docE (l.drop k)))).2) by unfold docP edgeAt; rw [List.drop_drop])
  obtain ⟨E, hEE⟩ : ∃ E, E = docE (l.drop k) := ⟨_, rfl⟩
  rw [← hEE] at hE HD
  rw [← hq] at HB hle
  have HQ := Lib.hid hE
  have HR := Lib.hid R
  clear hq hE hEE R hdl
  go_enter Try.func89, Try.ntmps89
  go_wp2_with (go_at_call 93; (refine HB.out.mono ?_); rintro e w1 ⟨rfl, hb1⟩; have HB1 := Lib.hid hb1; clear hb1)
  go_loopw [6] (fun i wr => ∃ (j f : Nat), k ≤ j ∧ j ≤ n ∧ n - j ≤ f ∧ i = .int .i64 j ∧ Below w.heap.size w wr ∧ Hid (k + E = j + docF f (l.drop j))) (fun i _ => n - (intOf i).toNat)
  case atStart => exact ⟨k + q, n - k, by omega, by omega, by omega, by go_num, HB1.out, Lib.hid (by rw [HQ.out, Nat.add_assoc])⟩
  case round =>
    obtain ⟨j, f, hkj, hj, hf, rfl, hbl, HJ⟩ := hrel
    have hdl : (l.drop j).length = n - j := by rw [dropl, HR.out.len]
    cases h1 : sw sOb (l.drop j)
    · have HS := Lib.hid (startsC (HR.out.below hbl) sObS j hj h1)
      have hJ := HJ.out
      rw [docF_no h1, Nat.add_zero] at hJ
      obtain rfl := hJ
      have HE := Lib.hid (fun w' hb => edge_any (HR.out.below (w' := w') hb) (k + E) hj)
      obtain ⟨x, hx⟩ : ∃ x, x = edgeP (l.drop (k + E)) := ⟨_, rfl⟩
      rw [← hx] at HE HD
      rw [Int.natCast_add k E] at HE HS
      clear h1 hdl hx HJ
      go_wp2_with (first
        | (go_at_call 46; (with_reducible refine HS.out.mono ?_); rintro e w1 ⟨rfl, m1, rfl⟩)
        | (go_at_call 90; (refine (HE.out _ (below_drewN hbl _)).mono ?_); rintro e w4 ⟨rfl, m4, rfl⟩))
      go_ret2
      rw [HD.out]
      exact ⟨ret_ib (by simp only []; omega) rfl, below_drewN hbl _⟩
    · have hl := sw_length h1
      rw [hdl] at hl
      have hj1 : j + 1 ≤ n := by simp [sOb] at hl; omega
      have HS := Lib.hid (startsC (HR.out.below hbl) sObS j hj h1)
      obtain ⟨f, rfl⟩ : ∃ f', f = f' + 1 := ⟨f - 1, by omega⟩
      have hJ := HJ.out
      rw [docF, if_pos h1] at hJ
      simp only [List.drop_drop, ← Nat.add_assoc] at hJ
      have HU := Lib.hid (fun w' hb => subset_any (HR.out.below (w' := w') hb) (j + 1) hj1)
      have hs := subP_le (l.drop (j + 1))
      obtain ⟨s, hs0⟩ : ∃ s, s = subP (l.drop (j + 1)) := ⟨_, rfl⟩
      rw [← hs0] at HU hs
      rw [← hs0] at hJ
      rw [dropl, HR.out.len] at hs
      have HB := Lib.hid (fun w' hb => bare2 (HR.out.below (w' := w') hb) 91 62 (j + 1 + s) (by omega) _ rfl)
      have hd := bareP_le [91, 62] (l.drop (j + 1 + s)) 0
      obtain ⟨d, hd0⟩ : ∃ d, d = bareP [91, 62] 0 (l.drop (j + 1 + s)) := ⟨_, rfl⟩
      rw [← hd0] at HB hd hJ
      rw [dropl, HR.out.len] at hd
      have HJ2 := Lib.hid hJ
      rw [Int.natCast_add j 1] at HU
      rw [Int.natCast_add (j + 1) s, Int.natCast_add j 1] at HB
      have HBL := Lib.hid hbl
      clear h1 hdl hJ HJ hl hs0 hd0 hbl
      go_wp2_with (first
        | (go_at_call 46; (with_reducible refine HS.out.mono ?_); rintro e w1 ⟨rfl, m1, rfl⟩; have HB2 := Lib.hid (below_drewN HBL.out m1))
        | (go_at_call 105; (refine (HU.out _ HB2.out).mono ?_); rintro e w2 ⟨rfl, hb2⟩; have HB3 := Lib.hid (HB2.out.trans (hb2.mono HB2.out.size)); clear hb2)
        | (go_at_call 93; (refine (HB.out _ HB3.out).mono ?_); rintro e w3 ⟨rfl, hb3⟩; have HB4 := Lib.hid (HB3.out.trans (hb3.mono HB3.out.size)); clear hb3))
      go_roundw
      case rel => exact ⟨j + 1 + s + d, f, by omega, by omega, by omega, by go_num, HB4.out, HJ2⟩
      case measure => simp [intOf]; omega

end Go.Proofs.Ytbljgoieieoamaa
