/-
  Contracts of the law of layer 9: like, same; the reference's Parts of any row.
-/
import Derived.Test.YtpjcheelafegbaaDtA
import Derived.Test.YtpjcheelafegbaaRdF
import Derived.Deep.RegionHeldLaw
namespace Go.Proofs.Ytpjcheelafegbaa
open Go.RowKit
set_option linter.unusedVariables false

set_option maxHeartbeats 1000000 in
theorem likeD_any (x0 x1 x2 : Nat) (w : World) :
    Calls Try.prog 22 #[parI x0 x1 x2, parI x0 x1 x2] w fun e w' => e = .returned (.bool true) ∧ Below w.heap.size w w' := by
  go_enter Try.func22, Try.ntmps22
  go_wp2
  go_ret
  exact ⟨rfl, two_ok _ _ _⟩

set_option maxRecDepth 20000 in
set_option maxHeartbeats 4000000 in
theorem sameD_any (P : List PartA) (q : Nat) (hqe : q = P.length) (hq : q ≤ 1000) (a1 a2 : Option Addr) (c1 c2 : Nat) (w : World) (h1 : AtCells w a1 (parsCells P)) (h2 : AtCells w a2 (parsCells P)) :
    Calls Try.prog 12 #[.slice a1 q c1, .slice a2 q c2] w fun e w' => e = .returned (.bool true) ∧ Below w.heap.size w w' := by
  have HQ := Lib.hid hqe
  have HA1 := Lib.hid h1
  have HA2 := Lib.hid h2
  clear hqe h1 h2
  go_enter Try.func12, Try.ntmps12
  go_wp2
  go_loopw [5, 13] (fun _j i wr => ∃ k : Nat, i = .int .i64 k ∧ k ≤ q ∧ Below w.heap.size w wr) (fun _ i _ => q - (intOf i).toNat)
  case atStart => exact ⟨0, rfl, Nat.zero_le _, Below.refl _ _⟩
  case round =>
    obtain ⟨k, rfl, hkq, hbl⟩ := hrel
    by_cases hlt : k < q
    · obtain ⟨x, hx⟩ : ∃ x, P[k]? = some x := ⟨_, List.getElem?_eq_getElem (by rw [← HQ.out]; exact hlt)⟩
      obtain ⟨vb, vo, rfl, c0, c1, c2⟩ := par_cells (HA1.out.below hbl) hx
      obtain ⟨rb, ro, rfl, d0, d1, d2⟩ := par_cells (HA2.out.below hbl) hx
      obtain ⟨x0, x1, x2⟩ := x
      simp only at c0 c1 c2 d0 d1 d2
      have l1 := cell_lt c0
      have l2 := cell_lt d0
      clear hx
      go_wp2
      go_region_held_law (fun W => W.cell? ⟨vb, vo + k * 3, none⟩ = some (.int .i64 x0) ∧ W.cell? ⟨vb, vo + k * 3 + 1, none⟩ = some (.int .i64 x1) ∧ W.cell? ⟨vb, vo + k * 3 + 2, none⟩ = some (.int .i64 x2) ∧ W.cell? ⟨rb, ro + k * 3, none⟩ = some (.int .i64 x0) ∧ W.cell? ⟨rb, ro + k * 3 + 1, none⟩ = some (.int .i64 x1) ∧ W.cell? ⟨rb, ro + k * 3 + 2, none⟩ = some (.int .i64 x2))
        ((refine ⟨?_, ?_, ?_, ?_, ?_, ?_⟩ <;> (repeat (first | (with_reducible assumption) | (with_reducible refine kp_drew ?_)))))
        (first
          | (go_at_call 22; (refine (likeD_any x0 x1 x2 _).mono ?_); rintro e w3 ⟨rfl, hb3⟩; obtain ⟨kc, _⟩ := bcell hb3; have E0 := (kc vb _ l1).trans c0; have E1 := (kc vb _ l1).trans c1; have E2 := (kc vb _ l1).trans c2; have E3 := (kc rb _ l2).trans d0; have E4 := (kc rb _ l2).trans d1; have E5 := (kc rb _ l2).trans d2; have HB3 := Lib.hid (hbl.trans ((((Below.refl wr.heap.size wr).drew).trans hb3).mono hbl.size)); clear hb3 kc))
      go_wp2
      go_roundw
      case rel => exact ⟨k + 1, by go_num, by omega, HB3.out⟩
      case measure => simp [intOf]; omega
    · obtain rfl : q = k := by omega
      clear hlt
      go_wp2
      go_ret
      exact ⟨rfl, hbl⟩

theorem wf_bounds {zs : List Int} (h : ∀ z ∈ zs, (Lit.int .i32 z).wf = true) (m : Nat) (j : Nat) : -2147483648 ≤ (zs.take m).getD j 0 ∧ (zs.take m).getD j 0 ≤ 2147483647 := by
  by_cases hj : j < (zs.take m).length
  · rw [List.getD_eq_getElem?_getD, List.getElem?_eq_getElem hj]
    have := h _ (List.mem_of_mem_take (List.getElem_mem hj))
    simp [Lit.wf, IntKind.min, IntKind.max, IntKind.signed, IntKind.bits] at this ⊢
    omega
  · rw [List.getD_eq_getElem?_getD, List.getElem?_eq_none (by omega)]
    decide

theorem rparts_no {a : Option Addr} {n cap : Nat} {l : List Int} {w : World} (R : NRow w a n cap l) (hwf : ∀ j, -2147483648 ≤ l.getD j 0 ∧ l.getD j 0 ≤ 2147483647) (hn : n ≤ 900) (f t : Int) (h : f < 0 ∨ t < f ∨ (n : Int) < t) :
    Calls Try.prog 14 #[.slice a n cap, .int .i64 f, .int .i64 t] w (OwnRP w []) := by
  have HW := Lib.hid (rwords_bad a n cap f t h w)
  have HMAY := Lib.hid (fun w => rmay_no a n cap f t h w)
  clear h hwf R
  go_enter Try.func14, Try.ntmps14
  go_wp2_with (first
    | (go_at_call 36; (with_reducible refine (HMAY.out _).mono ?_); rintro e w1 ⟨rfl, rfl⟩)
    | (go_at_call 19; (with_reducible refine HW.out.mono ?_); rintro e w1 ⟨v, rfl, hown, hb1⟩))
  go_ret
  exact ⟨_, rfl, hown, hb1⟩

theorem rparts_w {b off n cap : Nat} {l : List Int} {w : World} (R : RRow w b off n cap l) (hwf : ∀ j, -2147483648 ≤ l.getD j 0 ∧ l.getD j 0 ≤ 2147483647) (f t : Nat) (hft : f ≤ t) (htn : t ≤ n) (hn : n ≤ 900) (hT : sw sTo ((l.take t).drop f) = false) :
    Calls Try.prog 14 #[.slice (some ⟨b, off, none⟩) n cap, .int .i64 f, .int .i64 t] w (OwnRP w (rowF wdP (t - f) f ((l.take t).drop f))) := by
  have hm := R.max
  have hc := R.le
  unfold maxLen at hm
  have htc : t ≤ cap := by omega
  have RR := R.cut t htn
  have hws := wf_cut hwf t
  have HW := Lib.hid (fun (w' : World) (hb : Below w.heap.size w w') => rwords_in (R.below hb) hwf f t hft htn hn)
  have HMAY := Lib.hid (fun w => rmay_yes (some ⟨b, off, none⟩) n cap f t hft htn w)
  have HST := Lib.hid (refStartsB RR hws sToS f (by omega) hT w (Below.refl _ _))
  clear R RR hwf hws hT
  go_enter Try.func14, Try.ntmps14
  go_wp2_with (first
    | (go_at_call 36; (with_reducible refine (HMAY.out _).mono ?_); rintro e w1 ⟨rfl, rfl⟩)
    | (go_at_call 37; (with_reducible refine HST.out.mono ?_); rintro e w1 ⟨rfl, hb1⟩)
    | (go_at_call 19; (with_reducible refine (HW.out _ hb1).mono ?_); rintro e w2 ⟨v, rfl, hown, hb2⟩))
  go_ret
  exact ⟨_, rfl, owns_lower hown hb1.size, Below.more hb1 hb2⟩

set_option maxHeartbeats 1000000 in
theorem rparts_0 (a : Option Addr) (cap : Nat) (hm : cap ≤ maxLen) (w : World) :
    Calls Try.prog 14 #[.slice a 0 cap, .int .i64 0, .int .i64 0] w (OwnRP w []) := by
  have HMAY := Lib.hid (fun w => rmay_yes a 0 cap 0 0 (Nat.le_refl _) (Nat.le_refl _) w)
  have HW := Lib.hid (rwords_0 a cap w)
  have HST := Lib.hid (show Calls Try.prog 37 #[.slice a 0 cap, .int .i64 0, .string ⟨#[60, 33, 68, 79, 67, 84, 89, 80, 69]⟩] w fun e w' => e = .returned (.bool false) ∧ w = w' from by
    go_enter Try.func37, Try.ntmps37
    go_wp2
    go_ret
    exact ⟨rfl, rfl⟩)
  go_enter Try.func14, Try.ntmps14
  go_wp2_with (first
    | (go_at_call 36; (refine (HMAY.out _).mono ?_); rintro e w1 ⟨rfl, rfl⟩)
    | (go_at_call 37; (refine HST.out.mono ?_); rintro e w1 ⟨rfl, rfl⟩)
    | (go_at_call 19; (refine HW.out.mono ?_); rintro e w1 ⟨v, rfl, hown, hb1⟩))
  go_ret
  exact ⟨_, rfl, hown, hb1⟩

theorem rparts_any {a : Option Addr} {n cap : Nat} {l : List Int} {w : World} (R : NRow w a n cap l) (hwf : ∀ j, -2147483648 ≤ l.getD j 0 ∧ l.getD j 0 ≤ 2147483647) (hn : n ≤ 900) (f t : Int) :
    Calls Try.prog 14 #[.slice a n cap, .int .i64 f, .int .i64 t] w (OwnRP w (inP dtP l f t)) := by
  have hl := R.len
  by_cases h : f < 0 ∨ t < f ∨ (n : Int) < t
  · rw [inP_bad (by rw [hl]; exact h)]
    exact rparts_no R hwf hn f t h
  · obtain ⟨f, rfl⟩ : ∃ k : Nat, f = k := ⟨f.toNat, by omega⟩
    obtain ⟨t, rfl⟩ : ∃ k : Nat, t = k := ⟨t.toNat, by omega⟩
    have hlen : ((l.take t).drop f).length = t - f := by rw [List.length_drop, List.length_take, hl, Nat.min_eq_left (by omega)]
    by_cases h0 : 0 < n
    · obtain ⟨b, off, rfl, RR⟩ := R.some h0
      cases hT : sw sTo ((l.take t).drop f)
      · have e : inP dtP l f t = rowF wdP (t - f) f ((l.take t).drop f) := by
          rw [← inP_row (p := wdP) hl (by omega) (by omega)]
          unfold inP
          rw [if_pos (by omega), if_pos (by omega)]
          simp only [Int.toNat_natCast]
          unfold dtP
          rw [if_neg (by rw [hT]; decide)]
        rw [e]
        exact rparts_w RR hwf f t (by omega) (by omega) hn hT
      · have e : inP dtP l f t = (1, f, f + 9) :: dtF (t - f) false (f + 9) ((l.take t).drop (f + 9)) := by
          unfold inP
          rw [if_pos (by omega)]
          simp only [Int.toNat_natCast]
          unfold dtP
          rw [if_pos hT, dd, hlen]
          have := dtF_shift f (t - f) false 9 ((l.take t).drop (f + 9))
          rw [show f + 9 = 9 + f by omega] at this ⊢
          rw [← this]
          simp [shiftP]
        rw [e]
        exact rparts_yes RR hwf f t (by omega) (by omega) hn hT
    · obtain rfl : n = 0 := by omega
      obtain rfl : f = 0 := by omega
      obtain rfl : t = 0 := by omega
      have e : inP dtP l ((0 : Nat) : Int) ((0 : Nat) : Int) = [] := by
        have hl0 : l = [] := List.length_eq_zero_iff.1 hl
        subst hl0
        simp [inP, dtP, sw, sTo, rowP, rowF, shiftP]
      rw [e]
      exact rparts_0 a cap R.max w

theorem inP_length {res : List Int → List PartA} (h : ∀ l, (res l).length ≤ l.length + 5 ∧ ∀ x ∈ res l, x.2.1 ≤ l.length ∧ x.2.2 ≤ l.length) (l : List Int) (f t : Int) : (inP res l f t).length ≤ l.length + 5 := by
  unfold inP
  split
  · rw [shiftP_length]
    have := (h ((l.take t.toNat).drop f.toNat)).1
    rw [List.length_drop, List.length_take] at this
    omega
  · simp
end Go.Proofs.Ytpjcheelafegbaa
