/-
  Layer 14: the reference's Number (made by gen_rfw.py).
-/
import Derived.Test.YtbljgoieieoamaaRfV
namespace Go.Proofs.Ytbljgoieieoamaa
open Go.RowKit
set_option linter.unusedVariables false

/-- What the reference's Number answers. -/
def numI (o : Option Int) : Int := match o with | some r => r | none => -1

theorem Runes.all {l : List Int} (h : Runes l) (j : Nat) : -2147483648 ≤ l.getD j 0 ∧ l.getD j 0 ≤ 2147483647 := by
  by_cases hj : j < l.length
  · exact h.at hj
  · rw [List.getD_eq_getElem?_getD, List.getElem?_eq_none (by omega)]; decide

theorem runP_get (p : Int → Bool) : ∀ (l : List Int) (x : Nat), x < runP p l → p (l.getD x 0) = true
  | [], x, h => by simp [runP] at h
  | r :: l, x, h => by
    unfold runP at h
    rw [List.takeWhile_cons] at h
    cases hp : p r with
    | false => rw [hp] at h; simp at h
    | true =>
      rw [hp] at h
      cases x with
      | zero => exact hp
      | succ x =>
        simp at h
        have := runP_get p l x (by unfold runP; omega)
        simpa using this

theorem fold_stuck (base : Int) (hb : base = 10 ∨ base = 16) : ∀ L : List Int, L.foldl (worthF base) 1114112 = 1114112
  | [] => rfl
  | r :: L => by
    rw [List.foldl_cons]
    have h1 := hexV_le r
    have : worthF base 1114112 r = 1114112 := by
      unfold worthF
      rcases hb with rfl | rfl <;> omega
    rw [this]
    exact fold_stuck base hb L
theorem worth_stuck (base : Int) (hb : base = 10 ∨ base = 16) (S : List Int) (k : Nat) (h : worthP base (S.take k) = 1114112) : worthP base S = 1114112 := by
  have : worthP base S = (S.drop k).foldl (worthF base) (worthP base (S.take k)) := by
    unfold worthP
    rw [← List.foldl_append, List.take_append_drop]
  rw [this, h]
  exact fold_stuck base hb _
theorem dig_hex10 {z : Int} (h : digitB z = true) : digV 10 z = hexV z := by
  unfold digV hexV
  rw [if_pos rfl, if_pos h]
  unfold digitB at h
  simp at h
  rw [if_neg (by omega), if_neg (by omega), if_pos h]
theorem dig_hex16 {z : Int} (h : hexB z = true) : digV 16 z = hexV z := by
  unfold digV
  rw [if_neg (by decide), if_pos h]

/-- What stands in a number. -/
theorem num_in {l : List Int} (h : isNum l = true) : sw sNo l = true ∧ (sw sHo l = true → l.getD 2 0 = 120 ∧ ∀ x, x < l.length - 4 → hexB (l.getD (3 + x) 0) = true) ∧ (sw sHo l = false → l.getD 2 0 ≠ 120 ∧ ∀ x, x < l.length - 3 → digitB (l.getD (2 + x) 0) = true) := by
  have hlen := num_len h
  unfold isNum at h
  simp only [Bool.and_eq_true, decide_eq_true_eq] at h
  obtain ⟨⟨h0, h1⟩, h2⟩ := h
  obtain ⟨_, h3⟩ := tok3 h1
  rw [h3] at h1 h2
  unfold refP refT at h1 h2
  split at h1
  · rename_i hs
    rw [if_pos hs] at h2
    have hn : sw sNo l = true := sw_of (by simp [sNo]; omega) (fun j hj => by
      have h9 := sw_get hs j (by simp [sNo] at hj; simp [sHo]; omega)
      rw [h9]
      simp [sNo] at hj
      obtain rfl | rfl : j = 0 ∨ j = 1 := by omega
      · rfl
      · rfl)
    have h120 : l.getD 2 0 = 120 := sw_get hs 2 (by decide)
    split at h1
    · simp at h1
    · rename_i hk
      rw [if_neg hk] at h2
      simp only at h2
      refine ⟨hn, fun _ => ⟨h120, fun x hx => ?_⟩, fun hf => ?_⟩
      · have h9 := runP_get hexB (l.drop 3) x (by omega)
        simpa using h9
      · rw [hs] at hf; cases hf
  · rename_i hs
    rw [if_neg hs] at h2
    split at h1
    · rename_i hs2
      rw [if_pos hs2] at h2
      split at h1
      · simp at h1
      · rename_i hk
        rw [if_neg hk] at h2
        simp only at h2
        refine ⟨hs2, fun ht => absurd ht hs, fun _ => ⟨fun h120 => hs ?_, fun x hx => ?_⟩⟩
        · refine sw_of (by simp [sHo]; omega) (fun j hj => ?_)
          simp [sHo] at hj
          by_cases hj2 : j = 2
          · subst hj2; exact h120
          · have h9 := sw_get hs2 j (by simp [sNo]; omega)
            rw [h9]
            obtain rfl | rfl : j = 0 ∨ j = 1 := by omega
            · rfl
            · rfl
        · have h9 := runP_get digitB (l.drop 2) x (by omega)
          simpa using h9
    · rename_i hs2
      split at h1 <;> simp at h1

set_option maxHeartbeats 1000000 in
theorem rnum_nil (a : Option Addr) (cap : Nat) (w : World) : Says 25 #[.slice a 0 cap] (.int .i32 (numI (numV []))) w w := by
  go_enter Try.func25, Try.ntmps25
  go_wp2
  go_ret
  exact ⟨rfl, Below.refl _ _⟩

set_option maxHeartbeats 1000000 in
theorem rnum_other {b off n cap : Nat} {l : List Int} {w : World} (R : RRow w b off n cap l) (h0 : 0 < n) (z : Int) (hz : l.getD 0 0 = z) (h38 : ¬ z = 38) : Says 25 #[.slice (some ⟨b, off, none⟩) n cap] (.int .i32 (numI (numV l))) w w := by
  have HV := Lib.hid (show numI (numV l) = -1 from by
    have : isNum l = false := by
      cases hi : isNum l with
      | false => rfl
      | true =>
        unfold isNum at hi
        simp only [Bool.and_eq_true, decide_eq_true_eq] at hi
        exact absurd (hz ▸ (tok3 hi.1.2).1) h38
    unfold numV; rw [this]; rfl)
  have hc := R.at_ 0 h0
  rw [hz, Nat.add_zero] at hc
  have hm := R.max
  have hcn := R.le
  unfold maxLen at hm
  have h38' : (z != 38) = true := by simpa using h38
  have h0' : ¬ (n : Int) = 0 := by omega
  clear R hz
  go_enter Try.func25, Try.ntmps25
  go_wp2
  go_ret
  exact ⟨ret32 HV.out.symm, Below.refl _ _⟩

set_option maxHeartbeats 1000000 in
theorem rnum_no {b off n cap : Nat} {l : List Int} {w : World} (R : RRow w b off n cap l) (hwf : Runes l) (hn : n ≤ 1000) (h0 : 0 < n) (hz : l.getD 0 0 = 38) (h : isNum l = false) : Says 25 #[.slice (some ⟨b, off, none⟩) n cap] (.int .i32 (numI (numV l))) w w := by
  have HV := Lib.hid (show numI (numV l) = -1 from by unfold numV; rw [h]; rfl)
  obtain ⟨t, ht⟩ : ∃ t, tokP l = t := ⟨_, rfl⟩
  have HN := Lib.hid (show Says 40 #[.slice (some ⟨b, off, none⟩) n cap, .int .i64 0] (tokI t.1 0 t.2.1 t.2.2) w w from by
    have h := refNext_amp R hwf.all hn 0 h0 hz
    rw [List.drop_zero, ht] at h
    unfold tokV at h
    simpa using h)
  have hcs : ¬ t.1 = 3 ∨ (t.1 = 3 ∧ ¬ t.2.1 = n) := by
    unfold isNum at h
    rw [ht, R.len] at h
    simp only [Bool.and_eq_false_iff, decide_eq_false_iff_not] at h
    omega
  have hc := R.at_ 0 h0
  rw [hz, Nat.add_zero] at hc
  have hm := R.max
  have hcn := R.le
  unfold maxLen at hm
  have h0' : ¬ (n : Int) = 0 := by omega
  obtain ⟨t1, t2, t3⟩ := t
  simp only at hcs HN
  clear h ht R hz hwf
  rcases hcs with h1 | ⟨h1, h2⟩
  · have h1' : ¬ (t1 : Int) = 3 := by omega
    go_enter Try.func25, Try.ntmps25
    go_wp2_with (go_at_call 40; (with_reducible refine HN.out.mono ?_); rintro e w1 ⟨rfl, hb1⟩; have HB := Lib.hid hb1; clear hb1)
    go_ret
    exact ⟨ret32 HV.out.symm, Below.more HB.out (one_ok _ _)⟩
  · subst h1
    have h2' : ¬ (t2 : Int) = (n : Int) := by omega
    go_enter Try.func25, Try.ntmps25
    go_wp2_with (go_at_call 40; (with_reducible refine HN.out.mono ?_); rintro e w1 ⟨rfl, hb1⟩; have HB := Lib.hid hb1; clear hb1)
    go_ret
    exact ⟨ret32 HV.out.symm, Below.more HB.out (one_ok _ _)⟩

set_option maxRecDepth 20000 in
set_option maxHeartbeats 4000000 in
theorem rnum_10 {b off n cap : Nat} {l : List Int} {w : World} (R : RRow w b off n cap l) (hwf : Runes l) (hn : n ≤ 1000) (h : isNum l = true) (hx : sw sHo l = false) : Says 25 #[.slice (some ⟨b, off, none⟩) n cap] (.int .i32 (numI (numV l))) w w := by
  obtain ⟨h4, h5⟩ := num_len h
  obtain ⟨hNo, hH, hD⟩ := num_in h
  have h5 := h4
  obtain ⟨hy120, hdig⟩ := hD hx
  have hl := R.len
  rw [hl] at h4 h5 hdig
  have hz : l.getD 0 0 = 38 := sw_get hNo 0 (by decide)
  have ht : tokP l = (3, n, (tokP l).2.2) := by
    unfold isNum at h
    simp only [Bool.and_eq_true, decide_eq_true_eq] at h
    rw [hl] at h
    rw [← h.1.2, ← h.2]
  obtain ⟨wh, hwh⟩ : ∃ x, x = (tokP l).2.2 := ⟨_, rfl⟩
  rw [← hwh] at ht
  have HN := Lib.hid (show Says 40 #[.slice (some ⟨b, off, none⟩) n cap, .int .i64 0] (tokI 3 0 n wh) w w from by
    have h := refNext_amp R hwf.all hn 0 (by omega) hz
    rw [List.drop_zero, ht] at h
    unfold tokV at h
    simpa using h)
  obtain ⟨S, hS⟩ : ∃ S, S = (l.take (l.length - 1)).drop 2 := ⟨_, rfl⟩
  have hSl : S.length = n - 1 - 2 := by rw [hS, List.length_drop, List.length_take, hl]; omega
  have hSd : ∀ x, x < n - 1 - 2 → digitB (S.getD x 0) = true ∧ -2147483648 ≤ S.getD x 0 ∧ S.getD x 0 ≤ 2147483647 := fun x hx => by
    have h9 : S.getD x 0 = l.getD (2 + x) 0 := by
      rw [hS]
      simp only [List.getD_eq_getElem?_getD, List.getElem?_drop, List.getElem?_take]
      rw [if_pos (by omega)]
    rw [h9]
    exact ⟨hdig x (by omega), hwf.all _⟩
  have HSC := Lib.hid (fun (W : World) (hb : Below w.heap.size w W) => show AtCells W (some ⟨b, off + 2, none⟩) (S.map (.int .i32)) from by
    have h9 := ((R.cells.below hb).take (l.length - 1)).drop 2
    rw [hS, List.map_drop, List.map_take]; exact h9)
  have hv : numV l = if charB (worthP 10 S) then some (worthP 10 S) else none := by
    unfold numV numIn
    rw [h, Bool.true_and, hx, hS]; rfl
  have HV := Lib.hid hv
  have HSL := Lib.hid hSl
  have HSD := Lib.hid hSd
  have hc := R.at_ 0 (by omega)
  rw [hz, Nat.add_zero] at hc
  obtain ⟨y, hy⟩ : ∃ y, y = l.getD 2 0 := ⟨_, rfl⟩
  have HC2 := Lib.hid (fun (W : World) (hb : Below w.heap.size w W) => (R.below hb).at_ 2 (by omega))
  rw [← hy] at HC2 hy120
  clear hy
  have h120 : (y == 120) = false := by simpa using hy120
  have hm := R.max
  have hcn := R.le
  unfold maxLen at hm
  have h0' : ¬ (n : Int) = 0 := by omega
  obtain ⟨m, hmn⟩ : ∃ m, n = m + 2 + 1 := ⟨n - 1 - 2, by omega⟩
  have hsub : n - 1 - 2 = m := by omega
  rw [hsub] at HSL HSD
  subst hmn
  have hle : m + 2 + 1 ≤ cap := hcn
  have hcc : ¬ cap = 2 := by omega
  have hw1 : IntKind.i64.wrap (((m + 2 + 1 : Nat) : Int) - 1) = ((m + 2 : Nat) : Int) := by rw [IntKind.wrap_i64]; omega
  clear h ht R hz hwf hl hS hv hNo hH hD hdig hSl hSd hwh hx
  go_enter Try.func25, Try.ntmps25
  go_wp2_with (go_at_call 40; (with_reducible refine HN.out.mono ?_); rintro e w1 ⟨rfl, hb1⟩; have HB := Lib.hid (fun o => Below.more hb1 (one_ok w1 o)); have hc2 := fun o => HC2.out _ (HB.out o); clear hb1)
  rw [show m + 2 - 2 = m from by omega]
  go_loopw [6, 41] (fun v i wr => ∃ (k : Nat) (u : Int), k ≤ m ∧ i = .int .i64 k ∧ v = .int .i64 u ∧ 0 ≤ u ∧ u ≤ 1114111 ∧ Hid (worthP 10 (S.take k) = u) ∧ Hid (Below w.heap.size w wr)) (fun _ i _ => m - (intOf i).toNat)
  case atStart => exact ⟨0, 0, Nat.zero_le _, rfl, rfl, by omega, by omega, Lib.hid rfl, Lib.hid (HB.out _)⟩
  case round =>
    obtain ⟨k, u, hk, rfl, rfl, hu0, hu1, HU, HBL⟩ := hrel
    by_cases hlt : k < m
    · obtain ⟨b', off', hy, hc3⟩ := (HSC.out _ HBL.out).int (k := k) (by rw [HSL.out]; exact hlt)
      simp only [Option.some.injEq, Addr.mk.injEq] at hy
      obtain ⟨rfl, rfl, _⟩ := hy
      obtain ⟨hzp, hzr⟩ := HSD.out k hlt
      obtain ⟨z, hz⟩ : ∃ z, z = S.getD k 0 := ⟨_, rfl⟩
      rw [← hz] at hc3 hzp hzr
      have HX := Lib.hid (show worthP 10 (S.take (k + 1)) = worthF 10 u z by rw [worthP_snoc 10 S k (by rw [HSL.out]; exact hlt), HU.out, hz])
      obtain ⟨d, hd⟩ : ∃ d, d = hexV z := ⟨_, rfl⟩
      have HH := Lib.hid (fun W => digit_any 10 (.inl rfl) z hzr W)
      rw [dig_hex10 hzp, ← hd] at HH
      have hd0 := hexV_le z
      unfold worthF at HX
      rw [← hd] at hd0 HX
      obtain ⟨hd0, hd1⟩ := hd0
      have w1 : IntKind.i64.wrap (u * 10) = u * 10 := by rw [IntKind.wrap_i64]; omega
      have w2 : IntKind.i64.wrap (u * 10 + d) = u * 10 + d := by rw [IntKind.wrap_i64]; omega
      have hkz : (k : Int) < (m : Int) := by omega
      by_cases hbig : 1114111 < u * 10 + d
      · have HE := Lib.hid (show numI (numV l) = -1 from by
          have h9 : worthP 10 (S.take (k + 1)) = 1114112 := by rw [HX.out]; omega
          rw [HV.out, worth_stuck 10 (.inl rfl) S _ h9]; rfl)
        clear hz hd hzp hlt
        go_wp2_with (go_at_call 48; (with_reducible refine (HH.out _).mono ?_); rintro e w1 ⟨rfl, rfl⟩)
        go_ret
        exact ⟨ret32 HE.out.symm, HBL.out⟩
      · have HE := Lib.hid (show worthP 10 (S.take (k + 1)) = u * 10 + d from by rw [HX.out]; omega)
        have hlow : 0 ≤ u * 10 + d := by omega
        have hup : u * 10 + d ≤ 1114111 := by omega
        clear hz hd hzp hlt
        go_wp2_with (go_at_call 48; (with_reducible refine (HH.out _).mono ?_); rintro e w1 ⟨rfl, rfl⟩)
        go_roundw
        case rel => exact ⟨k + 1, u * 10 + d, by omega, by go_num, rfl, hlow, hup, HE, HBL⟩
        case measure => simp [intOf]; omega
    · obtain rfl : k = m := by omega
      have HE := Lib.hid (show worthP 10 S = u by have h := HU.out; rwa [List.take_of_length_le (by rw [HSL.out]; exact Nat.le_refl _)] at h)
      have hkf : ¬ (k : Int) < (k : Int) := by omega
      have w3 : IntKind.i32.wrap u = u := by rw [IntKind.wrap_i32]; omega
      clear hlt
      cases hch : charB u
      · have HC := Lib.hid (fun W => refChar_any u W)
        rw [hch] at HC
        have HR := Lib.hid (show numI (numV l) = -1 from by rw [HV.out, HE.out, hch]; rfl)
        clear hch
        go_wp2_with (go_at_call 49; (with_reducible refine (HC.out _).mono ?_); rintro e w1 ⟨rfl, rfl⟩)
        go_ret
        exact ⟨ret32 HR.out.symm, HBL.out⟩
      · have HC := Lib.hid (fun W => refChar_any u W)
        rw [hch] at HC
        have HR := Lib.hid (show numI (numV l) = u from by rw [HV.out, HE.out, hch]; rfl)
        clear hch
        go_wp2_with (go_at_call 49; (with_reducible refine (HC.out _).mono ?_); rintro e w1 ⟨rfl, rfl⟩)
        go_ret
        exact ⟨ret32 HR.out.symm, HBL.out⟩

set_option maxRecDepth 20000 in
set_option maxHeartbeats 4000000 in
theorem rnum_16 {b off n cap : Nat} {l : List Int} {w : World} (R : RRow w b off n cap l) (hwf : Runes l) (hn : n ≤ 1000) (h : isNum l = true) (hx : sw sHo l = true) : Says 25 #[.slice (some ⟨b, off, none⟩) n cap] (.int .i32 (numI (numV l))) w w := by
  obtain ⟨h4, h5⟩ := num_len h
  obtain ⟨hNo, hH, hD⟩ := num_in h
  have h5 := h5 hx
  obtain ⟨hy120, hdig⟩ := hH hx
  have hl := R.len
  rw [hl] at h4 h5 hdig
  have hz : l.getD 0 0 = 38 := sw_get hNo 0 (by decide)
  have ht : tokP l = (3, n, (tokP l).2.2) := by
    unfold isNum at h
    simp only [Bool.and_eq_true, decide_eq_true_eq] at h
    rw [hl] at h
    rw [← h.1.2, ← h.2]
  obtain ⟨wh, hwh⟩ : ∃ x, x = (tokP l).2.2 := ⟨_, rfl⟩
  rw [← hwh] at ht
  have HN := Lib.hid (show Says 40 #[.slice (some ⟨b, off, none⟩) n cap, .int .i64 0] (tokI 3 0 n wh) w w from by
    have h := refNext_amp R hwf.all hn 0 (by omega) hz
    rw [List.drop_zero, ht] at h
    unfold tokV at h
    simpa using h)
  obtain ⟨S, hS⟩ : ∃ S, S = (l.take (l.length - 1)).drop 3 := ⟨_, rfl⟩
  have hSl : S.length = n - 1 - 3 := by rw [hS, List.length_drop, List.length_take, hl]; omega
  have hSd : ∀ x, x < n - 1 - 3 → hexB (S.getD x 0) = true ∧ -2147483648 ≤ S.getD x 0 ∧ S.getD x 0 ≤ 2147483647 := fun x hx => by
    have h9 : S.getD x 0 = l.getD (3 + x) 0 := by
      rw [hS]
      simp only [List.getD_eq_getElem?_getD, List.getElem?_drop, List.getElem?_take]
      rw [if_pos (by omega)]
    rw [h9]
    exact ⟨hdig x (by omega), hwf.all _⟩
  have HSC := Lib.hid (fun (W : World) (hb : Below w.heap.size w W) => show AtCells W (some ⟨b, off + 3, none⟩) (S.map (.int .i32)) from by
    have h9 := ((R.cells.below hb).take (l.length - 1)).drop 3
    rw [hS, List.map_drop, List.map_take]; exact h9)
  have hv : numV l = if charB (worthP 16 S) then some (worthP 16 S) else none := by
    unfold numV numIn
    rw [h, Bool.true_and, hx, hS]; rfl
  have HV := Lib.hid hv
  have HSL := Lib.hid hSl
  have HSD := Lib.hid hSd
  have hc := R.at_ 0 (by omega)
  rw [hz, Nat.add_zero] at hc
  obtain ⟨y, hy⟩ : ∃ y, y = l.getD 2 0 := ⟨_, rfl⟩
  have HC2 := Lib.hid (fun (W : World) (hb : Below w.heap.size w W) => (R.below hb).at_ 2 (by omega))
  rw [← hy] at HC2 hy120
  clear hy
  subst hy120
  have hm := R.max
  have hcn := R.le
  unfold maxLen at hm
  have h0' : ¬ (n : Int) = 0 := by omega
  obtain ⟨m, hmn⟩ : ∃ m, n = m + 3 + 1 := ⟨n - 1 - 3, by omega⟩
  have hsub : n - 1 - 3 = m := by omega
  rw [hsub] at HSL HSD
  subst hmn
  have hle : m + 3 + 1 ≤ cap := hcn
  have hcc : ¬ cap = 3 := by omega
  have hw1 : IntKind.i64.wrap (((m + 3 + 1 : Nat) : Int) - 1) = ((m + 3 : Nat) : Int) := by rw [IntKind.wrap_i64]; omega
  clear h ht R hz hwf hl hS hv hNo hH hD hdig hSl hSd hwh hx
  go_enter Try.func25, Try.ntmps25
  go_wp2_with (go_at_call 40; (with_reducible refine HN.out.mono ?_); rintro e w1 ⟨rfl, hb1⟩; have HB := Lib.hid (fun o => Below.more hb1 (one_ok w1 o)); have hc2 := fun o => HC2.out _ (HB.out o); clear hb1)
  rw [show m + 3 - 3 = m from by omega]
  go_loopw [6, 41] (fun v i wr => ∃ (k : Nat) (u : Int), k ≤ m ∧ i = .int .i64 k ∧ v = .int .i64 u ∧ 0 ≤ u ∧ u ≤ 1114111 ∧ Hid (worthP 16 (S.take k) = u) ∧ Hid (Below w.heap.size w wr)) (fun _ i _ => m - (intOf i).toNat)
  case atStart => exact ⟨0, 0, Nat.zero_le _, rfl, rfl, by omega, by omega, Lib.hid rfl, Lib.hid (HB.out _)⟩
  case round =>
    obtain ⟨k, u, hk, rfl, rfl, hu0, hu1, HU, HBL⟩ := hrel
    by_cases hlt : k < m
    · obtain ⟨b', off', hy, hc3⟩ := (HSC.out _ HBL.out).int (k := k) (by rw [HSL.out]; exact hlt)
      simp only [Option.some.injEq, Addr.mk.injEq] at hy
      obtain ⟨rfl, rfl, _⟩ := hy
      obtain ⟨hzp, hzr⟩ := HSD.out k hlt
      obtain ⟨z, hz⟩ : ∃ z, z = S.getD k 0 := ⟨_, rfl⟩
      rw [← hz] at hc3 hzp hzr
      have HX := Lib.hid (show worthP 16 (S.take (k + 1)) = worthF 16 u z by rw [worthP_snoc 16 S k (by rw [HSL.out]; exact hlt), HU.out, hz])
      obtain ⟨d, hd⟩ : ∃ d, d = hexV z := ⟨_, rfl⟩
      have HH := Lib.hid (fun W => digit_any 16 (.inr rfl) z hzr W)
      rw [dig_hex16 hzp, ← hd] at HH
      have hd0 := hexV_le z
      unfold worthF at HX
      rw [← hd] at hd0 HX
      obtain ⟨hd0, hd1⟩ := hd0
      have w1 : IntKind.i64.wrap (u * 16) = u * 16 := by rw [IntKind.wrap_i64]; omega
      have w2 : IntKind.i64.wrap (u * 16 + d) = u * 16 + d := by rw [IntKind.wrap_i64]; omega
      have hkz : (k : Int) < (m : Int) := by omega
      by_cases hbig : 1114111 < u * 16 + d
      · have HE := Lib.hid (show numI (numV l) = -1 from by
          have h9 : worthP 16 (S.take (k + 1)) = 1114112 := by rw [HX.out]; omega
          rw [HV.out, worth_stuck 16 (.inr rfl) S _ h9]; rfl)
        clear hz hd hzp hlt
        go_wp2_with (go_at_call 48; (with_reducible refine (HH.out _).mono ?_); rintro e w1 ⟨rfl, rfl⟩)
        go_ret
        exact ⟨ret32 HE.out.symm, HBL.out⟩
      · have HE := Lib.hid (show worthP 16 (S.take (k + 1)) = u * 16 + d from by rw [HX.out]; omega)
        have hlow : 0 ≤ u * 16 + d := by omega
        have hup : u * 16 + d ≤ 1114111 := by omega
        clear hz hd hzp hlt
        go_wp2_with (go_at_call 48; (with_reducible refine (HH.out _).mono ?_); rintro e w1 ⟨rfl, rfl⟩)
        go_roundw
        case rel => exact ⟨k + 1, u * 16 + d, by omega, by go_num, rfl, hlow, hup, HE, HBL⟩
        case measure => simp [intOf]; omega
    · obtain rfl : k = m := by omega
      have HE := Lib.hid (show worthP 16 S = u by have h := HU.out; rwa [List.take_of_length_le (by rw [HSL.out]; exact Nat.le_refl _)] at h)
      have hkf : ¬ (k : Int) < (k : Int) := by omega
      have w3 : IntKind.i32.wrap u = u := by rw [IntKind.wrap_i32]; omega
      clear hlt
      cases hch : charB u
      · have HC := Lib.hid (fun W => refChar_any u W)
        rw [hch] at HC
        have HR := Lib.hid (show numI (numV l) = -1 from by rw [HV.out, HE.out, hch]; rfl)
        clear hch
        go_wp2_with (go_at_call 49; (with_reducible refine (HC.out _).mono ?_); rintro e w1 ⟨rfl, rfl⟩)
        go_ret
        exact ⟨ret32 HR.out.symm, HBL.out⟩
      · have HC := Lib.hid (fun W => refChar_any u W)
        rw [hch] at HC
        have HR := Lib.hid (show numI (numV l) = u from by rw [HV.out, HE.out, hch]; rfl)
        clear hch
        go_wp2_with (go_at_call 49; (with_reducible refine (HC.out _).mono ?_); rintro e w1 ⟨rfl, rfl⟩)
        go_ret
        exact ⟨ret32 HR.out.symm, HBL.out⟩

theorem rnum_any {w : World} {a : Option Addr} {n cap : Nat} {l : List Int} (R : NRw w a n cap l) (hn : n ≤ 1000) : Says 25 #[.slice a n cap] (.int .i32 (numI (numV l))) w w := by
  by_cases h0 : 0 < n
  · obtain ⟨b, off, rfl, R'⟩ := R.some_ h0
    by_cases hz : l.getD 0 0 = 38
    · cases h : isNum l
      · exact rnum_no R' R.wf hn h0 hz h
      · cases hx : sw sHo l
        · exact rnum_10 R' R.wf hn h hx
        · exact rnum_16 R' R.wf hn h hx
    · exact rnum_other R' h0 _ rfl hz
  · obtain ⟨rfl, rfl⟩ := R.nil_ h0
    exact rnum_nil _ _ _

end Go.Proofs.Ytbljgoieieoamaa
