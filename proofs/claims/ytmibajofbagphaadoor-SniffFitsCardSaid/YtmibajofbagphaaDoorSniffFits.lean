/-
  SniffFits: for every kind and every name it returns true.
-/
import Derived.Test.YtmibajofbagphaaDoorSnJ
import Derived.Test.YtmibajofbagphaaDoorSniffEncodes
import Derived.Deep.QuietTactic
import Derived.BigQuiet
import Derived.IntWalk
namespace Go.Proofs.YtmibajofbagphaaDoor
open Go.RowKit Go.Lib Go.Shelf

set_option maxHeartbeats 8000000 in
set_option maxRecDepth 1000000 in
theorem same_any (s t : ByteArray) (w : World) (hs : s.size < 4294967281) (ht : Small t.data.toList) :
    Calls Tryd.prog 35 #[.string s, .string t] w fun e w' => e = .returned (.bool (foldEq s.data.toList t.data.toList)) ∧ Below w.heap.size w w' := by
  have HT := Lib.hid ht
  clear ht
  obtain ⟨R, hR⟩ : ∃ R, R = foldEq s.data.toList t.data.toList := ⟨_, rfl⟩
  rw [← hR]
  have HR := Lib.hid hR
  have foldEq_len : ∀ (a b : List UInt8), a.length ≠ b.length → foldEq a b = false := by
    intro a
    induction a with
    | nil => intro b h; cases b with
      | nil => exact absurd rfl h
      | cons y b => rfl
    | cons x a ih => intro b h; cases b with
      | nil => rfl
      | cons y b =>
        simp only [foldEq]
        rw [ih b (by simpa using h), Bool.and_false]
  by_cases hst : s.size = t.size
  · have hbe : ((s.size : Int) == (t.size : Int)) = true := beq_iff_eq.2 (by omega)
    clear foldEq_len hR
    go_enter Tryd.func35, Tryd.ntmps35
    go_wp2
    go_loopg [5] s.size (fun g s5 wx => Below w.heap.size w wx ∧ ∃ i : Nat, i + g = s.size ∧ s5 = .int .i64 i ∧ foldEq (s.data.toList.drop i) (t.data.toList.drop i) = R)
    case atStart => exact ⟨Below.refl _ _, 0, by omega, rfl, HR.out.symm⟩
    case round =>
      obtain ⟨hbl, i, hig, rfl, hinv⟩ := hrel
      have HBL := Lib.hid hbl
      clear hbl
      have HI := Lib.hid hinv
      clear hinv
      cases gk with
      | zero =>
        have hiM : ¬ ((i : Int) < (s.size : Int)) := by omega
        have hE : R = true := by
          rw [← HI.out, foldEq_end _ _ (.inl (List.drop_eq_nil_of_le (by rw [← Lib.size_eq]; omega))), List.length_drop, List.length_drop, ← Lib.size_eq, ← Lib.size_eq]
          exact decide_eq_true (by omega)
        go_wp2
        go_ret
        exact ⟨by first | rfl | (rw [hE]; rfl), HBL.out⟩
      | succ g =>
        have hisz : (i : Int) < (s.size : Int) := by omega
        have hitz : (i : Int) < (t.size : Int) := by omega
        obtain ⟨x, hx⟩ : ∃ x : UInt8, s[i]'(by omega) = x := ⟨_, rfl⟩
        obtain ⟨y, hy⟩ : ∃ y : UInt8, t[i]'(by omega) = y := ⟨_, rfl⟩
        have hxl : s.data.toList[i]? = some x := by rw [← hx]; exact Lib.data_getElem? s i (by omega)
        have hyl : t.data.toList[i]? = some y := by rw [← hy]; exact Lib.data_getElem? t i (by omega)
        have hy128 : y.toNat < 128 := (HT.out i y hyl).1
        have HX := Lib.hid (And.intro hxl hyl)
        have hxb : x.toNat < 256 := x.toNat_lt
        clear hxl hyl
        by_cases g1 : 97 ≤ y.toNat
        · have d1 : decide ((97 : Int) ≤ (y.toNat : Int)) = true := decide_eq_true (by omega)
          by_cases g2 : y.toNat ≤ 122
          · have d2 : decide ((y.toNat : Int) ≤ 122) = true := decide_eq_true (by omega)
            have hwr : IntKind.u8.wrap ((y.toNat : Int) - 32) = (y.toNat : Int) - 32 := IntWalk.u8_in _ (by omega)
            by_cases g3 : x.toNat + 32 = y.toNat
            · have d3 : ((x.toNat : Int) == (y.toNat : Int) - 32) = true := beq_iff_eq.2 (by omega)
              by_cases hxy : x.toNat = y.toNat
              · have e1 : ((x.toNat : Int) != (y.toNat : Int)) = false := by simp [hxy]
                go_wp2_with fail
                go_quiet (fail)
                go_wp2_with fail
                go_quiet (fail)
                go_wp2
                go_roundg g
                case measure => omega
                case rel => exact ⟨by first | exact bdr HBL.out _ | exact bdr (bdr HBL.out _) _, i + 1, by omega, by first | rfl | simp, by rw [← HI.out, Lib.drop_at HX.out.1, Lib.drop_at HX.out.2, foldEq_yes (decide_eq_true (by omega))]⟩
              · have e1 : ((x.toNat : Int) != (y.toNat : Int)) = true := by simp; omega
                go_wp2_with fail
                go_quiet (fail)
                go_wp2_with fail
                go_quiet (fail)
                go_wp2
                go_roundg g
                case measure => omega
                case rel => exact ⟨by first | exact bdr HBL.out _ | exact bdr (bdr HBL.out _) _, i + 1, by omega, by first | rfl | simp, by rw [← HI.out, Lib.drop_at HX.out.1, Lib.drop_at HX.out.2, foldEq_yes (decide_eq_true (by omega))]⟩
            · have d3 : ((x.toNat : Int) == (y.toNat : Int) - 32) = false := beq_eq_false_iff_ne.2 (by omega)
              by_cases hxy : x.toNat = y.toNat
              · have e1 : ((x.toNat : Int) != (y.toNat : Int)) = false := by simp [hxy]
                go_wp2_with fail
                go_quiet (fail)
                go_wp2_with fail
                go_quiet (fail)
                go_wp2
                go_roundg g
                case measure => omega
                case rel => exact ⟨by first | exact bdr HBL.out _ | exact bdr (bdr HBL.out _) _, i + 1, by omega, by first | rfl | simp, by rw [← HI.out, Lib.drop_at HX.out.1, Lib.drop_at HX.out.2, foldEq_yes (decide_eq_true (by omega))]⟩
              · have e1 : ((x.toNat : Int) != (y.toNat : Int)) = true := by simp; omega
                go_wp2_with fail
                go_quiet (fail)
                go_wp2_with fail
                go_quiet (fail)
                go_wp2
                go_ret
                refine ⟨?_, by first | exact bdr HBL.out _ | exact bdr (bdr HBL.out _) _⟩
                rw [← HI.out, Lib.drop_at HX.out.1, Lib.drop_at HX.out.2, foldEq_no (decide_eq_false (by omega))]
                rfl
          · have d2 : decide ((y.toNat : Int) ≤ 122) = false := decide_eq_false (by omega)
            by_cases hxy : x.toNat = y.toNat
            · have e1 : ((x.toNat : Int) != (y.toNat : Int)) = false := by simp [hxy]
              go_wp2_with fail
              go_quiet (fail)
              go_wp2_with fail
              go_quiet (fail)
              go_wp2
              go_roundg g
              case measure => omega
              case rel => exact ⟨by first | exact bdr HBL.out _ | exact bdr (bdr HBL.out _) _, i + 1, by omega, by first | rfl | simp, by rw [← HI.out, Lib.drop_at HX.out.1, Lib.drop_at HX.out.2, foldEq_yes (decide_eq_true (by omega))]⟩
            · have e1 : ((x.toNat : Int) != (y.toNat : Int)) = true := by simp; omega
              go_wp2_with fail
              go_quiet (fail)
              go_wp2_with fail
              go_quiet (fail)
              go_wp2
              go_ret
              refine ⟨?_, by first | exact bdr HBL.out _ | exact bdr (bdr HBL.out _) _⟩
              rw [← HI.out, Lib.drop_at HX.out.1, Lib.drop_at HX.out.2, foldEq_no (decide_eq_false (by omega))]
              rfl
        · have d1 : decide ((97 : Int) ≤ (y.toNat : Int)) = false := decide_eq_false (by omega)
          by_cases hxy : x.toNat = y.toNat
          · have e1 : ((x.toNat : Int) != (y.toNat : Int)) = false := by simp [hxy]
            go_wp2_with fail
            go_quiet (fail)
            go_wp2_with fail
            go_quiet (fail)
            go_wp2
            go_roundg g
            case measure => omega
            case rel => exact ⟨by first | exact bdr HBL.out _ | exact bdr (bdr HBL.out _) _, i + 1, by omega, by first | rfl | simp, by rw [← HI.out, Lib.drop_at HX.out.1, Lib.drop_at HX.out.2, foldEq_yes (decide_eq_true (by omega))]⟩
          · have e1 : ((x.toNat : Int) != (y.toNat : Int)) = true := by simp; omega
            go_wp2_with fail
            go_quiet (fail)
            go_wp2_with fail
            go_quiet (fail)
            go_wp2
            go_ret
            refine ⟨?_, by first | exact bdr HBL.out _ | exact bdr (bdr HBL.out _) _⟩
            rw [← HI.out, Lib.drop_at HX.out.1, Lib.drop_at HX.out.2, foldEq_no (decide_eq_false (by omega))]
            rfl
  · have hbe : ((s.size : Int) == (t.size : Int)) = false := beq_eq_false_iff_ne.2 (by omega)
    have hE : R = false := by rw [hR]; exact foldEq_len _ _ (by rw [← Lib.size_eq, ← Lib.size_eq]; exact hst)
    clear foldEq_len hR
    go_enter Tryd.func35, Tryd.ntmps35
    go_wp2
    go_ret
    exact ⟨by first | rfl | (rw [hE]; rfl), Below.refl _ _⟩

/-! The two names. -/
def name8 : ByteArray := ⟨#[117, 116, 102, 45, 56]⟩
def name16 : ByteArray := ⟨#[117, 116, 102, 45, 49, 54]⟩
theorem small_of (l : List UInt8) (h : l.all (fun b => decide (b.toNat < 128 ∧ ¬ (65 ≤ b.toNat ∧ b.toNat ≤ 90) ∧ b.toNat ≠ 107 ∧ b.toNat ≠ 115)) = true) : Small l := fun j b hj => by
  exact of_decide_eq_true (List.all_eq_true.1 h b (List.mem_of_getElem? hj))
theorem small8 : Small name8.data.toList := small_of _ (by decide)
theorem small16 : Small name16.data.toList := small_of _ (by decide)

/-- May bytes of a kind say that they are of a name? -/
def fitsOf (kd : Int) (s : ByteArray) : Bool :=
  if kd = 0 then foldEq s.data.toList name8.data.toList else if kd = 1 ∨ kd = 2 then foldEq s.data.toList name16.data.toList else false

set_option maxHeartbeats 2000000 in
set_option maxRecDepth 100000 in
theorem fits_any (kd : Int) (s : ByteArray) (w : World) (hs : s.size < 4294967281) (hF : FoldTab w) :
    Calls Tryd.prog 19 #[.int .i64 kd, .string s] w fun e w' => e = .returned (.bool (fitsOf kd s)) ∧ Below w.heap.size w w' := by
  have H8 := Lib.hid (fold_any s name8 w hs small8 hF)
  have H16 := Lib.hid (fold_any s name16 w hs small16 hF)
  obtain ⟨R8, h8⟩ : ∃ R8, R8 = foldEq s.data.toList name8.data.toList := ⟨_, rfl⟩
  obtain ⟨R16, h16⟩ : ∃ R16, R16 = foldEq s.data.toList name16.data.toList := ⟨_, rfl⟩
  have hf : fitsOf kd s = if kd = 0 then R8 else if kd = 1 ∨ kd = 2 then R16 else false := by unfold fitsOf; rw [h8, h16]
  rw [hf]
  rw [← h8] at H8
  rw [← h16] at H16
  unfold name8 at H8
  unfold name16 at H16
  clear hf h8 h16 hF
  by_cases h0 : kd = 0
  · subst h0
    go_enter Tryd.func19, Tryd.ntmps19
    go_wp2_with fail
    refine H8.out.mono ?_
    rintro e w1 ⟨rfl, hb1⟩
    have HB := Lib.hid hb1
    clear hb1
    go_wp2
    go_ret
    exact ⟨by first | rfl | simp, HB.out⟩
  · by_cases h1 : kd = 1
    · subst h1
      go_enter Tryd.func19, Tryd.ntmps19
      go_wp2_with fail
      refine H16.out.mono ?_
      rintro e w1 ⟨rfl, hb1⟩
      have HB := Lib.hid hb1
      clear hb1
      go_wp2
      go_ret
      exact ⟨by first | rfl | simp, HB.out⟩
    · by_cases h2 : kd = 2
      · subst h2
        go_enter Tryd.func19, Tryd.ntmps19
        go_wp2_with fail
        refine H16.out.mono ?_
        rintro e w1 ⟨rfl, hb1⟩
        have HB := Lib.hid hb1
        clear hb1
        go_wp2
        go_ret
        exact ⟨by first | rfl | simp, HB.out⟩
      · have e0 : (kd == 0) = false := by simp [h0]
        have e1 : (kd == 1) = false := by simp [h1]
        have e2 : (kd == 2) = false := by simp [h2]
        rw [if_neg h0, if_neg (by omega)]
        go_enter Tryd.func19, Tryd.ntmps19
        go_wp2
        go_ret
        exact ⟨by first | rfl | simp, Below.refl _ _⟩

set_option maxHeartbeats 2000000 in
set_option maxRecDepth 100000 in
theorem refFits_any (kd : Int) (s : ByteArray) (w : World) (hs : s.size < 4294967281) :
    Calls Tryd.prog 20 #[.int .i64 kd, .string s] w fun e w' => e = .returned (.bool (fitsOf kd s)) ∧ Below w.heap.size w w' := by
  have H8 := Lib.hid (fun wx => same_any s name8 wx hs small8)
  have H16 := Lib.hid (fun wx => same_any s name16 wx hs small16)
  obtain ⟨R8, h8⟩ : ∃ R8, R8 = foldEq s.data.toList name8.data.toList := ⟨_, rfl⟩
  obtain ⟨R16, h16⟩ : ∃ R16, R16 = foldEq s.data.toList name16.data.toList := ⟨_, rfl⟩
  have hf : fitsOf kd s = if kd = 0 then R8 else if kd = 1 ∨ kd = 2 then R16 else false := by unfold fitsOf; rw [h8, h16]
  rw [hf]
  simp only [← h8] at H8
  simp only [← h16] at H16
  unfold name8 at H8
  unfold name16 at H16
  clear hf h8 h16
  by_cases h0 : kd = 0
  · subst h0
    go_enter Tryd.func20, Tryd.ntmps20
    go_wp2_with fail
    refine (H8.out _).mono ?_
    rintro e w1 ⟨rfl, hb1⟩
    have HB := Lib.hid hb1
    clear hb1
    cases R8
    all_goals
      go_wp2
      go_ret
      exact ⟨by first | rfl | simp, HB.out⟩
  · by_cases h1 : kd = 1
    · subst h1
      go_enter Tryd.func20, Tryd.ntmps20
      go_wp2_with fail
      refine (H16.out _).mono ?_
      rintro e w1 ⟨rfl, hb1⟩
      have HB := Lib.hid hb1
      clear hb1
      cases R16
      all_goals
        go_wp2
        go_ret
        exact ⟨by first | rfl | simp, HB.out⟩
    · by_cases h2 : kd = 2
      · subst h2
        go_enter Tryd.func20, Tryd.ntmps20
        go_wp2_with fail
        refine (H16.out _).mono ?_
        rintro e w1 ⟨rfl, hb1⟩
        have HB := Lib.hid hb1
        clear hb1
        cases R16
        all_goals
          go_wp2
          go_ret
          exact ⟨by first | rfl | simp, HB.out⟩
      · have e0 : (kd == 0) = false := by simp [h0]
        have e1 : (kd == 1) = false := by simp [h1]
        have e2 : (kd == 2) = false := by simp [h2]
        rw [if_neg h0, if_neg (by omega)]
        go_enter Tryd.func20, Tryd.ntmps20
        go_wp2
        go_ret
        exact ⟨by first | rfl | simp, Below.refl _ _⟩

set_option maxHeartbeats 2000000 in
set_option maxRecDepth 100000 in
theorem sniffFits_walk (kd : Int) (s : ByteArray) (w : World) (hs : Signs w) (hF : FoldTab w) :
    Calls Tryd.prog 5 #[.int .i64 kd, .string s] w fun e w' => e = .returned (.bool true) ∧ Below w.heap.size w w' := by
  have HAW := Lib.hid (fun W (hW : Below w.heap.size w W) => sawake_at hs hW)
  clear hs
  by_cases h : (40 : Int) < (s.size : Int)
  · have h40 : (40 : Int) ≤ (s.size : Int) := by omega
    obtain ⟨s', hs'⟩ : ∃ s', s' = s.extract 0 40 := ⟨_, rfl⟩
    have hsz : s'.size < 4294967281 := by rw [hs', ByteArray.size_extract]; omega
    have H1 := Lib.hid (fits_any kd s' w hsz hF)
    have H2 := Lib.hid (fun wx => refFits_any kd s' wx hsz)
    generalize fitsOf kd s' = R at H1 H2
    rw [hs'] at H1 H2
    clear hsz hF hs'
    go_enter Tryd.func5, Tryd.ntmps5
    go_wp2_with fail
    refine (H1.out).mono ?_
    rintro e w1 ⟨rfl, hb1⟩
    have HB1 := Lib.hid hb1
    clear hb1
    go_wp2_with fail
    refine (H2.out w1).mono ?_
    rintro e w2 ⟨rfl, hb2⟩
    have HB2 := Lib.hid (HB1.out.trans (hb2.mono HB1.out.size))
    clear hb2
    have hee : (R == R) = true := by simp
    go_wp2_with (go_at_call 15; refine (HAW.out _ HB2.out).mono ?_; rintro e w3 ⟨rfl, hb3⟩)
    go_ret
    exact ⟨rfl, HB2.out.trans (hb3.mono HB2.out.size)⟩
  · have hsz : s.size < 4294967281 := by omega
    have H1 := Lib.hid (fits_any kd s w hsz hF)
    have H2 := Lib.hid (fun wx => refFits_any kd s wx hsz)
    generalize fitsOf kd s = R at H1 H2
    clear hsz hF
    go_enter Tryd.func5, Tryd.ntmps5
    go_wp2_with fail
    refine (H1.out).mono ?_
    rintro e w1 ⟨rfl, hb1⟩
    have HB1 := Lib.hid hb1
    clear hb1
    go_wp2_with fail
    refine (H2.out w1).mono ?_
    rintro e w2 ⟨rfl, hb2⟩
    have HB2 := Lib.hid (HB1.out.trans (hb2.mono HB1.out.size))
    clear hb2
    have hee : (R == R) = true := by simp
    go_wp2_with (go_at_call 15; refine (HAW.out _ HB2.out).mono ?_; rintro e w3 ⟨rfl, hb3⟩)
    go_ret
    exact ⟨rfl, HB2.out.trans (hb3.mono HB2.out.size)⟩

end Go.Proofs.YtmibajofbagphaaDoor
