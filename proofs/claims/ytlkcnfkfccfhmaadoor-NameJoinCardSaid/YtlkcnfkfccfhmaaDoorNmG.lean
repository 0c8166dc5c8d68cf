/-
  Contracts of layer 5: Cut at a colon, Split, the reference's, Join.
-/
import Derived.Test.YtlkcnfkfccfhmaaDoorNmF
import Derived.Deep.QuietTactic
import Derived.BigQuiet
import Derived.IntWalk
namespace Go.Proofs.YtlkcnfkfccfhmaaDoor
open Go.RowKit
set_option linter.unusedVariables false

theorem col_lt {s : ByteArray} {k : Nat} (h : col s = k) : k < s.size := by
  have := (Lib.indexByte_some h).1
  have h2 := (List.getElem?_eq_some_iff.1 this).1
  rwa [Array.length_toList] at h2

set_option maxHeartbeats 1000000 in
theorem sliteCut_yes (s : ByteArray) (k : Nat) (w : World) (hk : col s = k) (hs : s.size ≤ 200) :
    Calls Tryd.prog 42 #[.string s, .string ⟨#[58]⟩] w fun e w' => e = .returned (.tuple #[.string (s.extract 0 k), .string (s.extract (k + 1) s.size), .bool true]) ∧ Below w.heap.size w w' := by
  have HC := Tryd.stringslite_Index_one s 58 w
  have hk' : Lib.indexByte s.data.toList 58 = (k : Int) := hk
  rw [hk'] at HC
  have HC := Lib.hid HC
  have hlt := col_lt hk
  have hlt2 : (k : Int) < s.size := by omega
  clear hk hk'
  go_enter Tryd.func42, Tryd.ntmps42
  go_wp2_with (go_at_call 46; (with_reducible refine HC.out.mono ?_); rintro e w1 ⟨rfl, rfl⟩)
  have ek : IntKind.i64.wrap ((k : Int) + 1) = (k : Int) + 1 := IntWalk.i64_in _ (by omega)
  have e0 : (0 : Int) ≤ (k : Int) + 1 := by omega
  have et : ((k : Int) + 1).toNat = k + 1 := by omega
  have e1 : (k : Int) + 1 ≤ s.size := by omega
  go_quiet (fail)
  clear ek et
  go_wp2
  go_ret3
  exact ⟨rfl, bel_drewN (Below.refl _ _) _⟩

set_option maxHeartbeats 1000000 in
theorem sliteCut_no (s : ByteArray) (w : World) (hk : col s < 0) :
    Calls Tryd.prog 42 #[.string s, .string ⟨#[58]⟩] w fun e w' => e = .returned (.tuple #[.string s, .string ⟨#[]⟩, .bool false]) ∧ Below w.heap.size w w' := by
  have HC := Tryd.stringslite_Index_one s 58 w
  have hge := Lib.indexByte_ge s.data.toList 58
  have hk' : Lib.indexByte s.data.toList 58 = -1 := by have : Lib.indexByte s.data.toList 58 < 0 := hk; omega
  rw [hk'] at HC
  have HC := Lib.hid HC
  clear hk hk' hge
  go_enter Tryd.func42, Tryd.ntmps42
  go_wp2_with (go_at_call 46; (with_reducible refine HC.out.mono ?_); rintro e w1 ⟨rfl, rfl⟩)
  go_ret3
  exact ⟨rfl, Below.refl _ _⟩

set_option maxHeartbeats 1000000 in
theorem cut_of {s P L : ByteArray} {b : Bool} {w : World} (H : Calls Tryd.prog 42 #[.string s, .string ⟨#[58]⟩] w fun e w' => e = .returned (.tuple #[.string P, .string L, .bool b]) ∧ Below w.heap.size w w') :
    Calls Tryd.prog 31 #[.string s, .string ⟨#[58]⟩] w fun e w' => e = .returned (.tuple #[.string P, .string L, .bool b]) ∧ Below w.heap.size w w' := by
  have HC := Lib.hid H
  clear H
  go_enter Tryd.func31, Tryd.ntmps31
  go_wp2_with (go_at_call 42; (with_reducible refine HC.out.mono ?_); rintro e w1 ⟨rfl, hb1⟩)
  go_ret3
  exact ⟨rfl, hb1⟩

/-- Prefix and local name, and whether a text has them. -/
def splitF (s : ByteArray) : ByteArray × ByteArray × Bool :=
  if col s < 0 then (if plainS s then (⟨#[]⟩, s, true) else (⟨#[]⟩, ⟨#[]⟩, false))
  else if plainS (s.extract 0 (col s).toNat) && plainS (s.extract ((col s).toNat + 1) s.size) then (s.extract 0 (col s).toNat, s.extract ((col s).toNat + 1) s.size, true) else (⟨#[]⟩, ⟨#[]⟩, false)

def SplitOf (w : World) (x : ByteArray × ByteArray × Bool) (e : Ending) (w' : World) : Prop := e = .returned (.tuple #[.string x.1, .string x.2.1, .bool x.2.2]) ∧ Below w.heap.size w w'

theorem ext_size (s : ByteArray) (a b : Nat) : (s.extract a b).size ≤ s.size := by
  rw [ByteArray.size_extract]; omega

theorem plainAt {s : ByteArray} {b : Bool} {w0 : World} (h : plainS s = b) (hT : Tabs w0) (hs : s.size ≤ 200) (w : World) (hb : Below w0.heap.size w0 w) :
    Calls Tryd.prog 12 #[.string s] w fun e w' => e = .returned (.bool b) ∧ Below w.heap.size w w' := h ▸ plainC s w (tabs_below hT hb) hs
theorem refPlainAt {s : ByteArray} {b : Bool} (h : plainS s = b) (hs : s.size ≤ 200) (w : World) :
    Calls Tryd.prog 13 #[.string s] w fun e w' => e = .returned (.bool b) ∧ Below w.heap.size w w' := h ▸ refPlainC s w hs

set_option maxHeartbeats 1000000 in
theorem splitC (s : ByteArray) (w : World) (hT : Tabs w) (hs : s.size ≤ 200) :
    Calls Tryd.prog 17 #[.string s] w (SplitOf w (splitF s)) := by
  by_cases hk : col s < 0
  · have HC := Lib.hid (cut_of (sliteCut_no s w hk))
    cases hp : plainS s
    · have HP := Lib.hid (plainAt hp hT hs)
      have HF := Lib.hid (show splitF s = (⟨#[]⟩, ⟨#[]⟩, false) by unfold splitF; rw [if_pos hk, if_neg (by simp [hp])])
      clear hp hk hT
      go_enter Tryd.func17, Tryd.ntmps17
      go_wp2_with (first
        | (go_at_call 31; (with_reducible refine HC.out.mono ?_); rintro e w1 ⟨rfl, hb1⟩; have HB1 := Lib.hid hb1; clear hb1)
        | (go_at_call 12; (with_reducible refine (HP.out _ HB1.out).mono ?_); rintro e w2 ⟨rfl, hb2⟩))
      go_ret3
      exact ⟨by rw [HF.out]; rfl, HB1.out.trans (hb2.mono HB1.out.size)⟩
    · have HP := Lib.hid (plainAt hp hT hs)
      have HF := Lib.hid (show splitF s = (⟨#[]⟩, s, true) by unfold splitF; rw [if_pos hk, if_pos hp])
      clear hp hk hT
      go_enter Tryd.func17, Tryd.ntmps17
      go_wp2_with (first
        | (go_at_call 31; (with_reducible refine HC.out.mono ?_); rintro e w1 ⟨rfl, hb1⟩; have HB1 := Lib.hid hb1; clear hb1)
        | (go_at_call 12; (with_reducible refine (HP.out _ HB1.out).mono ?_); rintro e w2 ⟨rfl, hb2⟩))
      go_ret3
      exact ⟨by rw [HF.out]; rfl, HB1.out.trans (hb2.mono HB1.out.size)⟩
  · obtain ⟨k, hkk⟩ : ∃ k : Nat, col s = k := ⟨(col s).toNat, by omega⟩
    have HC := Lib.hid (cut_of (sliteCut_yes s k w hkk hs))
    have hF : splitF s = if plainS (s.extract 0 k) && plainS (s.extract (k + 1) s.size) then (s.extract 0 k, s.extract (k + 1) s.size, true) else (⟨#[]⟩, ⟨#[]⟩, false) := by
      unfold splitF; rw [if_neg hk, hkk]; rfl
    have z1 := ext_size s 0 k
    have z2 := ext_size s (k + 1) s.size
    generalize s.extract 0 k = P at HC hF z1
    generalize s.extract (k + 1) s.size = L at HC hF z2
    cases hp : plainS P
    · have HP := Lib.hid (plainAt hp hT (by omega))
      have HF := Lib.hid (show splitF s = (⟨#[]⟩, ⟨#[]⟩, false) by rw [hF, hp]; rfl)
      clear hp hk hkk hT hF z1 z2
      go_enter Tryd.func17, Tryd.ntmps17
      go_wp2_with (first
        | (go_at_call 31; (with_reducible refine HC.out.mono ?_); rintro e w1 ⟨rfl, hb1⟩; have HB1 := Lib.hid hb1; clear hb1)
        | (go_at_call 12; (with_reducible refine (HP.out _ HB1.out).mono ?_); rintro e w2 ⟨rfl, hb2⟩))
      go_ret3
      exact ⟨by rw [HF.out]; rfl, HB1.out.trans (hb2.mono HB1.out.size)⟩
    · have HP := Lib.hid (plainAt hp hT (by omega))
      cases hq : plainS L
      · have HQ := Lib.hid (plainAt hq hT (by omega))
        have HF := Lib.hid (show splitF s = (⟨#[]⟩, ⟨#[]⟩, false) by rw [hF, hp, hq]; rfl)
        clear hp hq hk hkk hT hF z1 z2
        have tok : True := trivial
        go_enter Tryd.func17, Tryd.ntmps17
        go_wp2_with (first
          | (go_at_call 31; (with_reducible refine HC.out.mono ?_); rintro e w1 ⟨rfl, hb1⟩; have HB1 := Lib.hid hb1; clear hb1)
          | (go_at_call 12; (have _t := tok); (with_reducible refine (HP.out _ HB1.out).mono ?_); rintro e w2 ⟨rfl, hb2⟩; have HB2 := Lib.hid (HB1.out.trans (hb2.mono HB1.out.size)); clear hb2 tok _t)
          | (go_at_call 12; (with_reducible refine (HQ.out _ HB2.out).mono ?_); rintro e w3 ⟨rfl, hb3⟩))
        go_ret3
        exact ⟨by rw [HF.out]; rfl, HB2.out.trans (hb3.mono HB2.out.size)⟩
      · have HQ := Lib.hid (plainAt hq hT (by omega))
        have HF := Lib.hid (show splitF s = (P, L, true) by rw [hF, hp, hq]; rfl)
        clear hp hq hk hkk hT hF z1 z2
        have tok : True := trivial
        go_enter Tryd.func17, Tryd.ntmps17
        go_wp2_with (first
          | (go_at_call 31; (with_reducible refine HC.out.mono ?_); rintro e w1 ⟨rfl, hb1⟩; have HB1 := Lib.hid hb1; clear hb1)
          | (go_at_call 12; (have _t := tok); (with_reducible refine (HP.out _ HB1.out).mono ?_); rintro e w2 ⟨rfl, hb2⟩; have HB2 := Lib.hid (HB1.out.trans (hb2.mono HB1.out.size)); clear hb2 tok _t)
          | (go_at_call 12; (with_reducible refine (HQ.out _ HB2.out).mono ?_); rintro e w3 ⟨rfl, hb3⟩))
        go_ret3
        exact ⟨by rw [HF.out]; rfl, HB2.out.trans (hb3.mono HB2.out.size)⟩

set_option maxHeartbeats 1000000 in
theorem refSplitC (s : ByteArray) (w : World) (hs : s.size ≤ 200) :
    Calls Tryd.prog 18 #[.string s] w (SplitOf w (splitF s)) := by
  have HCL := refColon_any s w hs
  by_cases hk : col s < 0
  · have HCL := Lib.hid HCL
    have hF : splitF s = if plainS s then (⟨#[]⟩, s, true) else (⟨#[]⟩, ⟨#[]⟩, false) := by unfold splitF; rw [if_pos hk]
    generalize col s = k at HCL hk
    cases hp : plainS s
    · have HP := Lib.hid (refPlainAt hp hs)
      have HF := Lib.hid (show splitF s = (⟨#[]⟩, ⟨#[]⟩, false) by rw [hF, hp]; rfl)
      clear hp hF
      go_enter Tryd.func18, Tryd.ntmps18
      go_wp2_with (first
        | (go_at_call 27; (with_reducible refine HCL.out.mono ?_); rintro e w1 ⟨rfl, rfl⟩)
        | (go_at_call 13; (with_reducible refine (HP.out _).mono ?_); rintro e w2 ⟨rfl, hb2⟩))
      go_ret3
      exact ⟨by rw [HF.out]; rfl, hb2⟩
    · have HP := Lib.hid (refPlainAt hp hs)
      have HF := Lib.hid (show splitF s = (⟨#[]⟩, s, true) by rw [hF, hp]; rfl)
      clear hp hF
      go_enter Tryd.func18, Tryd.ntmps18
      go_wp2_with (first
        | (go_at_call 27; (with_reducible refine HCL.out.mono ?_); rintro e w1 ⟨rfl, rfl⟩)
        | (go_at_call 13; (with_reducible refine (HP.out _).mono ?_); rintro e w2 ⟨rfl, hb2⟩))
      go_ret3
      exact ⟨by rw [HF.out]; rfl, hb2⟩
  · obtain ⟨k, hkk⟩ : ∃ k : Nat, col s = k := ⟨(col s).toNat, by omega⟩
    have hlt := col_lt hkk
    have hF : splitF s = if plainS (s.extract 0 k) && plainS (s.extract (k + 1) s.size) then (s.extract 0 k, s.extract (k + 1) s.size, true) else (⟨#[]⟩, ⟨#[]⟩, false) := by
      unfold splitF; rw [if_neg hk, hkk]; rfl
    rw [hkk] at HCL
    have HCL := Lib.hid HCL
    have z1 := ext_size s 0 k
    have z2 := ext_size s (k + 1) s.size
    have l1 : (k : Int) + 1 ≤ s.size := by omega
    have l2 : (k : Int) ≤ s.size := by omega
    cases hp : plainS (s.extract 0 k)
    · have HP := Lib.hid (refPlainAt hp (by omega))
      have HF := Lib.hid (show splitF s = (⟨#[]⟩, ⟨#[]⟩, false) by rw [hF, hp]; rfl)
      clear hp hk hkk hF z1 z2
      go_enter Tryd.func18, Tryd.ntmps18
      go_wp2_with (first
        | (go_at_call 27; (with_reducible refine HCL.out.mono ?_); rintro e w1 ⟨rfl, rfl⟩)
        | (go_at_call 13; (with_reducible refine (HP.out _).mono ?_); rintro e w2 ⟨rfl, hb2⟩))
      go_ret3
      exact ⟨by rw [HF.out]; rfl, hb2⟩
    · have HP := Lib.hid (refPlainAt hp (by omega))
      cases hq : plainS (s.extract (k + 1) s.size)
      · have HQ := Lib.hid (refPlainAt hq (by omega))
        have HF := Lib.hid (show splitF s = (⟨#[]⟩, ⟨#[]⟩, false) by rw [hF, hp, hq]; rfl)
        clear hp hq hk hkk hF z1 z2
        have tok : True := trivial
        go_enter Tryd.func18, Tryd.ntmps18
        go_wp2_with (first
          | (go_at_call 27; (with_reducible refine HCL.out.mono ?_); rintro e w1 ⟨rfl, rfl⟩)
          | (go_at_call 13; (have _t := tok); (with_reducible refine (HP.out _).mono ?_); rintro e w2 ⟨rfl, hb2⟩; have HB2 := Lib.hid hb2; clear hb2 tok _t)
          | (go_at_call 13; (with_reducible refine (HQ.out _).mono ?_); rintro e w3 ⟨rfl, hb3⟩))
        go_ret3
        exact ⟨by rw [HF.out]; rfl, HB2.out.trans (hb3.mono HB2.out.size)⟩
      · have HQ := Lib.hid (refPlainAt hq (by omega))
        have HF := Lib.hid (show splitF s = (s.extract 0 k, s.extract (k + 1) s.size, true) by rw [hF, hp, hq]; rfl)
        clear hp hq hk hkk hF z1 z2
        have tok : True := trivial
        go_enter Tryd.func18, Tryd.ntmps18
        go_wp2_with (first
          | (go_at_call 27; (with_reducible refine HCL.out.mono ?_); rintro e w1 ⟨rfl, rfl⟩)
          | (go_at_call 13; (have _t := tok); (with_reducible refine (HP.out _).mono ?_); rintro e w2 ⟨rfl, hb2⟩; have HB2 := Lib.hid hb2; clear hb2 tok _t)
          | (go_at_call 13; (with_reducible refine (HQ.out _).mono ?_); rintro e w3 ⟨rfl, hb3⟩; have HB3 := Lib.hid (HB2.out.trans (hb3.mono HB2.out.size)); clear hb3))
        have ek : IntKind.i64.wrap ((k : Int) + 1) = (k : Int) + 1 := IntWalk.i64_in _ (by omega)
        have e0 : (0 : Int) ≤ (k : Int) + 1 := by omega
        have et : ((k : Int) + 1).toNat = k + 1 := by omega
        go_quiet (fail)
        clear ek et
        go_wp2
        go_ret3
        exact ⟨by rw [HF.out]; rfl, bel_drewN HB3.out _⟩

/-- A prefix and a local name as one. -/
def joinS (p l : ByteArray) : ByteArray := if p.size = 0 then l else p ++ ⟨#[58]⟩ ++ l

set_option maxHeartbeats 1000000 in
theorem joinC (p l : ByteArray) (w : World) (hp : p.size ≤ 60) (hl : l.size ≤ 60) :
    Calls Tryd.prog 19 #[.string p, .string l] w fun e w' => e = .returned (.string (joinS p l)) ∧ w = w' := by
  by_cases h0 : 0 < p.size
  · have e1 := some_facts h0
    have e2 : (!p.toList.isEmpty) = true := by rw [e1]; rfl
    have HF := Lib.hid (show joinS p l = p ++ ⟨#[58]⟩ ++ l by unfold joinS; rw [if_neg (by omega)])
    have z1 : (p ++ (⟨#[58]⟩ : ByteArray)).size ≤ 61 := by
      rw [ByteArray.size_append]
      have : (⟨#[58]⟩ : ByteArray).size = 1 := rfl
      omega
    go_enter Tryd.func19, Tryd.ntmps19
    go_wp2
    go_ret
    exact ⟨by rw [HF.out]; rfl, rfl⟩
  · have e1 := empty_facts (by omega : p.size = 0)
    have HF := Lib.hid (show joinS p l = l by unfold joinS; rw [if_pos (by omega)])
    go_enter Tryd.func19, Tryd.ntmps19
    go_wp2
    go_ret
    exact ⟨by rw [HF.out]; rfl, rfl⟩

end Go.Proofs.YtlkcnfkfccfhmaaDoor
