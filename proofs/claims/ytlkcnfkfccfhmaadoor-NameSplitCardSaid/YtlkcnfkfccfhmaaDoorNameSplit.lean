/-
  NameSplit, NameJoin: the walks.
-/
import Derived.Test.YtlkcnfkfccfhmaaDoorNmH
namespace Go.Proofs.YtlkcnfkfccfhmaaDoor
open Go.RowKit
set_option linter.unusedVariables false

theorem bytes_ext {a b : ByteArray} (h : a.data.toList = b.data.toList) : a = b := ByteArray.ext (Array.toList_inj.1 h)

theorem parts_join {s : ByteArray} {k : Nat} (h : col s = k) : s.extract 0 k ++ ⟨#[58]⟩ ++ s.extract (k + 1) s.size = s := by
  have hlt := col_lt h
  have hb := (Lib.indexByte_some h).1
  apply bytes_ext
  have hl : s.data.toList.length = s.size := by rw [Array.length_toList]; rfl
  rw [ByteArray.data_append, ByteArray.data_append, Array.toList_append, Array.toList_append, Lib.extract_data, Lib.extract_data, List.drop_zero, Nat.sub_zero]
  show s.data.toList.take k ++ [58] ++ (s.data.toList.drop (k + 1)).take (s.size - (k + 1)) = _
  rw [List.take_of_length_le (l := s.data.toList.drop (k + 1)) (by simp)]
  have hk : k < s.data.toList.length := by omega
  have h58 : s.data.toList[k] = 58 := by
    rw [List.getElem?_eq_getElem hk] at hb; exact Option.some.inj hb
  conv => rhs; rw [← List.take_append_drop k s.data.toList, List.drop_eq_getElem_cons hk, h58]
  simp

theorem plain_pos {s : ByteArray} (h : plainS s = true) : 0 < s.size := by
  have := h
  unfold plainS nameS at this
  rw [Bool.and_eq_true, Bool.and_eq_true, decide_eq_true_eq] at this
  exact this.1.1
theorem plain_col {s : ByteArray} (h : plainS s = true) : col s < 0 := by
  unfold plainS at h
  rw [Bool.and_eq_true, decide_eq_true_eq] at h
  exact h.2

theorem split_join {s P L : ByteArray} (h : splitF s = (P, L, true)) : joinS P L = s := by
  unfold splitF at h
  split at h
  · split at h
    · obtain ⟨rfl, h2⟩ := Prod.mk.inj h
      obtain ⟨rfl, _⟩ := Prod.mk.inj h2
      rfl
    · have := (Prod.mk.inj (Prod.mk.inj h).2).2; simp at this
  · rename_i hk
    obtain ⟨k, hkk⟩ : ∃ k : Nat, col s = k := ⟨(col s).toNat, by omega⟩
    rw [hkk, Int.toNat_natCast] at h
    split at h
    · rename_i hp
      rw [Bool.and_eq_true] at hp
      obtain ⟨rfl, h2⟩ := Prod.mk.inj h
      obtain ⟨rfl, _⟩ := Prod.mk.inj h2
      unfold joinS
      rw [if_neg (by have := plain_pos hp.1; omega)]
      exact parts_join hkk
    · have := (Prod.mk.inj (Prod.mk.inj h).2).2; simp at this

theorem empty_eq {p : ByteArray} (h : p.size = 0) : p = ⟨#[]⟩ := by
  apply bytes_ext
  have : p.data.toList.length = 0 := by rw [Array.length_toList]; exact h
  rw [List.eq_nil_of_length_eq_zero this]

theorem col_join {p l : ByteArray} (h : col p < 0) : col (p ++ ⟨#[58]⟩ ++ l) = p.size := by
  have hn : Lib.indexByte p.data.toList 58 = -1 := by have := Lib.indexByte_ge p.data.toList 58; have : Lib.indexByte p.data.toList 58 < 0 := h; omega
  have hl : p.data.toList.length = p.size := by rw [Array.length_toList]; rfl
  have hd : (p ++ (⟨#[58]⟩ : ByteArray) ++ l).data.toList = p.data.toList ++ ([58] ++ l.data.toList) := by
    rw [ByteArray.data_append, ByteArray.data_append, Array.toList_append, Array.toList_append, List.append_assoc]
  unfold col
  rw [hd]
  refine col_at ?_ fun x hx => ?_
  · rw [List.getElem?_append_right (by omega), hl, Nat.sub_self]; rfl
  · rw [List.getElem?_append_left (by omega)]
    exact Lib.indexByte_none hn x

theorem join_split {p l : ByteArray} (hl : plainS l = true) (hp : p.size = 0 ∨ plainS p = true) : splitF (joinS p l) = (p, l, true) := by
  by_cases h0 : p.size = 0
  · have hj : joinS p l = l := by unfold joinS; rw [if_pos h0]
    rw [hj, empty_eq h0]
    unfold splitF
    rw [if_pos (plain_col hl), if_pos hl]
  · have hpp : plainS p = true := by rcases hp with h | h; · exact absurd h h0
                                     · exact h
    have hj : joinS p l = p ++ ⟨#[58]⟩ ++ l := by unfold joinS; rw [if_neg h0]
    have hc := col_join (l := l) (plain_col hpp)
    have hlp : p.data.toList.length = p.size := by rw [Array.length_toList]; rfl
    have hd : (p ++ (⟨#[58]⟩ : ByteArray) ++ l).data.toList = p.data.toList ++ ([58] ++ l.data.toList) := by
      rw [ByteArray.data_append, ByteArray.data_append, Array.toList_append, Array.toList_append, List.append_assoc]
    have e1 : (p ++ (⟨#[58]⟩ : ByteArray) ++ l).extract 0 p.size = p := by
      apply bytes_ext
      rw [Lib.extract_data, hd, List.drop_zero, Nat.sub_zero, List.take_append_of_le_length (by omega), List.take_of_length_le (by omega)]
    have e2 : (p ++ (⟨#[58]⟩ : ByteArray) ++ l).extract (p.size + 1) (p ++ (⟨#[58]⟩ : ByteArray) ++ l).size = l := by
      apply bytes_ext
      rw [Lib.extract_to_end, hd, List.drop_append, List.drop_of_length_le (by omega), hlp]
      simp
    rw [hj]
    unfold splitF
    rw [if_neg (by omega), hc, Int.toNat_natCast, e1, e2, hpp, hl]
    rfl

set_option maxHeartbeats 1000000 in
theorem nameSplit_walk (s0 : ByteArray) (w : World) (hT : Tabs w) (hs0 : s0.size ≤ maxLen) :
    Calls Tryd.prog 4 #[.string s0] w fun e w' => e = .returned (.bool true) ∧ Below w.heap.size w w' := by
  have HS := Lib.hid (shortC s0 w hs0)
  have hs1 := cutS_size s0
  generalize cutS s0 = s at HS hs1
  have hs : s.size ≤ 200 := by omega
  have H1 := splitC s w hT hs
  have H2 := fun w' => refSplitC s w' hs
  have HAW := Lib.hid (fun w' (hb : Below w.heap.size w w') => awakeC w' (tabs_below hT hb))
  obtain ⟨P, L, b, hF⟩ : ∃ P L b, splitF s = (P, L, b) := ⟨_, _, _, rfl⟩
  rw [hF] at H1 H2
  have H1 := Lib.hid H1
  have H2 := Lib.hid H2
  clear hT
  cases b
  · clear hF
    go_enter Tryd.func4, Tryd.ntmps4
    go_wp2_with (first
      | (go_at_call 9; (with_reducible refine HS.out.mono ?_); rintro e w1 ⟨rfl, rfl⟩)
      | (go_at_call 17; (with_reducible refine H1.out.mono ?_); rintro e w2 ⟨rfl, hb2⟩; have HBX := Lib.hid hb2; clear hb2)
      | (go_at_call 18; (with_reducible refine (H2.out _).mono ?_); rintro e w2 ⟨rfl, hb2⟩; replace HBX := Lib.hid (HBX.out.trans (hb2.mono HBX.out.size)); clear hb2)
      | (go_at_call 16; (with_reducible refine (HAW.out _ HBX.out).mono ?_); rintro e w9 ⟨rfl, hb9⟩))
    go_ret
    exact ⟨rfl, HBX.out.trans (hb9.mono HBX.out.size)⟩
  · have hj := split_join hF
    have z : P.size ≤ 60 ∧ L.size ≤ 60 := by
      have hx := hF
      unfold splitF at hx
      split at hx
      · split at hx
        · obtain ⟨rfl, h2⟩ := Prod.mk.inj hx
          obtain ⟨rfl, _⟩ := Prod.mk.inj h2
          exact ⟨by decide, hs1⟩
        · obtain ⟨rfl, h2⟩ := Prod.mk.inj hx
          obtain ⟨rfl, _⟩ := Prod.mk.inj h2
          exact ⟨by decide, by decide⟩
      · split at hx
        · obtain ⟨rfl, h2⟩ := Prod.mk.inj hx
          obtain ⟨rfl, _⟩ := Prod.mk.inj h2
          exact ⟨Nat.le_trans (ext_size _ _ _) hs1, Nat.le_trans (ext_size _ _ _) hs1⟩
        · obtain ⟨rfl, h2⟩ := Prod.mk.inj hx
          obtain ⟨rfl, _⟩ := Prod.mk.inj h2
          exact ⟨by decide, by decide⟩
    have HJ := fun w => joinC P L w z.1 z.2
    rw [hj] at HJ
    have HJ := Lib.hid HJ
    clear hF hj
    go_enter Tryd.func4, Tryd.ntmps4
    go_wp2_with (first
      | (go_at_call 9; (with_reducible refine HS.out.mono ?_); rintro e w1 ⟨rfl, rfl⟩)
      | (go_at_call 17; (with_reducible refine H1.out.mono ?_); rintro e w2 ⟨rfl, hb2⟩; have HBX := Lib.hid hb2; clear hb2)
      | (go_at_call 18; (with_reducible refine (H2.out _).mono ?_); rintro e w2 ⟨rfl, hb2⟩; replace HBX := Lib.hid (HBX.out.trans (hb2.mono HBX.out.size)); clear hb2)
      | (go_at_call 19; (with_reducible refine (HJ.out _).mono ?_); rintro e w3 ⟨rfl, rfl⟩)
      | (go_at_call 16; (with_reducible refine (HAW.out _ HBX.out).mono ?_); rintro e w9 ⟨rfl, hb9⟩))
    go_ret
    exact ⟨rfl, HBX.out.trans (hb9.mono HBX.out.size)⟩

set_option maxHeartbeats 1000000 in
theorem nameJoin_walk (p0 l0 : ByteArray) (w : World) (hT : Tabs w) (hp0 : p0.size ≤ maxLen) (hl0 : l0.size ≤ maxLen) :
    Calls Tryd.prog 5 #[.string p0, .string l0] w fun e w' => e = .returned (.bool true) ∧ Below w.heap.size w w' := by
  have HS := Lib.hid (fun w => shortC p0 w hp0)
  have HSL := Lib.hid (fun w => shortC l0 w hl0)
  have hp := cutS_size p0
  have hl := cutS_size l0
  generalize cutS p0 = p at HS hp
  generalize cutS l0 = l at HSL hl
  have HAW := Lib.hid (fun w' (hb : Below w.heap.size w w') => awakeC w' (tabs_below hT hb))
  have HBX := Lib.hid (Below.refl w.heap.size w)
  have hj := fun w => joinC p l w hp hl
  have hjs : (joinS p l).size ≤ 200 := by
    unfold joinS
    split
    · omega
    · rw [ByteArray.size_append, ByteArray.size_append]
      have : (⟨#[58]⟩ : ByteArray).size = 1 := rfl
      omega
  have h1 : ∀ w', Below w.heap.size w w' → _ := fun w' hb => splitC (joinS p l) w' (tabs_below hT hb) hjs
  clear hT
  by_cases h0 : 0 < p.size
  · have e1 := some_facts h0
    have e2 : (!p.toList.isEmpty) = true := by rw [e1]; rfl
    have hje : joinS p l = p ++ ⟨#[58]⟩ ++ l := by unfold joinS; rw [if_neg (by omega)]
    have z1 : (p ++ (⟨#[58]⟩ : ByteArray)).size ≤ 61 := by
      rw [ByteArray.size_append]
      have : (⟨#[58]⟩ : ByteArray).size = 1 := rfl
      omega
    cases hpl : plainS l
    · have HPL := Lib.hid (refPlainAt hpl (by omega))
      obtain ⟨P, L, b, hF⟩ : ∃ P L b, splitF (joinS p l) = (P, L, b) := ⟨_, _, _, rfl⟩
      rw [hF] at h1
      rw [hje] at hj h1
      have HJ := Lib.hid hj
      have H1 := Lib.hid h1
      clear hF hpl hje hj h1
      have tok : True := trivial
      go_enter Tryd.func5, Tryd.ntmps5
      go_wp2_with (first
        | (go_at_call 9; (have _t := tok); (with_reducible refine (HS.out _).mono ?_); rintro e w1 ⟨rfl, rfl⟩; clear tok _t)
        | (go_at_call 9; (with_reducible refine (HSL.out _).mono ?_); rintro e w1 ⟨rfl, rfl⟩)
        | (go_at_call 19; (with_reducible refine (HJ.out _).mono ?_); rintro e w3 ⟨rfl, rfl⟩)
        | (go_at_call 17; (with_reducible refine (H1.out _ HBX.out).mono ?_); rintro e w2 ⟨rfl, hb2⟩; replace HBX := Lib.hid (HBX.out.trans (hb2.mono HBX.out.size)); clear hb2)
        | (go_at_call 13; (with_reducible refine (HPL.out _).mono ?_); rintro e w2 ⟨rfl, hb2⟩; replace HBX := Lib.hid (HBX.out.trans (hb2.mono HBX.out.size)); clear hb2)
        | (go_at_call 16; (with_reducible refine (HAW.out _ HBX.out).mono ?_); rintro e w9 ⟨rfl, hb9⟩))
      go_ret
      exact ⟨rfl, HBX.out.trans (hb9.mono HBX.out.size)⟩
    · have HPL := Lib.hid (refPlainAt hpl (by omega))
      cases hpp : plainS p
      · have HPP := Lib.hid (refPlainAt hpp (by omega))
        obtain ⟨P, L, b, hF⟩ : ∃ P L b, splitF (joinS p l) = (P, L, b) := ⟨_, _, _, rfl⟩
        rw [hF] at h1
        rw [hje] at hj h1
        have HJ := Lib.hid hj
        have H1 := Lib.hid h1
        clear hF hpl hpp hje hj h1
        have tok : True := trivial
        go_enter Tryd.func5, Tryd.ntmps5
        go_wp2_with (first
          | (go_at_call 9; (have _t := tok); (with_reducible refine (HS.out _).mono ?_); rintro e w1 ⟨rfl, rfl⟩; clear tok _t)
          | (go_at_call 9; (with_reducible refine (HSL.out _).mono ?_); rintro e w1 ⟨rfl, rfl⟩)
          | (go_at_call 19; (with_reducible refine (HJ.out _).mono ?_); rintro e w3 ⟨rfl, rfl⟩)
          | (go_at_call 17; (with_reducible refine (H1.out _ HBX.out).mono ?_); rintro e w2 ⟨rfl, hb2⟩; replace HBX := Lib.hid (HBX.out.trans (hb2.mono HBX.out.size)); clear hb2)
          | (go_at_call 13; (with_reducible refine (HPL.out _).mono ?_); rintro e w2 ⟨rfl, hb2⟩; replace HBX := Lib.hid (HBX.out.trans (hb2.mono HBX.out.size)); clear hb2)
          | (go_at_call 13; (with_reducible refine (HPP.out _).mono ?_); rintro e w2 ⟨rfl, hb2⟩; replace HBX := Lib.hid (HBX.out.trans (hb2.mono HBX.out.size)); clear hb2)
          | (go_at_call 16; (with_reducible refine (HAW.out _ HBX.out).mono ?_); rintro e w9 ⟨rfl, hb9⟩))
        go_ret
        exact ⟨rfl, HBX.out.trans (hb9.mono HBX.out.size)⟩
      · have HPP := Lib.hid (refPlainAt hpp (by omega))
        rw [join_split hpl (.inr hpp)] at h1
        rw [hje] at hj h1
        have HJ := Lib.hid hj
        have H1 := Lib.hid h1
        clear hpl hpp hje hj h1
        have tok : True := trivial
        go_enter Tryd.func5, Tryd.ntmps5
        go_wp2_with (first
          | (go_at_call 9; (have _t := tok); (with_reducible refine (HS.out _).mono ?_); rintro e w1 ⟨rfl, rfl⟩; clear tok _t)
          | (go_at_call 9; (with_reducible refine (HSL.out _).mono ?_); rintro e w1 ⟨rfl, rfl⟩)
          | (go_at_call 19; (with_reducible refine (HJ.out _).mono ?_); rintro e w3 ⟨rfl, rfl⟩)
          | (go_at_call 17; (with_reducible refine (H1.out _ HBX.out).mono ?_); rintro e w2 ⟨rfl, hb2⟩; replace HBX := Lib.hid (HBX.out.trans (hb2.mono HBX.out.size)); clear hb2)
          | (go_at_call 13; (with_reducible refine (HPL.out _).mono ?_); rintro e w2 ⟨rfl, hb2⟩; replace HBX := Lib.hid (HBX.out.trans (hb2.mono HBX.out.size)); clear hb2)
          | (go_at_call 13; (with_reducible refine (HPP.out _).mono ?_); rintro e w2 ⟨rfl, hb2⟩; replace HBX := Lib.hid (HBX.out.trans (hb2.mono HBX.out.size)); clear hb2)
          | (go_at_call 16; (with_reducible refine (HAW.out _ HBX.out).mono ?_); rintro e w9 ⟨rfl, hb9⟩))
        go_ret
        exact ⟨rfl, HBX.out.trans (hb9.mono HBX.out.size)⟩
  · obtain rfl := empty_eq (by omega : p.size = 0)
    have hje : joinS ⟨#[]⟩ l = l := rfl
    cases hpl : plainS l
    · have HPL := Lib.hid (refPlainAt hpl (by omega))
      obtain ⟨P, L, b, hF⟩ : ∃ P L b, splitF (joinS ⟨#[]⟩ l) = (P, L, b) := ⟨_, _, _, rfl⟩
      rw [hF] at h1
      rw [hje] at hj h1
      have HJ := Lib.hid hj
      have H1 := Lib.hid h1
      clear hF hpl hje hj h1
      have tok : True := trivial
      go_enter Tryd.func5, Tryd.ntmps5
      go_wp2_with (first
        | (go_at_call 9; (have _t := tok); (with_reducible refine (HS.out _).mono ?_); rintro e w1 ⟨rfl, rfl⟩; clear tok _t)
        | (go_at_call 9; (with_reducible refine (HSL.out _).mono ?_); rintro e w1 ⟨rfl, rfl⟩)
        | (go_at_call 19; (with_reducible refine (HJ.out _).mono ?_); rintro e w3 ⟨rfl, rfl⟩)
        | (go_at_call 17; (with_reducible refine (H1.out _ HBX.out).mono ?_); rintro e w2 ⟨rfl, hb2⟩; replace HBX := Lib.hid (HBX.out.trans (hb2.mono HBX.out.size)); clear hb2)
        | (go_at_call 13; (with_reducible refine (HPL.out _).mono ?_); rintro e w2 ⟨rfl, hb2⟩; replace HBX := Lib.hid (HBX.out.trans (hb2.mono HBX.out.size)); clear hb2)
        | (go_at_call 16; (with_reducible refine (HAW.out _ HBX.out).mono ?_); rintro e w9 ⟨rfl, hb9⟩))
      go_ret
      exact ⟨rfl, HBX.out.trans (hb9.mono HBX.out.size)⟩
    · have HPL := Lib.hid (refPlainAt hpl (by omega))
      rw [join_split hpl (.inl rfl)] at h1
      rw [hje] at hj h1
      have HJ := Lib.hid hj
      have H1 := Lib.hid h1
      clear hpl hje hj h1
      have tok : True := trivial
      go_enter Tryd.func5, Tryd.ntmps5
      go_wp2_with (first
        | (go_at_call 9; (have _t := tok); (with_reducible refine (HS.out _).mono ?_); rintro e w1 ⟨rfl, rfl⟩; clear tok _t)
        | (go_at_call 9; (with_reducible refine (HSL.out _).mono ?_); rintro e w1 ⟨rfl, rfl⟩)
        | (go_at_call 19; (with_reducible refine (HJ.out _).mono ?_); rintro e w3 ⟨rfl, rfl⟩)
        | (go_at_call 17; (with_reducible refine (H1.out _ HBX.out).mono ?_); rintro e w2 ⟨rfl, hb2⟩; replace HBX := Lib.hid (HBX.out.trans (hb2.mono HBX.out.size)); clear hb2)
        | (go_at_call 13; (with_reducible refine (HPL.out _).mono ?_); rintro e w2 ⟨rfl, hb2⟩; replace HBX := Lib.hid (HBX.out.trans (hb2.mono HBX.out.size)); clear hb2)
        | (go_at_call 16; (with_reducible refine (HAW.out _ HBX.out).mono ?_); rintro e w9 ⟨rfl, hb9⟩))
      go_ret
      exact ⟨rfl, HBX.out.trans (hb9.mono HBX.out.size)⟩

end Go.Proofs.YtlkcnfkfccfhmaaDoor
