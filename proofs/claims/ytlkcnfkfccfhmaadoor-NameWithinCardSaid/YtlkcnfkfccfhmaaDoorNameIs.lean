/-
  NameIs, NameWithin: the walks.
-/
import Derived.Test.YtlkcnfkfccfhmaaDoorNmH
namespace Go.Proofs.YtlkcnfkfccfhmaaDoor
open Go.RowKit
set_option linter.unusedVariables false

set_option maxHeartbeats 1000000 in
theorem nameIs_walk (s0 : ByteArray) (w : World) (hT : Tabs w) (hs0 : s0.size ≤ maxLen) :
    Calls Tryd.prog 3 #[.string s0] w fun e w' => e = .returned (.bool true) ∧ Below w.heap.size w w' := by
  have HS := Lib.hid (shortC s0 w hs0)
  have hs : (cutS s0).size ≤ 200 := Nat.le_trans (cutS_size s0) (by omega)
  generalize cutS s0 = s at HS hs
  have H1 := Lib.hid (fun w' (hb : Below w.heap.size w w') => nameC s w' (tabs_below hT hb) hs)
  have H2 := Lib.hid (fun w' => refNameC s w' hs)
  have H3 := Lib.hid (fun w' (hb : Below w.heap.size w w') => plainC s w' (tabs_below hT hb) hs)
  have H4 := Lib.hid (fun w' => refPlainC s w' hs)
  have H5 := Lib.hid (fun w' (hb : Below w.heap.size w w') => tokenC s w' (tabs_below hT hb) hs)
  have H6 := Lib.hid (fun w' => refTokenC s w' hs)
  have HAW := Lib.hid (fun w' (hb : Below w.heap.size w w') => awakeC w' (tabs_below hT hb))
  generalize nameS s = b1 at H1 H2
  generalize plainS s = b2 at H3 H4
  generalize tokenS s = b3 at H5 H6
  have HBX := Lib.hid (Below.refl w.heap.size w)
  clear hT
  cases b1 <;> cases b2 <;> cases b3
  all_goals
    go_enter Tryd.func3, Tryd.ntmps3
    go_wp2_with (first
      | (go_at_call 9; (with_reducible refine HS.out.mono ?_); rintro e w1 ⟨rfl, rfl⟩)
      | (go_at_call 10; (with_reducible refine (H1.out _ HBX.out).mono ?_); rintro e w2 ⟨rfl, hb2⟩; replace HBX := Lib.hid (HBX.out.trans (hb2.mono HBX.out.size)); clear hb2)
      | (go_at_call 11; (with_reducible refine (H2.out _).mono ?_); rintro e w2 ⟨rfl, hb2⟩; replace HBX := Lib.hid (HBX.out.trans (hb2.mono HBX.out.size)); clear hb2)
      | (go_at_call 12; (with_reducible refine (H3.out _ HBX.out).mono ?_); rintro e w2 ⟨rfl, hb2⟩; replace HBX := Lib.hid (HBX.out.trans (hb2.mono HBX.out.size)); clear hb2)
      | (go_at_call 13; (with_reducible refine (H4.out _).mono ?_); rintro e w2 ⟨rfl, hb2⟩; replace HBX := Lib.hid (HBX.out.trans (hb2.mono HBX.out.size)); clear hb2)
      | (go_at_call 14; (with_reducible refine (H5.out _ HBX.out).mono ?_); rintro e w2 ⟨rfl, hb2⟩; replace HBX := Lib.hid (HBX.out.trans (hb2.mono HBX.out.size)); clear hb2)
      | (go_at_call 15; (with_reducible refine (H6.out _).mono ?_); rintro e w2 ⟨rfl, hb2⟩; replace HBX := Lib.hid (HBX.out.trans (hb2.mono HBX.out.size)); clear hb2)
      | (go_at_call 16; (with_reducible refine (HAW.out _ HBX.out).mono ?_); rintro e w9 ⟨rfl, hb9⟩))
    go_ret
    exact ⟨rfl, HBX.out.trans (hb9.mono HBX.out.size)⟩

theorem plain_name {s : ByteArray} (h : plainS s = true) : nameS s = true := by
  unfold plainS at h
  rw [Bool.and_eq_true] at h
  exact h.1
theorem name_token {s : ByteArray} (h : nameS s = true) : tokenS s = true := by
  unfold nameS at h
  unfold tokenS
  rw [Bool.and_eq_true, decide_eq_true_eq, decide_eq_true_eq] at h
  rw [Bool.and_eq_true, decide_eq_true_eq]
  exact ⟨h.1, ((lead_full ((runes_pos s).2 h.1)).1 h.2).2⟩

set_option maxHeartbeats 1000000 in
theorem nameWithin_walk (s0 : ByteArray) (w : World) (hT : Tabs w) (hs0 : s0.size ≤ maxLen) :
    Calls Tryd.prog 8 #[.string s0] w fun e w' => e = .returned (.bool true) ∧ Below w.heap.size w w' := by
  have HS := Lib.hid (shortC s0 w hs0)
  have hs : (cutS s0).size ≤ 200 := Nat.le_trans (cutS_size s0) (by omega)
  generalize cutS s0 = s at HS hs
  have H1 := Lib.hid (fun w' (hb : Below w.heap.size w w') => nameC s w' (tabs_below hT hb) hs)
  have H3 := Lib.hid (fun w' (hb : Below w.heap.size w w') => plainC s w' (tabs_below hT hb) hs)
  have H5 := Lib.hid (fun w' (hb : Below w.heap.size w w') => tokenC s w' (tabs_below hT hb) hs)
  have HAW := Lib.hid (fun w' (hb : Below w.heap.size w w') => awakeC w' (tabs_below hT hb))
  have k1 : plainS s = true → nameS s = true := plain_name
  have k2 : nameS s = true → tokenS s = true := name_token
  generalize nameS s = b1 at H1 k1 k2
  generalize plainS s = b2 at H3 k1
  generalize tokenS s = b3 at H5 k2
  have HBX := Lib.hid (Below.refl w.heap.size w)
  clear hT
  have hways : (b2 = true ∧ b1 = true ∧ b3 = true) ∨ (b2 = false ∧ b1 = true ∧ b3 = true) ∨ (b2 = false ∧ b1 = false) := by
    revert k1 k2; cases b1 <;> cases b2 <;> cases b3 <;> simp
  clear k1 k2
  rcases hways with ⟨rfl, rfl, rfl⟩ | ⟨rfl, rfl, rfl⟩ | ⟨rfl, rfl⟩
  all_goals
    go_enter Tryd.func8, Tryd.ntmps8
    go_wp2_with (first
      | (go_at_call 9; (with_reducible refine HS.out.mono ?_); rintro e w1 ⟨rfl, rfl⟩)
      | (go_at_call 10; (with_reducible refine (H1.out _ HBX.out).mono ?_); rintro e w2 ⟨rfl, hb2⟩; replace HBX := Lib.hid (HBX.out.trans (hb2.mono HBX.out.size)); clear hb2)
      | (go_at_call 12; (with_reducible refine (H3.out _ HBX.out).mono ?_); rintro e w2 ⟨rfl, hb2⟩; replace HBX := Lib.hid (HBX.out.trans (hb2.mono HBX.out.size)); clear hb2)
      | (go_at_call 14; (with_reducible refine (H5.out _ HBX.out).mono ?_); rintro e w2 ⟨rfl, hb2⟩; replace HBX := Lib.hid (HBX.out.trans (hb2.mono HBX.out.size)); clear hb2)
      | (go_at_call 16; (with_reducible refine (HAW.out _ HBX.out).mono ?_); rintro e w9 ⟨rfl, hb9⟩))
    go_ret
    exact ⟨rfl, HBX.out.trans (hb9.mono HBX.out.size)⟩

end Go.Proofs.YtlkcnfkfccfhmaaDoor
