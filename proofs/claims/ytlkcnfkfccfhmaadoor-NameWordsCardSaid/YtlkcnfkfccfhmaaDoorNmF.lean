/-
  Contracts of layer 5: the reference's Name, Token, Plain; Plain.
-/
import Derived.Test.YtlkcnfkfccfhmaaDoorNmE
import Derived.Test.YtlkcnfkfccfhmaaDoorShelf
namespace Go.Proofs.YtlkcnfkfccfhmaaDoor
open Go.RowKit
set_option linter.unusedVariables false

theorem owns_cap {w : World} {base n c : Nat} {a : Option Addr} {e : TypeId} {size m : Nat} {xs : List Value} (h : w.ownsRow base e size (.slice a m c) n xs) : c ≤ maxLen := by
  obtain ⟨_, ⟨h1, _⟩ | ⟨g, c', cur, hv, _, _, _, hm, _⟩⟩ := h
  · obtain ⟨_, _, rfl⟩ := Value.slice.inj h1; exact Nat.zero_le _
  · obtain ⟨_, _, rfl⟩ := Value.slice.inj hv; exact hm

set_option maxHeartbeats 1000000 in
theorem refNameC (s : ByteArray) (w : World) (hs : s.size ≤ 200) :
    Calls Tryd.prog 11 #[.string s] w fun e w' => e = .returned (.bool (nameS s)) ∧ Below w.heap.size w w' := by
  have HRU := Lib.hid (fun w => refRunes_any s w hs)
  have hl := runesS_length s
  obtain ⟨n, hn⟩ : ∃ n, n = (runesS s).length := ⟨_, rfl⟩
  rw [← hn] at hl
  have HL := Lib.hid hn
  by_cases h0 : 0 < s.size
  · have HN := Lib.hid (show decide (leadN (runesS s) 0 = (n : Int)) = nameS s by unfold nameS; rw [decide_eq_true h0, Bool.true_and, hn])
    have e1 := some_facts h0
    have e2 : (!s.toList.isEmpty) = true := by rw [e1]; rfl
    have hb0 := Below.refl w.heap.size w
    clear hn
    go_enter Tryd.func11, Tryd.ntmps11
    go_wp2_with (first
      | (go_at_call 25; (with_reducible refine (HRU.out _).mono ?_); rintro e w1 ⟨v, rfl, hown, hb1⟩; rw [← HL.out] at hown; obtain ⟨a, c, rfl, hc⟩ := owns_slice hown; have hm := owns_cap hown; have HLD := Lib.hid (refLead_any a n c (runesS s) 0 w1 HL.out.symm hc hm (AtCells.of_owns hown)); replace hb0 := hb0.trans (hb1.mono hb0.size); clear hown hm hb1)
      | (go_at_call 21; (with_reducible refine HLD.out.mono ?_); rintro e w2 ⟨rfl, rfl⟩))
    go_ret
    exact ⟨ret_bl (by rw [int_beq]; exact HN.out), hb0⟩
  · have e1 := empty_facts (by omega : s.size = 0)
    have HN := Lib.hid (show nameS s = false by unfold nameS; rw [decide_eq_false h0]; rfl)
    clear hn
    go_enter Tryd.func11, Tryd.ntmps11
    go_wp2
    go_ret
    exact ⟨ret_bl HN.out.symm, Below.refl _ _⟩

set_option maxHeartbeats 1000000 in
theorem refTokenC (s : ByteArray) (w : World) (hs : s.size ≤ 200) :
    Calls Tryd.prog 15 #[.string s] w fun e w' => e = .returned (.bool (tokenS s)) ∧ Below w.heap.size w w' := by
  have HRU := Lib.hid (refRunes_any s w hs)
  have hl := runesS_length s
  obtain ⟨n, hn⟩ : ∃ n, n = (runesS s).length := ⟨_, rfl⟩
  rw [← hn] at hl
  have HL := Lib.hid hn
  clear hn
  go_enter Tryd.func15, Tryd.ntmps15
  go_wp2_with (go_at_call 25; (with_reducible refine HRU.out.mono ?_); rintro e w1 ⟨v, rfl, hown, hb1⟩; rw [← HL.out] at hown; obtain ⟨a, c, rfl, hc⟩ := owns_slice hown; have HAT := Lib.hid (AtCells.of_owns hown); have HB1 := Lib.hid hb1; clear hown hb1)
  go_loop [4, 8] (fun _r i => ∃ k : Nat, k ≤ n ∧ i = .int .i64 k ∧ Hid (∀ x, x < k → nameB ((runesS s).getD x 0) = true)) (fun _ i => n - (intOf i).toNat)
  case atStart => exact ⟨0, Nat.zero_le _, rfl, Lib.hid (fun x hx => by omega)⟩
  case round =>
    obtain ⟨k, hk, rfl, HK⟩ := hrel
    by_cases hlt : k < n
    · obtain ⟨b, off, rfl, hc1⟩ := HAT.out.int (k := k) (by rw [← HL.out]; exact hlt)
      obtain ⟨z, hz⟩ : ∃ z, z = (runesS s).getD k 0 := ⟨_, rfl⟩
      rw [← hz] at hc1
      have HZ := Lib.hid hz
      clear hz
      cases hnz : nameB z
      · have HC := Lib.hid (fun w => refName_at hnz w)
        have HR := Lib.hid (show tokenS s = false by
          unfold tokenS
          have : (runesS s).all nameB = false := by
            cases h : (runesS s).all nameB
            · rfl
            · have hlt' : k < (runesS s).length := by rw [← HL.out]; exact hlt
              have := List.all_eq_true.1 h _ (List.getElem_mem hlt')
              rw [HZ.out, List.getD_eq_getElem?_getD, List.getElem?_eq_getElem hlt'] at hnz
              rw [show nameB (runesS s)[k] = false from hnz] at this
              exact absurd this (by simp)
          rw [this]; simp)
        clear hnz
        go_wp2_with (go_at_call 30; (with_reducible refine (HC.out _).mono ?_); rintro e w2 ⟨rfl, rfl⟩)
        go_ret
        exact ⟨ret_bl HR.out.symm, HB1.out⟩
      · have HC := Lib.hid (fun w => refName_at hnz w)
        have HN := Lib.hid (show ∀ x, x < k + 1 → nameB ((runesS s).getD x 0) = true from fun x hx => by
          by_cases h : x = k
          · subst h; rw [← HZ.out]; exact hnz
          · exact HK.out x (by omega))
        clear hnz
        go_wp2_with (go_at_call 30; (with_reducible refine (HC.out _).mono ?_); rintro e w2 ⟨rfl, rfl⟩)
        go_round
        case rel => exact ⟨k + 1, by omega, by go_num, HN⟩
        case measure => simp [intOf]; omega
    · obtain rfl : k = n := by omega
      have HR := Lib.hid (show tokenS s = decide (0 < s.size) by
        unfold tokenS
        have : (runesS s).all nameB = true := run_full (run_all _ fun j hj => HK.out j (by rw [HL.out]; exact hj))
        rw [this]; simp)
      clear hlt
      by_cases h0 : 0 < s.size
      · have e1 := some_facts h0
        have e2 : (!s.toList.isEmpty) = true := by rw [e1]; rfl
        go_wp2
        go_ret
        exact ⟨ret_bl (by rw [HR.out, decide_eq_true h0]), HB1.out⟩
      · have e1 := empty_facts (by omega : s.size = 0)
        go_wp2
        go_ret
        exact ⟨ret_bl (by rw [HR.out, decide_eq_false h0]), HB1.out⟩

theorem colon_text : (⟨#[58]⟩ : ByteArray) = ⟨#[58]⟩ := rfl

set_option maxHeartbeats 1000000 in
theorem plainC (s : ByteArray) (w : World) (hT : Tabs w) (hs : s.size ≤ 200) :
    Calls Tryd.prog 12 #[.string s] w fun e w' => e = .returned (.bool (plainS s)) ∧ Below w.heap.size w w' := by
  have HC := Lib.hid (Tryd.strings_Contains_one s 58 w)
  have HN := Lib.hid (nameC s w hT hs)
  clear hT
  by_cases hc : 0 ≤ col s
  · have h1 : decide (0 ≤ Lib.indexByte s.data.toList 58) = true := decide_eq_true hc
    rw [h1] at HC
    have HR := Lib.hid (show plainS s = false by unfold plainS; rw [decide_eq_false (by omega : ¬ col s < 0)]; simp)
    clear hc h1
    go_enter Tryd.func12, Tryd.ntmps12
    go_wp2_with (go_at_call 26; (with_reducible refine HC.out.mono ?_); rintro e w1 ⟨rfl, rfl⟩)
    go_ret
    exact ⟨ret_bl HR.out.symm, Below.refl _ _⟩
  · have h1 : decide (0 ≤ Lib.indexByte s.data.toList 58) = false := decide_eq_false hc
    rw [h1] at HC
    have HR := Lib.hid (show plainS s = nameS s by unfold plainS; rw [decide_eq_true (by omega : col s < 0)]; simp)
    clear hc h1
    go_enter Tryd.func12, Tryd.ntmps12
    go_wp2_with (first
      | (go_at_call 26; (with_reducible refine HC.out.mono ?_); rintro e w1 ⟨rfl, rfl⟩)
      | (go_at_call 10; (with_reducible refine HN.out.mono ?_); rintro e w1 ⟨rfl, hb1⟩))
    go_ret
    exact ⟨ret_bl HR.out.symm, hb1⟩

set_option maxHeartbeats 1000000 in
theorem refPlainC (s : ByteArray) (w : World) (hs : s.size ≤ 200) :
    Calls Tryd.prog 13 #[.string s] w fun e w' => e = .returned (.bool (plainS s)) ∧ Below w.heap.size w w' := by
  have HN := Lib.hid (refNameC s w hs)
  have HC := Lib.hid (fun w => refColon_any s w hs)
  cases hn : nameS s
  · rw [hn] at HN
    have HR := Lib.hid (show plainS s = false by unfold plainS; rw [hn]; rfl)
    clear hn
    go_enter Tryd.func13, Tryd.ntmps13
    go_wp2_with (go_at_call 11; (with_reducible refine HN.out.mono ?_); rintro e w1 ⟨rfl, hb1⟩)
    go_ret
    exact ⟨ret_bl HR.out.symm, hb1⟩
  · rw [hn] at HN
    have HR := Lib.hid (show plainS s = decide (col s < 0) by unfold plainS; rw [hn]; rfl)
    generalize col s = k at HC HR
    clear hn
    go_enter Tryd.func13, Tryd.ntmps13
    go_wp2_with (first
      | (go_at_call 11; (with_reducible refine HN.out.mono ?_); rintro e w1 ⟨rfl, hb1⟩)
      | (go_at_call 27; (with_reducible refine (HC.out _).mono ?_); rintro e w2 ⟨rfl, rfl⟩))
    go_ret
    exact ⟨ret_bl HR.out.symm, hb1⟩

end Go.Proofs.YtlkcnfkfccfhmaaDoor
