/-
  Contracts of layer 5: Name, Token, Plain, and the reference's.
-/
import Derived.Test.YtlkcnfkfccfhmaaDoorNmD
import Derived.Test.YtlkcnfkfccfhmaaDoorNmR
namespace Go.Proofs.YtlkcnfkfccfhmaaDoor
open Go.RowKit
set_option linter.unusedVariables false

theorem ret_bl {a b : Bool} (h : a = b) : Ending.returned (.bool a) = .returned (.bool b) := by rw [h]

theorem size_toList (s : ByteArray) : s.toList.length = s.size := by
  rw [Lib.toList_data, Array.length_toList]; rfl
theorem empty_facts {s : ByteArray} (h : s.size = 0) : s.toList = [] := List.eq_nil_of_length_eq_zero (by rw [size_toList, h])
theorem some_facts {s : ByteArray} (h : 0 < s.size) : s.toList.isEmpty = false := by
  have := size_toList s
  cases hl : s.toList with
  | nil => rw [hl] at this; simp at this; omega
  | cons => rfl

theorem int_beq (a b : Int) : (a == b) = decide (a = b) := by rw [Bool.eq_iff_iff]; simp

set_option maxHeartbeats 1000000 in
theorem nameC (s : ByteArray) (w : World) (hT : Tabs w) (hs : s.size ≤ 200) :
    Calls Tryd.prog 10 #[.string s] w fun e w' => e = .returned (.bool (nameS s)) ∧ Below w.heap.size w w' := by
  have HR := Lib.hid (row_any s w hT hs)
  have hN := name_row s
  have hl := rowL_length s
  obtain ⟨n, hn⟩ : ∃ n, n = (rowL s).length := ⟨_, rfl⟩
  rw [← hn] at hl hN
  have HL := Lib.hid hn
  clear hn hT
  by_cases h0 : 0 < n
  · rw [decide_eq_true h0, Bool.true_and] at hN
    have HN := Lib.hid hN
    clear hN
    go_enter Tryd.func10, Tryd.ntmps10
    go_wp2_with (first
      | (go_at_call 24; (with_reducible refine HR.out.mono ?_); rintro e w1 ⟨a, cap, rfl, hc, hm, hat, hb1⟩; rw [← HL.out] at hc ⊢; have HLD := Lib.hid (lead_any a n cap (rowL s) 0 w1 HL.out.symm hc hm hat); have HB1 := Lib.hid hb1; clear hat hb1 hm)
      | (go_at_call 20; (with_reducible refine HLD.out.mono ?_); rintro e w2 ⟨rfl, hb2⟩))
    go_ret
    exact ⟨ret_bl (by rw [int_beq]; exact HN.out), HB1.out.trans (hb2.mono HB1.out.size)⟩
  · obtain rfl : n = 0 := by omega
    have HN := Lib.hid (show nameS s = false by rw [← hN]; rfl)
    clear hN h0
    go_enter Tryd.func10, Tryd.ntmps10
    go_wp2_with (go_at_call 24; (with_reducible refine HR.out.mono ?_); rintro e w1 ⟨a, cap, rfl, hc, hm, hat, hb1⟩; rw [← HL.out] at hc ⊢; clear hat hm)
    go_ret
    exact ⟨ret_bl HN.out.symm, hb1⟩

set_option maxHeartbeats 1000000 in
theorem allC (b off n cap : Nat) (l : List Int) (w : World) (hn : l.length = n) (hc : n ≤ cap) (hm : cap ≤ maxLen) (h0 : 0 < n) (hat : AtCells w (some ⟨b, off, none⟩) (l.map (.int .i32))) :
    Calls Tryd.prog 28 #[.slice (some ⟨b, off, none⟩) n cap, fnChar] w fun e w' => e = .returned (.bool (decide (run l = l.length))) ∧ Below w.heap.size w w' := by
  have HRN := run_any b off n cap l 0 w hn hc hm h0 hat
  rw [List.drop_zero] at HRN
  have HRN := Lib.hid HRN
  have HN := Lib.hid hn
  have hfn := fun w => func_neq_nil w (.func 29) #[] #[]
  clear hat hn
  go_enter Tryd.func28, Tryd.ntmps28
  go_wp2_with (go_at_call 33; (refine HRN.out.mono ?_); rintro e w1 ⟨rfl, hb1⟩)
  go_ret
  exact ⟨ret_bl (by rw [HN.out, Bool.eq_iff_iff]; simp; omega), hb1⟩

set_option maxHeartbeats 1000000 in
theorem tokenC (s : ByteArray) (w : World) (hT : Tabs w) (hs : s.size ≤ 200) :
    Calls Tryd.prog 14 #[.string s] w fun e w' => e = .returned (.bool (tokenS s)) ∧ Below w.heap.size w w' := by
  have HR := Lib.hid (row_any s w hT hs)
  have hN := token_row s
  have hl := rowL_length s
  obtain ⟨n, hn⟩ : ∃ n, n = (rowL s).length := ⟨_, rfl⟩
  rw [← hn] at hl hN
  have HL := Lib.hid hn
  clear hn hT
  by_cases h0 : 0 < n
  · rw [decide_eq_true h0, Bool.true_and] at hN
    have HN := Lib.hid hN
    clear hN
    go_enter Tryd.func14, Tryd.ntmps14
    go_wp2_with (first
      | (go_at_call 24; (with_reducible refine HR.out.mono ?_); rintro e w1 ⟨a, cap, rfl, hc, hm, hat, hb1⟩; rw [← HL.out] at hc ⊢; obtain ⟨b, off, rfl, _⟩ := hat.int (k := 0) (by rw [← HL.out]; exact h0); have HAL := Lib.hid (allC b off n cap (rowL s) w1 HL.out.symm hc hm h0 hat); rw [← HL.out, HN.out] at HAL; have HB1 := Lib.hid hb1; clear hat hb1 hm)
      | (go_at_call 28; (refine HAL.out.mono ?_); rintro e w2 ⟨rfl, hb2⟩))
    go_ret
    exact ⟨rfl, HB1.out.trans (hb2.mono HB1.out.size)⟩
  · obtain rfl : n = 0 := by omega
    have HN := Lib.hid (show tokenS s = false by rw [← hN]; rfl)
    clear hN h0
    go_enter Tryd.func14, Tryd.ntmps14
    go_wp2_with (go_at_call 24; (with_reducible refine HR.out.mono ?_); rintro e w1 ⟨a, cap, rfl, hc, hm, hat, hb1⟩; rw [← HL.out] at hc ⊢; clear hat hm)
    go_ret
    exact ⟨ret_bl HN.out.symm, hb1⟩

end Go.Proofs.YtlkcnfkfccfhmaaDoor
