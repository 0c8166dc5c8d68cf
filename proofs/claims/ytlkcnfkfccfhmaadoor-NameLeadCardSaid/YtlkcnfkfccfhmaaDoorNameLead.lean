/-
  NameLead: the walk.
-/
import Derived.Test.YtlkcnfkfccfhmaaDoorNmH
namespace Go.Proofs.YtlkcnfkfccfhmaaDoor
open Go.RowKit
set_option linter.unusedVariables false

set_option maxHeartbeats 1000000 in
theorem nameLead_walk (a : Option Addr) (n cap : Nat) (zs : List Int) (k : Int) (w : World) (hT : Tabs w) (hn : zs.length = n) (hc : n ≤ cap) (hm : cap ≤ maxLen) (hat : AtCells w a (zs.map (.int .i32))) :
    Calls Tryd.prog 6 #[.slice a n cap, .int .i64 k] w fun e w' => e = .returned (.bool true) ∧ Below w.heap.size w w' := by
  obtain ⟨m, hmm⟩ : ∃ m, m = min n 60 := ⟨_, rfl⟩
  have hat' := hat.take m
  rw [← List.map_take] at hat'
  have hlen : (zs.take m).length = m := by rw [List.length_take]; omega
  generalize zs.take m = ys at hat' hlen
  have HL := Lib.hid (lead_any a m cap ys k w hlen (by omega) hm hat')
  have HR := Lib.hid (fun w' (hb : Below w.heap.size w w') => refLead_any a m cap ys k w' hlen (by omega) hm (hat'.below hb))
  have HAW := Lib.hid (fun w' (hb : Below w.heap.size w w') => awakeC w' (tabs_below hT hb))
  generalize leadN ys k = x at HL HR
  unfold maxLen at hm
  clear hat hn hat' hlen hT
  by_cases h : n ≤ 60
  · obtain rfl : n = m := by omega
    clear hmm
    go_enter Tryd.func6, Tryd.ntmps6
    go_wp2_with (first
      | (go_at_call 20; (with_reducible refine HL.out.mono ?_); rintro e w1 ⟨rfl, hb1⟩; have HBX := Lib.hid hb1; clear hb1)
      | (go_at_call 21; (with_reducible refine (HR.out _ HBX.out).mono ?_); rintro e w2 ⟨rfl, rfl⟩)
      | (go_at_call 16; (with_reducible refine (HAW.out _ HBX.out).mono ?_); rintro e w9 ⟨rfl, hb9⟩))
    go_ret
    exact ⟨rfl, HBX.out.trans (hb9.mono HBX.out.size)⟩
  · obtain rfl : m = 60 := by omega
    have h' : 60 < n := by omega
    clear hmm h
    go_enter Tryd.func6, Tryd.ntmps6
    go_wp2_with (first
      | (go_at_call 20; (with_reducible refine HL.out.mono ?_); rintro e w1 ⟨rfl, hb1⟩; have HBX := Lib.hid hb1; clear hb1)
      | (go_at_call 21; (with_reducible refine (HR.out _ HBX.out).mono ?_); rintro e w2 ⟨rfl, rfl⟩)
      | (go_at_call 16; (with_reducible refine (HAW.out _ HBX.out).mono ?_); rintro e w9 ⟨rfl, hb9⟩))
    go_ret
    exact ⟨rfl, HBX.out.trans (hb9.mono HBX.out.size)⟩

end Go.Proofs.YtlkcnfkfccfhmaaDoor
