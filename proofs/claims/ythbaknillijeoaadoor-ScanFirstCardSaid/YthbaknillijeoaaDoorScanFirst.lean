/-
  ScanFirst: for every list of bytes it returns true.
-/
import Derived.Test.YthbaknillijeoaaDoorScanF
import Derived.Deep.RegionHeld3
import Derived.Deep.RegionWith
namespace Go.Proofs.YthbaknillijeoaaDoor
open Go.RowKit

set_option maxHeartbeats 400000 in
theorem first_zero (a : Option Addr) (cap : Nat) (w : World) :
    Calls Tryd.prog 11 #[.slice a 0 cap] w fun e w' => e = .returned (.tuple #[.int .i32 0, .int .i64 0]) ∧ Below w.heap.size w w' := by
  go_enter Tryd.func11, Tryd.ntmps11
  go_wp2
  go_ret2
  exact ⟨rfl, Below.refl _ _⟩

set_option maxHeartbeats 400000 in
theorem refFirst_zero (a : Option Addr) (cap : Nat) (w : World) :
    Calls Tryd.prog 12 #[.slice a 0 cap] w fun e w' => e = .returned (.tuple #[.int .i32 0, .int .i64 0]) ∧ Below w.heap.size w w' := by
  go_enter Tryd.func12, Tryd.ntmps12
  go_wp2
  go_ret2
  exact ⟨rfl, Below.refl _ _⟩

theorem bys_of_wf {l : List Int} (h : ∀ z ∈ l, (Lit.int .u8 z).wf = true) : Bys l := fun z hz => by
  have := h z hz
  simp [Lit.wf, IntKind.min, IntKind.max, IntKind.signed, IntKind.bits] at this
  omega

theorem below_tabs {w w' : World} (h : Tabs w) (hb : Below w.heap.size w w') : Tabs w' := by
  obtain ⟨h1, h2⟩ := h
  refine ⟨fun c hc => ?_, fun i hi => ?_⟩
  · rw [hb.cell (cell_lt (h1 c hc))]; exact h1 c hc
  · obtain ⟨p, q⟩ := h2 i hi
    exact ⟨by rw [hb.cell (cell_lt p)]; exact p, by rw [hb.cell (cell_lt q)]; exact q⟩

set_option maxHeartbeats 1000000 in
theorem scanFirst_both (a : Option Addr) (n cap : Nat) (zs : List Int) (w : World) (hT : Tabs w) (hn : zs.length = n) (hc : n ≤ cap) (hm : cap ≤ maxLen) (hb : Bys zs) (hat : AtCells w a (zs.map (.int .u8))) :
    ∃ x q : Int, Calls Tryd.prog 11 #[.slice a n cap] w (fun e w' => e = .returned (.tuple #[.int .i32 x, .int .i64 q]) ∧ Below w.heap.size w w') ∧
      ∀ w', Below w.heap.size w w' → Calls Tryd.prog 12 #[.slice a n cap] w' fun e w2 => e = .returned (.tuple #[.int .i32 x, .int .i64 q]) ∧ Below w'.heap.size w' w2 := by
  by_cases h0 : 0 < n
  · obtain ⟨b, off, rfl, _⟩ := hat.int (k := 0) (by omega)
    have hp := first_piece hb (by omega : 0 < zs.length) rfl
    exact ⟨_, _, first_any b off n cap zs _ _ w hT hn h0 hc hm hb hat hp, fun w' hw => refFirst_any b off n cap zs _ _ w' hn h0 hc hm hb (hat.below hw) hp⟩
  · obtain rfl : n = 0 := by omega
    exact ⟨0, 0, first_zero a cap w, fun w' _ => refFirst_zero a cap w'⟩

set_option maxHeartbeats 1000000 in
theorem scanFirst_walk (a : Option Addr) (n cap : Nat) (zs : List Int) (w : World) (hT : Tabs w) (hn : zs.length = n) (hc : n ≤ cap) (hm : cap ≤ maxLen) (hb : Bys zs) (hat : AtCells w a (zs.map (.int .u8))) :
    Calls Tryd.prog 4 #[.slice a n cap] w fun e w' => e = .returned (.bool true) ∧ Below w.heap.size w w' := by
  obtain ⟨m, hmm⟩ : ∃ m, m = min n 200 := ⟨_, rfl⟩
  have hat' := hat.take m
  rw [← List.map_take] at hat'
  have HF := Lib.hid (short_any a n cap w hc hm)
  rw [← hmm] at HF
  obtain ⟨x, q, hA, hB⟩ := scanFirst_both a m cap (zs.take m) w hT (by rw [List.length_take]; omega) (by omega) hm (hb.take m) hat'
  have HA := Lib.hid hA
  have HB := Lib.hid hB
  clear hA hB hat hat' hb hm hc hn hmm hT
  go_enter Tryd.func4, Tryd.ntmps4
  go_wp2_with (first
    | (go_at_call 6; refine HF.out.mono ?_; rintro e w' ⟨rfl, rfl⟩)
    | (go_at_call 11; refine HA.out.mono ?_; rintro e w1 ⟨rfl, hb1⟩)
    | (go_at_call 12; refine (HB.out _ hb1).mono ?_; rintro e w2 ⟨rfl, hb2⟩; have HBB := Lib.hid (hb1.trans (hb2.mono hb1.size)))
    | (go_at_call 10; refine (awake_any _).mono ?_; rintro e w3 ⟨rfl, hb3⟩))
  go_ret
  exact ⟨rfl, HBB.out.trans (hb3.mono HBB.out.size)⟩

end Go.Proofs.YthbaknillijeoaaDoor
