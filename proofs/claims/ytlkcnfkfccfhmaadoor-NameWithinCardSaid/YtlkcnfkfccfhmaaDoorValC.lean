/-
  Contract: Valid of layer 1, at any bytes.
-/
import Derived.Test.YtlkcnfkfccfhmaaDoorValB
import Derived.Test.YtlkcnfkfccfhmaaDoorScanH
namespace Go.Proofs.YtlkcnfkfccfhmaaDoor
open Go.RowKit

set_option maxHeartbeats 4000000 in
set_option maxRecDepth 100000 in
theorem valid_zero (a : Option Addr) (cap : Nat) (w : World) :
    Calls Tryd.prog 44 #[.slice a 0 cap] w fun e w' => e = .returned (.bool true) ∧ Below w.heap.size w w' := by
  go_enter Tryd.func44, Tryd.ntmps44
  go_wp2
  go_loopw [0] (fun v wx => wx = w ∧ ∃ a, v = .slice a 0 0) (fun v _ => lenOf v)
  case atStart => exact ⟨rfl, _, rfl⟩
  case round =>
    obtain ⟨rfl, a, rfl⟩ := hrel
    go_wp2
    go_ret
    exact ⟨rfl, Below.refl _ _⟩

theorem lies_of_cells {w : World} {b off : Nat} {zs : List Int} (hb : Bys zs) (hat : AtCells w (some ⟨b, off, none⟩) (zs.map (.int .u8))) : Lies w b off (strOfNums zs) := fun j hj => by
  have hs : (strOfNums zs).size = zs.length := strOfNums_size zs
  obtain ⟨_, _, he, hc⟩ := hat.int (k := j) (by omega)
  simp only [Option.some.injEq, Addr.mk.injEq] at he
  obtain ⟨rfl, rfl, _⟩ := he
  rw [hc]
  have := U8.at_get (strOfNums zs) 0 j (by omega)
  rw [List.drop_zero, nums_str hb] at this
  rw [getD_of_some this, Nat.zero_add]

theorem libValid_any (a : Option Addr) (n cap : Nat) (zs : List Int) (w : World) (hT : Tabs w) (hn : zs.length = n) (hc : n ≤ cap) (hm : cap ≤ maxLen) (hb : Bys zs) (hat : AtCells w a (zs.map (.int .u8))) :
    Calls Tryd.prog 44 #[.slice a n cap] w fun e w' => e = .returned (.bool (Lib.validD (strOfNums zs).data.toList)) ∧ Below w.heap.size w w' := by
  by_cases h0 : 0 < n
  · obtain ⟨b, off, rfl, _⟩ := hat.int (k := 0) (by omega)
    exact valid_some b off n cap (strOfNums zs) w hT (by rw [strOfNums_size, hn]) h0 hc hm (lies_of_cells hb hat)
  · obtain rfl : n = 0 := by omega
    have hz : zs = [] := List.eq_nil_of_length_eq_zero hn
    subst hz
    exact valid_zero a cap w

set_option maxHeartbeats 400000 in
theorem valid_any (a : Option Addr) (n cap : Nat) (zs : List Int) (w : World) (hT : Tabs w) (hn : zs.length = n) (hc : n ≤ cap) (hm : cap ≤ maxLen) (hb : Bys zs) (hat : AtCells w a (zs.map (.int .u8))) :
    Calls Tryd.prog 37 #[.slice a n cap] w fun e w' => e = .returned (.bool ((itemsOf (strOfNums zs)).all isGood)) ∧ Below w.heap.size w w' := by
  have H := Lib.hid (libValid_any a n cap zs w hT hn hc hm hb hat)
  rw [← valid_items] at H
  generalize (itemsOf (strOfNums zs)).all isGood = V at H ⊢
  clear hT hn hc hm hb hat
  go_enter Tryd.func37, Tryd.ntmps37
  go_wp2_with (go_at_call 44; refine H.out.mono ?_; rintro e w' ⟨rfl, hb⟩)
  go_ret
  exact ⟨rfl, hb⟩

end Go.Proofs.YtlkcnfkfccfhmaaDoor
