/-
  Contracts: few, short of the statements of layer 3.
-/
import Derived.Test.YtmibajofbagphaaDoorScanA
namespace Go.Proofs.YtmibajofbagphaaDoor
open Go.RowKit

set_option maxHeartbeats 400000 in
theorem few_any (a : Option Addr) (n cap : Nat) (w : World) (hc : n ≤ cap) (hm : cap ≤ maxLen) :
    Calls Tryd.prog 17 #[.slice a n cap] w fun e w' => e = .returned (.slice a (min n 60) cap) ∧ w = w' := by
  unfold maxLen at hm
  by_cases h : 60 < n
  · have HM := Lib.hid (show min n 60 = 60 by omega)
    go_enter Tryd.func17, Tryd.ntmps17
    go_wp2
    go_ret
    rw [HM.out]
    exact ⟨rfl, rfl⟩
  · have HM := Lib.hid (show min n 60 = n by omega)
    go_enter Tryd.func17, Tryd.ntmps17
    go_wp2
    go_ret
    rw [HM.out]
    exact ⟨rfl, rfl⟩

set_option maxHeartbeats 400000 in
theorem short_any (a : Option Addr) (n cap : Nat) (w : World) (hc : n ≤ cap) (hm : cap ≤ maxLen) :
    Calls Tryd.prog 11 #[.slice a n cap] w fun e w' => e = .returned (.slice a (min n 200) cap) ∧ w = w' := by
  unfold maxLen at hm
  by_cases h : 200 < n
  · have HM := Lib.hid (show min n 200 = 200 by omega)
    go_enter Tryd.func11, Tryd.ntmps11
    go_wp2
    go_ret
    rw [HM.out]
    exact ⟨rfl, rfl⟩
  · have HM := Lib.hid (show min n 200 = n by omega)
    go_enter Tryd.func11, Tryd.ntmps11
    go_wp2
    go_ret
    rw [HM.out]
    exact ⟨rfl, rfl⟩

end Go.Proofs.YtmibajofbagphaaDoor
