/-
  ScanItems: for every list of bytes it returns true.
-/
import Derived.Test.YthbaknillijeoaaDoorScanI
import Derived.Test.YthbaknillijeoaaDoorValC
namespace Go.Proofs.YthbaknillijeoaaDoor
open Go.RowKit

theorem bys_wf {l : List Int} (h : ∀ z ∈ l, (Lit.int .u8 z).wf = true) : Bys l := fun z hz => by
  have := h z hz
  simp [Lit.wf, IntKind.min, IntKind.max, IntKind.signed, IntKind.bits] at this
  omega

theorem scanItems_walk (a : Option Addr) (n cap : Nat) (zs : List Int) (w : World) (hT : Tabs w) (hn : zs.length = n) (hc : n ≤ cap) (hm : cap ≤ maxLen) (hb : Bys zs) (hat : AtCells w a (zs.map (.int .u8))) :
    Calls Tryd.prog 3 #[.slice a n cap] w fun e w' => e = .returned (.bool true) ∧ Below w.heap.size w w' :=
  scanItems_core a n cap zs w hn hc hm hb hat (fun m hmm w' hw => valid_any a m cap (zs.take m) w' (tabs_below hT hw) (by rw [List.length_take]; omega) (by omega) hm (hb.take m) (by rw [List.map_take]; exact (hat.below hw).take m))

end Go.Proofs.YthbaknillijeoaaDoor
