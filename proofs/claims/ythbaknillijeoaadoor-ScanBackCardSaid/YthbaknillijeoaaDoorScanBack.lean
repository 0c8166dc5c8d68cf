/-
  ScanBack: for every list of runes and every list of bytes it returns true.
-/
import Derived.Test.YthbaknillijeoaaDoorScanK
import Derived.Test.YthbaknillijeoaaDoorValC
namespace Go.Proofs.YthbaknillijeoaaDoor
open Go.RowKit

theorem bys_wfB {l : List Int} (h : ∀ z ∈ l, (Lit.int .u8 z).wf = true) : Bys l := fun z hz => by
  have := h z hz
  simp [Lit.wf, IntKind.min, IntKind.max, IntKind.signed, IntKind.bits] at this
  omega
theorem runes_wfB {l : List Int} (h : ∀ z ∈ l, (Lit.int .i32 z).wf = true) : Runes l := fun z hz => by
  have := h z hz
  simp [Lit.wf, IntKind.min, IntKind.max, IntKind.signed, IntKind.bits] at this
  omega

theorem scanBack_walk (a : Option Addr) (n cap : Nat) (zs : List Int) (a' : Option Addr) (n' cap' : Nat) (ys : List Int) (w : World) (hT : Tabs w)
    (hn : zs.length = n) (hc : n ≤ cap) (hm : cap ≤ maxLen) (hz : Runes zs) (hat : AtCells w a (zs.map (.int .i32)))
    (hn' : ys.length = n') (hc' : n' ≤ cap') (hm' : cap' ≤ maxLen) (hb : Bys ys) (hat' : AtCells w a' (ys.map (.int .u8))) :
    Calls Tryd.prog 5 #[.slice a n cap, .slice a' n' cap'] w fun e w' => e = .returned (.bool true) ∧ Below w.heap.size w w' :=
  scanBack_core a n cap zs a' n' cap' ys w hn hc hm hz hat hn' hc' hm' hb hat' (fun m hmm w' hw => valid_any a' m cap' (ys.take m) w' (tabs_below hT hw) (by rw [List.length_take]; omega) (by omega) hm' (hb.take m) (by rw [List.map_take]; exact (hat'.below hw).take m))

end Go.Proofs.YthbaknillijeoaaDoor
