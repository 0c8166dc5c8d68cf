/-
  What a call answers that answers the reference's pieces.
-/
import Derived.Test.YtlkcnfkfccfhmaaDoorScanB
namespace Go.Proofs.YtlkcnfkfccfhmaaDoor
open Go.RowKit

theorem Tryd.infoRefItem : (Tryd.prog.info? 46).map (fun i => (i.zero, i.size, i.bytes)) = some (some (.agg #[.int .i32 0, .int .i64 0, .int .i64 0]), 3, 24) := by kernel_rfl

def OwnRefItems (w : World) (l : List (Int × Int × Int)) (e : Ending) (w' : World) : Prop :=
  ∃ v, e = .returned v ∧ w'.ownsRow w.heap.size 46 3 v l.length (itemsCells l) ∧ Below w.heap.size w w'

end Go.Proofs.YtlkcnfkfccfhmaaDoor
