/-
  The library's two tables for UTF-8, as they were written.
-/
import Derived.Test.YtlkcnfkfccfhmaaDoorScanF
import Derived.Shelf.Unicode.DecodeSlow
namespace Go.Proofs.YtlkcnfkfccfhmaaDoor
open Go.RowKit

/-- The library's tables for UTF-8 are as they were written. -/
def Tabs (w : World) : Prop := Lib.Utf8Tabs 0 1 w

end Go.Proofs.YtlkcnfkfccfhmaaDoor
