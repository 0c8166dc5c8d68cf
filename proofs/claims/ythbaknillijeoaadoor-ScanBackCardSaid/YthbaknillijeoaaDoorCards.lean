/-
  DERIVED. GIVEN WITH THE SEED: THE CARDS: each row of YthbaknillijeoaaDoorRows.lean that lists a variable, with what it lists TIED to the program's text (the seventh form; the later family's looks); each row that meets fmt, with fmt's text TOLD by the authors' own Lean function (tested against real Go, not proved from fmt's source: count such statements apart). THE CARD IS WHAT COUNTS. Prove the row's statement (the work); the ties are given (YthbaknillijeoaaDoorTie.lean); close each card by the builder's one call (the guide's Derived/Test/ToyasCard.lean, 'card_holds'). Laid BY PROGRAM, IN A SANDBOX (cutbox-door.mjs). By AI agents, Wed Nov 11 2026. No macro, syntax, notation, axiom, sorry.
-/
import Derived.Test.YthbaknillijeoaaDoorRows
import GoSem.ClaimSeven
namespace Go.Proofs.YthbaknillijeoaaDoor
namespace Rows

/-- THE TIED CARD OF 'rubriclaw01.ScanItems'. -/
def scanItemsCard : Claim7 := { stood := { row := scanItemsRow, standIns := [], harness := (true, "299f1aa02cfced4eebf76078d9cd3a28c1700d711fddccecafc2224e5515cf06"), looks := false }, kinds := [], alts := [], laidByText := true, laidKinds := [.data, .pinned], laidTests := true, laidLooks := .later }
def ScanItemsCardSaid : Prop := Claim7.holds Tryd.pinned (.plain (OpenSpec.ofChange scanItemsSpec)) scanItemsCard

/-- THE TIED CARD OF 'rubriclaw01.ScanFirst'. -/
def scanFirstCard : Claim7 := { stood := { row := scanFirstRow, standIns := [], harness := (true, "299f1aa02cfced4eebf76078d9cd3a28c1700d711fddccecafc2224e5515cf06"), looks := false }, kinds := [], alts := [], laidByText := true, laidKinds := [.data, .pinned], laidTests := true, laidLooks := .later }
def ScanFirstCardSaid : Prop := Claim7.holds Tryd.pinned (.plain (OpenSpec.ofChange scanFirstSpec)) scanFirstCard

/-- THE TIED CARD OF 'rubriclaw01.ScanBack'. -/
def scanBackCard : Claim7 := { stood := { row := scanBackRow, standIns := [], harness := (true, "299f1aa02cfced4eebf76078d9cd3a28c1700d711fddccecafc2224e5515cf06"), looks := false }, kinds := [], alts := [], laidByText := true, laidKinds := [.data, .pinned], laidTests := true, laidLooks := .later }
def ScanBackCardSaid : Prop := Claim7.holds Tryd.pinned (.plain (OpenSpec.ofChange scanBackSpec)) scanBackCard

/-- THE SECOND FORM's CARD OF 'rubriclaw01.ScanItems'. -/
def scanItemsUptoCard : Claim7 := { stood := { row := scanItemsUptoRow, standIns := [], harness := (true, "299f1aa02cfced4eebf76078d9cd3a28c1700d711fddccecafc2224e5515cf06"), looks := false }, kinds := [], alts := [], laidByText := true, laidKinds := [.data, .pinned], laidTests := true, laidLooks := .later }
def ScanItemsUptoCardSaid : Prop := Claim7.holds Tryd.pinned (.plain (OpenSpec.upto scanItemsSpec)) scanItemsUptoCard

/-- THE SECOND FORM's CARD OF 'rubriclaw01.ScanFirst'. -/
def scanFirstUptoCard : Claim7 := { stood := { row := scanFirstUptoRow, standIns := [], harness := (true, "299f1aa02cfced4eebf76078d9cd3a28c1700d711fddccecafc2224e5515cf06"), looks := false }, kinds := [], alts := [], laidByText := true, laidKinds := [.data, .pinned], laidTests := true, laidLooks := .later }
def ScanFirstUptoCardSaid : Prop := Claim7.holds Tryd.pinned (.plain (OpenSpec.upto scanFirstSpec)) scanFirstUptoCard

/-- THE SECOND FORM's CARD OF 'rubriclaw01.ScanBack'. -/
def scanBackUptoCard : Claim7 := { stood := { row := scanBackUptoRow, standIns := [], harness := (true, "299f1aa02cfced4eebf76078d9cd3a28c1700d711fddccecafc2224e5515cf06"), looks := false }, kinds := [], alts := [], laidByText := true, laidKinds := [.data, .pinned], laidTests := true, laidLooks := .later }
def ScanBackUptoCardSaid : Prop := Claim7.holds Tryd.pinned (.plain (OpenSpec.upto scanBackSpec)) scanBackUptoCard
end Rows
end Go.Proofs.YthbaknillijeoaaDoor
