/-
  DERIVED. GIVEN WITH THE SEED: THE CARDS: each row of YtlkcnfkfccfhmaaDoorRows.lean that lists a variable, with what it lists TIED to the program's text (the seventh form; the later family's looks); each row that meets fmt, with fmt's text TOLD by the authors' own Lean function (tested against real Go, not proved from fmt's source: count such statements apart). THE CARD IS WHAT COUNTS. Prove the row's statement (the work); the ties are given (YtlkcnfkfccfhmaaDoorTie.lean); close each card by the builder's one call (the guide's Derived/Test/ToyasCard.lean, 'card_holds'). Laid BY PROGRAM, IN A SANDBOX (cutbox-door.mjs). By AI agents, Wed Nov 11 2026. No macro, syntax, notation, axiom, sorry.
-/
import Derived.Test.YtlkcnfkfccfhmaaDoorRows
import GoSem.ClaimSeven
namespace Go.Proofs.YtlkcnfkfccfhmaaDoor
namespace Rows

/-- THE TIED CARD OF 'rubriclaw05.NameIs'. -/
def nameIsCard : Claim7 := { stood := { row := nameIsRow, standIns := [], harness := (true, "485be81f853d35f5b1c6322f08b2654487337fa32c1ec94bfabb1ddd9dc9d79c"), looks := false }, kinds := [], alts := [], laidByText := true, laidKinds := [.data, .pinned], laidTests := true, laidLooks := .later }
def NameIsCardSaid : Prop := Claim7.holds Tryd.pinned (.plain (OpenSpec.ofChange nameIsSpec)) nameIsCard

/-- THE TIED CARD OF 'rubriclaw05.NameSplit'. -/
def nameSplitCard : Claim7 := { stood := { row := nameSplitRow, standIns := [], harness := (true, "485be81f853d35f5b1c6322f08b2654487337fa32c1ec94bfabb1ddd9dc9d79c"), looks := false }, kinds := [], alts := [], laidByText := true, laidKinds := [.data, .pinned], laidTests := true, laidLooks := .later }
def NameSplitCardSaid : Prop := Claim7.holds Tryd.pinned (.plain (OpenSpec.ofChange nameSplitSpec)) nameSplitCard

/-- THE TIED CARD OF 'rubriclaw05.NameJoin'. -/
def nameJoinCard : Claim7 := { stood := { row := nameJoinRow, standIns := [], harness := (true, "485be81f853d35f5b1c6322f08b2654487337fa32c1ec94bfabb1ddd9dc9d79c"), looks := false }, kinds := [], alts := [], laidByText := true, laidKinds := [.data, .pinned], laidTests := true, laidLooks := .later }
def NameJoinCardSaid : Prop := Claim7.holds Tryd.pinned (.plain (OpenSpec.ofChange nameJoinSpec)) nameJoinCard

/-- THE TIED CARD OF 'rubriclaw05.NameLead'. -/
def nameLeadCard : Claim7 := { stood := { row := nameLeadRow, standIns := [], harness := (true, "485be81f853d35f5b1c6322f08b2654487337fa32c1ec94bfabb1ddd9dc9d79c"), looks := false }, kinds := [], alts := [], laidByText := true, laidKinds := [.data, .pinned], laidTests := true, laidLooks := .later }
def NameLeadCardSaid : Prop := Claim7.holds Tryd.pinned (.plain (OpenSpec.ofChange nameLeadSpec)) nameLeadCard

/-- THE TIED CARD OF 'rubriclaw05.NameWords'. -/
def nameWordsCard : Claim7 := { stood := { row := nameWordsRow, standIns := [], harness := (true, "485be81f853d35f5b1c6322f08b2654487337fa32c1ec94bfabb1ddd9dc9d79c"), looks := false }, kinds := [], alts := [], laidByText := true, laidKinds := [.data, .pinned], laidTests := true, laidLooks := .later }
def NameWordsCardSaid : Prop := Claim7.holds Tryd.pinned (.plain (OpenSpec.ofChange nameWordsSpec)) nameWordsCard

/-- THE TIED CARD OF 'rubriclaw05.NameWithin'. -/
def nameWithinCard : Claim7 := { stood := { row := nameWithinRow, standIns := [], harness := (true, "485be81f853d35f5b1c6322f08b2654487337fa32c1ec94bfabb1ddd9dc9d79c"), looks := false }, kinds := [], alts := [], laidByText := true, laidKinds := [.data, .pinned], laidTests := true, laidLooks := .later }
def NameWithinCardSaid : Prop := Claim7.holds Tryd.pinned (.plain (OpenSpec.ofChange nameWithinSpec)) nameWithinCard

/-- THE SECOND FORM's CARD OF 'rubriclaw05.NameIs'. -/
def nameIsUptoCard : Claim7 := { stood := { row := nameIsUptoRow, standIns := [], harness := (true, "485be81f853d35f5b1c6322f08b2654487337fa32c1ec94bfabb1ddd9dc9d79c"), looks := false }, kinds := [], alts := [], laidByText := true, laidKinds := [.data, .pinned], laidTests := true, laidLooks := .later }
def NameIsUptoCardSaid : Prop := Claim7.holds Tryd.pinned (.plain (OpenSpec.upto nameIsSpec)) nameIsUptoCard

/-- THE SECOND FORM's CARD OF 'rubriclaw05.NameSplit'. -/
def nameSplitUptoCard : Claim7 := { stood := { row := nameSplitUptoRow, standIns := [], harness := (true, "485be81f853d35f5b1c6322f08b2654487337fa32c1ec94bfabb1ddd9dc9d79c"), looks := false }, kinds := [], alts := [], laidByText := true, laidKinds := [.data, .pinned], laidTests := true, laidLooks := .later }
def NameSplitUptoCardSaid : Prop := Claim7.holds Tryd.pinned (.plain (OpenSpec.upto nameSplitSpec)) nameSplitUptoCard

/-- THE SECOND FORM's CARD OF 'rubriclaw05.NameJoin'. -/
def nameJoinUptoCard : Claim7 := { stood := { row := nameJoinUptoRow, standIns := [], harness := (true, "485be81f853d35f5b1c6322f08b2654487337fa32c1ec94bfabb1ddd9dc9d79c"), looks := false }, kinds := [], alts := [], laidByText := true, laidKinds := [.data, .pinned], laidTests := true, laidLooks := .later }
def NameJoinUptoCardSaid : Prop := Claim7.holds Tryd.pinned (.plain (OpenSpec.upto nameJoinSpec)) nameJoinUptoCard

/-- THE SECOND FORM's CARD OF 'rubriclaw05.NameLead'. -/
def nameLeadUptoCard : Claim7 := { stood := { row := nameLeadUptoRow, standIns := [], harness := (true, "485be81f853d35f5b1c6322f08b2654487337fa32c1ec94bfabb1ddd9dc9d79c"), looks := false }, kinds := [], alts := [], laidByText := true, laidKinds := [.data, .pinned], laidTests := true, laidLooks := .later }
def NameLeadUptoCardSaid : Prop := Claim7.holds Tryd.pinned (.plain (OpenSpec.upto nameLeadSpec)) nameLeadUptoCard

/-- THE SECOND FORM's CARD OF 'rubriclaw05.NameWords'. -/
def nameWordsUptoCard : Claim7 := { stood := { row := nameWordsUptoRow, standIns := [], harness := (true, "485be81f853d35f5b1c6322f08b2654487337fa32c1ec94bfabb1ddd9dc9d79c"), looks := false }, kinds := [], alts := [], laidByText := true, laidKinds := [.data, .pinned], laidTests := true, laidLooks := .later }
def NameWordsUptoCardSaid : Prop := Claim7.holds Tryd.pinned (.plain (OpenSpec.upto nameWordsSpec)) nameWordsUptoCard

/-- THE SECOND FORM's CARD OF 'rubriclaw05.NameWithin'. -/
def nameWithinUptoCard : Claim7 := { stood := { row := nameWithinUptoRow, standIns := [], harness := (true, "485be81f853d35f5b1c6322f08b2654487337fa32c1ec94bfabb1ddd9dc9d79c"), looks := false }, kinds := [], alts := [], laidByText := true, laidKinds := [.data, .pinned], laidTests := true, laidLooks := .later }
def NameWithinUptoCardSaid : Prop := Claim7.holds Tryd.pinned (.plain (OpenSpec.upto nameWithinSpec)) nameWithinUptoCard
end Rows
end Go.Proofs.YtlkcnfkfccfhmaaDoor
