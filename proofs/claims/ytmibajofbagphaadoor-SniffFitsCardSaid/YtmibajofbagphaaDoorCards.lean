/-
  DERIVED. GIVEN WITH THE SEED: THE CARDS: each row of YtmibajofbagphaaDoorRows.lean that lists a variable, with what it lists TIED to the program's text (the seventh form; the later family's looks); each row that meets fmt, with fmt's text TOLD by the authors' own Lean function (tested against real Go, not proved from fmt's source: count such statements apart). THE CARD IS WHAT COUNTS. Prove the row's statement (the work); the ties are given (YtmibajofbagphaaDoorTie.lean); close each card by the builder's one call (the guide's Derived/Test/ToyasCard.lean, 'card_holds'). Laid BY PROGRAM, IN A SANDBOX (cutbox-door.mjs). By AI agents, Wed Nov 11 2026. No macro, syntax, notation, axiom, sorry.
-/
import Derived.Test.YtmibajofbagphaaDoorRows
import GoSem.ClaimSeven
namespace Go.Proofs.YtmibajofbagphaaDoor
namespace Rows

/-- THE TIED CARD OF 'rubriclaw03.SniffDecodes'. -/
def sniffDecodesCard : Claim7 := { stood := { row := sniffDecodesRow, standIns := [], harness := (true, "9c2265cb4687c4a5f7923a09712f8a80bdb78bb49c4d2939f82bcd73a30c59d6"), looks := false }, kinds := [], alts := [], laidByText := true, laidKinds := [.data], laidTests := true, laidLooks := .later }
def SniffDecodesCardSaid : Prop := Claim7.holds Tryd.pinned (.plain (OpenSpec.ofChange sniffDecodesSpec)) sniffDecodesCard

/-- THE TIED CARD OF 'rubriclaw03.SniffEncodes'. -/
def sniffEncodesCard : Claim7 := { stood := { row := sniffEncodesRow, standIns := [], harness := (true, "9c2265cb4687c4a5f7923a09712f8a80bdb78bb49c4d2939f82bcd73a30c59d6"), looks := false }, kinds := [], alts := [], laidByText := true, laidKinds := [.data], laidTests := true, laidLooks := .later }
def SniffEncodesCardSaid : Prop := Claim7.holds Tryd.pinned (.plain (OpenSpec.ofChange sniffEncodesSpec)) sniffEncodesCard

/-- THE TIED CARD OF 'rubriclaw03.SniffFits'. -/
def sniffFitsCard : Claim7 := { stood := { row := sniffFitsRow, standIns := [], harness := (true, "9c2265cb4687c4a5f7923a09712f8a80bdb78bb49c4d2939f82bcd73a30c59d6"), looks := false }, kinds := [], alts := [], laidByText := true, laidKinds := [.data, .data, .data, .data, .pinned, .pinned], laidTests := true, laidLooks := .later }
def SniffFitsCardSaid : Prop := Claim7.holds Tryd.pinned (.plain (OpenSpec.ofChange sniffFitsSpec)) sniffFitsCard

/-- THE TIED CARD OF 'rubriclaw03.SniffSlices'. -/
def sniffSlicesCard : Claim7 := { stood := { row := sniffSlicesRow, standIns := [], harness := (true, "9c2265cb4687c4a5f7923a09712f8a80bdb78bb49c4d2939f82bcd73a30c59d6"), looks := false }, kinds := [], alts := [], laidByText := true, laidKinds := [.data], laidTests := true, laidLooks := .later }
def SniffSlicesCardSaid : Prop := Claim7.holds Tryd.pinned (.plain (OpenSpec.ofChange sniffSlicesSpec)) sniffSlicesCard

/-- THE TIED CARD OF 'rubriclaw03.SniffWhole'. -/
def sniffWholeCard : Claim7 := { stood := { row := sniffWholeRow, standIns := [], harness := (true, "9c2265cb4687c4a5f7923a09712f8a80bdb78bb49c4d2939f82bcd73a30c59d6"), looks := false }, kinds := [], alts := [], laidByText := true, laidKinds := [.data], laidTests := true, laidLooks := .later }
def SniffWholeCardSaid : Prop := Claim7.holds Tryd.pinned (.plain (OpenSpec.ofChange sniffWholeSpec)) sniffWholeCard

/-- THE TIED CARD OF 'rubriclaw03.SniffBack'. -/
def sniffBackCard : Claim7 := { stood := { row := sniffBackRow, standIns := [], harness := (true, "9c2265cb4687c4a5f7923a09712f8a80bdb78bb49c4d2939f82bcd73a30c59d6"), looks := false }, kinds := [], alts := [], laidByText := true, laidKinds := [.data], laidTests := true, laidLooks := .later }
def SniffBackCardSaid : Prop := Claim7.holds Tryd.pinned (.plain (OpenSpec.ofChange sniffBackSpec)) sniffBackCard

/-- THE TIED CARD OF 'rubriclaw03.SniffPieces'. -/
def sniffPiecesCard : Claim7 := { stood := { row := sniffPiecesRow, standIns := [], harness := (true, "9c2265cb4687c4a5f7923a09712f8a80bdb78bb49c4d2939f82bcd73a30c59d6"), looks := false }, kinds := [], alts := [], laidByText := true, laidKinds := [.data], laidTests := true, laidLooks := .later }
def SniffPiecesCardSaid : Prop := Claim7.holds Tryd.pinned (.plain (OpenSpec.ofChange sniffPiecesSpec)) sniffPiecesCard

/-- THE TIED CARD OF 'rubriclaw03.SniffOffsets'. -/
def sniffOffsetsCard : Claim7 := { stood := { row := sniffOffsetsRow, standIns := [], harness := (true, "9c2265cb4687c4a5f7923a09712f8a80bdb78bb49c4d2939f82bcd73a30c59d6"), looks := false }, kinds := [], alts := [], laidByText := true, laidKinds := [.data], laidTests := true, laidLooks := .later }
def SniffOffsetsCardSaid : Prop := Claim7.holds Tryd.pinned (.plain (OpenSpec.ofChange sniffOffsetsSpec)) sniffOffsetsCard

/-- THE SECOND FORM's CARD OF 'rubriclaw03.SniffDecodes'. -/
def sniffDecodesUptoCard : Claim7 := { stood := { row := sniffDecodesUptoRow, standIns := [], harness := (true, "9c2265cb4687c4a5f7923a09712f8a80bdb78bb49c4d2939f82bcd73a30c59d6"), looks := false }, kinds := [], alts := [], laidByText := true, laidKinds := [.data], laidTests := true, laidLooks := .later }
def SniffDecodesUptoCardSaid : Prop := Claim7.holds Tryd.pinned (.plain (OpenSpec.upto sniffDecodesSpec)) sniffDecodesUptoCard

/-- THE SECOND FORM's CARD OF 'rubriclaw03.SniffEncodes'. -/
def sniffEncodesUptoCard : Claim7 := { stood := { row := sniffEncodesUptoRow, standIns := [], harness := (true, "9c2265cb4687c4a5f7923a09712f8a80bdb78bb49c4d2939f82bcd73a30c59d6"), looks := false }, kinds := [], alts := [], laidByText := true, laidKinds := [.data], laidTests := true, laidLooks := .later }
def SniffEncodesUptoCardSaid : Prop := Claim7.holds Tryd.pinned (.plain (OpenSpec.upto sniffEncodesSpec)) sniffEncodesUptoCard

/-- THE SECOND FORM's CARD OF 'rubriclaw03.SniffFits'. -/
def sniffFitsUptoCard : Claim7 := { stood := { row := sniffFitsUptoRow, standIns := [], harness := (true, "9c2265cb4687c4a5f7923a09712f8a80bdb78bb49c4d2939f82bcd73a30c59d6"), looks := false }, kinds := [], alts := [], laidByText := true, laidKinds := [.data, .data, .data, .data, .pinned, .pinned], laidTests := true, laidLooks := .later }
def SniffFitsUptoCardSaid : Prop := Claim7.holds Tryd.pinned (.plain (OpenSpec.upto sniffFitsSpec)) sniffFitsUptoCard

/-- THE SECOND FORM's CARD OF 'rubriclaw03.SniffSlices'. -/
def sniffSlicesUptoCard : Claim7 := { stood := { row := sniffSlicesUptoRow, standIns := [], harness := (true, "9c2265cb4687c4a5f7923a09712f8a80bdb78bb49c4d2939f82bcd73a30c59d6"), looks := false }, kinds := [], alts := [], laidByText := true, laidKinds := [.data], laidTests := true, laidLooks := .later }
def SniffSlicesUptoCardSaid : Prop := Claim7.holds Tryd.pinned (.plain (OpenSpec.upto sniffSlicesSpec)) sniffSlicesUptoCard

/-- THE SECOND FORM's CARD OF 'rubriclaw03.SniffWhole'. -/
def sniffWholeUptoCard : Claim7 := { stood := { row := sniffWholeUptoRow, standIns := [], harness := (true, "9c2265cb4687c4a5f7923a09712f8a80bdb78bb49c4d2939f82bcd73a30c59d6"), looks := false }, kinds := [], alts := [], laidByText := true, laidKinds := [.data], laidTests := true, laidLooks := .later }
def SniffWholeUptoCardSaid : Prop := Claim7.holds Tryd.pinned (.plain (OpenSpec.upto sniffWholeSpec)) sniffWholeUptoCard

/-- THE SECOND FORM's CARD OF 'rubriclaw03.SniffBack'. -/
def sniffBackUptoCard : Claim7 := { stood := { row := sniffBackUptoRow, standIns := [], harness := (true, "9c2265cb4687c4a5f7923a09712f8a80bdb78bb49c4d2939f82bcd73a30c59d6"), looks := false }, kinds := [], alts := [], laidByText := true, laidKinds := [.data], laidTests := true, laidLooks := .later }
def SniffBackUptoCardSaid : Prop := Claim7.holds Tryd.pinned (.plain (OpenSpec.upto sniffBackSpec)) sniffBackUptoCard

/-- THE SECOND FORM's CARD OF 'rubriclaw03.SniffPieces'. -/
def sniffPiecesUptoCard : Claim7 := { stood := { row := sniffPiecesUptoRow, standIns := [], harness := (true, "9c2265cb4687c4a5f7923a09712f8a80bdb78bb49c4d2939f82bcd73a30c59d6"), looks := false }, kinds := [], alts := [], laidByText := true, laidKinds := [.data], laidTests := true, laidLooks := .later }
def SniffPiecesUptoCardSaid : Prop := Claim7.holds Tryd.pinned (.plain (OpenSpec.upto sniffPiecesSpec)) sniffPiecesUptoCard

/-- THE SECOND FORM's CARD OF 'rubriclaw03.SniffOffsets'. -/
def sniffOffsetsUptoCard : Claim7 := { stood := { row := sniffOffsetsUptoRow, standIns := [], harness := (true, "9c2265cb4687c4a5f7923a09712f8a80bdb78bb49c4d2939f82bcd73a30c59d6"), looks := false }, kinds := [], alts := [], laidByText := true, laidKinds := [.data], laidTests := true, laidLooks := .later }
def SniffOffsetsUptoCardSaid : Prop := Claim7.holds Tryd.pinned (.plain (OpenSpec.upto sniffOffsetsSpec)) sniffOffsetsUptoCard
end Rows
end Go.Proofs.YtmibajofbagphaaDoor
