/-
  No cell of these rows narrows 'for every input' (looked for: loops, veiled, ifaces, maps, wideKeys, modest, calm, conditions, laid).
  DERIVED. THE GIVEN ROWS OF THIS SEAT. 9 by the template 'for every input the law returns true; each argument reads behind the call as it read before'; 0 by the template 'total and deterministic' (their statements: YtblebkpnjeghoaaTotals.lean).
  GIVEN WITH THE SEED: the statements are not yours to turn. If you find one false, say at which input.
  Laid BY PROGRAM, IN A SANDBOX (cutbox-rows.mjs): the forced cells as the released guide's own fill.sh prints them over the translation 9ca42b00e0712355… (all of the seat's roots in one cut). By AI agents, Wed Nov 11 2026. No macro, syntax, notation, axiom, sorry.
-/
import Derived.Test.YtblebkpnjeghoaaChecked
import GoSem.Claim
import GoSem.ClaimJoined
import GoSem.ClaimMapViews
import Derived.JoinedTies
import Derived.KernelRfl
namespace Go.Proofs.Ytblebkpnjeghoaa
/- THE CELL 'sum', in the pinned program and in every row, IS THE sha256 OF THE DUMP (.gsa) THAT YtblebkpnjeghoaaProg.lean LOADS. Nothing in Lean hashes anything: it is a label: what it is worth is what the hold of that sum in a sandbox is worth. -/
noncomputable def Try.pinned : Pinned := { name := "ytblebkpnjeghoaa", sum := "9ca42b00e0712355e3722cf1eaae2a10ebb1b53c4e7e0e4b0b93d426dd1cdf06", checked := Try.checked }
namespace Rows
def none {H : Type} : Left H := { results := [], args := [] }

/-- 'rubriclaw09.DtdlexParts': WHATEVER THE INPUT: true; the input reads as it did. -/
def dtdlexPartsSpec : ChangeSpec := { name := "dtdlexParts", fn := fun _ => fun
  | [d1, d2, d3] => { results := [.lit (.bool true)], args := [d1, d2, d3] }
  | _ => none }
def dtdlexPartsRow : OpenClaim := { program := "ytblebkpnjeghoaa", sum := "9ca42b00e0712355e3722cf1eaae2a10ebb1b53c4e7e0e4b0b93d426dd1cdf06", func := "rubric/rubriclaw09.DtdlexParts", spec := "dtdlexParts", inPlace := ["internal/bytealg.IndexByteString", "internal/bytealg.IndexString"], unfollowed := true, recurses := true, named := ["internal/bytealg.MaxLen"], apart := false }
def DtdlexPartsSaid : Prop := dtdlexPartsRow.holds Try.pinned (OpenSpec.ofChange dtdlexPartsSpec)

/-- ITS FALSE NEIGHBOUR: 'it returns false'. Refute it at one input. -/
def dtdlexPartsWrong : ChangeSpec := { name := "dtdlexParts", fn := fun _ => fun
  | [d1, d2, d3] => { results := [.lit (.bool false)], args := [d1, d2, d3] }
  | _ => none }
def DtdlexPartsWrongFalsely : Prop := dtdlexPartsRow.holds Try.pinned (OpenSpec.ofChange dtdlexPartsWrong)

/-- 'rubriclaw09.DtdlexItems': WHATEVER THE INPUT: true; the input reads as it did. -/
def dtdlexItemsSpec : ChangeSpec := { name := "dtdlexItems", fn := fun _ => fun
  | [d1, d2, d3] => { results := [.lit (.bool true)], args := [d1, d2, d3] }
  | _ => none }
def dtdlexItemsRow : OpenClaim := { program := "ytblebkpnjeghoaa", sum := "9ca42b00e0712355e3722cf1eaae2a10ebb1b53c4e7e0e4b0b93d426dd1cdf06", func := "rubric/rubriclaw09.DtdlexItems", spec := "dtdlexItems", inPlace := ["internal/bytealg.IndexByteString", "internal/bytealg.IndexString"], unfollowed := true, recurses := true, named := ["internal/bytealg.MaxLen"], apart := false }
def DtdlexItemsSaid : Prop := dtdlexItemsRow.holds Try.pinned (OpenSpec.ofChange dtdlexItemsSpec)

/-- ITS FALSE NEIGHBOUR: 'it returns false'. Refute it at one input. -/
def dtdlexItemsWrong : ChangeSpec := { name := "dtdlexItems", fn := fun _ => fun
  | [d1, d2, d3] => { results := [.lit (.bool false)], args := [d1, d2, d3] }
  | _ => none }
def DtdlexItemsWrongFalsely : Prop := dtdlexItemsRow.holds Try.pinned (OpenSpec.ofChange dtdlexItemsWrong)

/-- 'rubriclaw09.DtdlexReads': WHATEVER THE INPUT: true; the input reads as it did. -/
def dtdlexReadsSpec : ChangeSpec := { name := "dtdlexReads", fn := fun _ => fun
  | [d1, d2, d3] => { results := [.lit (.bool true)], args := [d1, d2, d3] }
  | _ => none }
def dtdlexReadsRow : OpenClaim := { program := "ytblebkpnjeghoaa", sum := "9ca42b00e0712355e3722cf1eaae2a10ebb1b53c4e7e0e4b0b93d426dd1cdf06", func := "rubric/rubriclaw09.DtdlexReads", spec := "dtdlexReads", inPlace := ["internal/bytealg.IndexByteString", "internal/bytealg.IndexString"], unfollowed := true, recurses := true, named := ["internal/bytealg.MaxLen"], apart := false }
def DtdlexReadsSaid : Prop := dtdlexReadsRow.holds Try.pinned (OpenSpec.ofChange dtdlexReadsSpec)

/-- ITS FALSE NEIGHBOUR: 'it returns false'. Refute it at one input. -/
def dtdlexReadsWrong : ChangeSpec := { name := "dtdlexReads", fn := fun _ => fun
  | [d1, d2, d3] => { results := [.lit (.bool false)], args := [d1, d2, d3] }
  | _ => none }
def DtdlexReadsWrongFalsely : Prop := dtdlexReadsRow.holds Try.pinned (OpenSpec.ofChange dtdlexReadsWrong)

/-- 'rubriclaw09.DtdlexWhole': WHATEVER THE INPUT: true; the input reads as it did. -/
def dtdlexWholeSpec : ChangeSpec := { name := "dtdlexWhole", fn := fun _ => fun
  | [d] => { results := [.lit (.bool true)], args := [d] }
  | _ => none }
def dtdlexWholeRow : OpenClaim := { program := "ytblebkpnjeghoaa", sum := "9ca42b00e0712355e3722cf1eaae2a10ebb1b53c4e7e0e4b0b93d426dd1cdf06", func := "rubric/rubriclaw09.DtdlexWhole", spec := "dtdlexWhole", inPlace := ["internal/bytealg.IndexByteString", "internal/bytealg.IndexString"], unfollowed := true, recurses := true, named := ["internal/bytealg.MaxLen"], apart := false }
def DtdlexWholeSaid : Prop := dtdlexWholeRow.holds Try.pinned (OpenSpec.ofChange dtdlexWholeSpec)

/-- ITS FALSE NEIGHBOUR: 'it returns false'. Refute it at one input. -/
def dtdlexWholeWrong : ChangeSpec := { name := "dtdlexWhole", fn := fun _ => fun
  | [d] => { results := [.lit (.bool false)], args := [d] }
  | _ => none }
def DtdlexWholeWrongFalsely : Prop := dtdlexWholeRow.holds Try.pinned (OpenSpec.ofChange dtdlexWholeWrong)

/-- 'rubriclaw10.GreenPlays': WHATEVER THE INPUT: true; the input reads as it did. -/
def greenPlaysSpec : ChangeSpec := { name := "greenPlays", fn := fun _ => fun
  | [d] => { results := [.lit (.bool true)], args := [d] }
  | _ => none }
def greenPlaysRow : OpenClaim := { program := "ytblebkpnjeghoaa", sum := "9ca42b00e0712355e3722cf1eaae2a10ebb1b53c4e7e0e4b0b93d426dd1cdf06", func := "rubric/rubriclaw10.GreenPlays", spec := "greenPlays", unfollowed := true, recurses := true, apart := false }
def GreenPlaysSaid : Prop := greenPlaysRow.holds Try.pinned (OpenSpec.ofChange greenPlaysSpec)

/-- ITS FALSE NEIGHBOUR: 'it returns false'. Refute it at one input. -/
def greenPlaysWrong : ChangeSpec := { name := "greenPlays", fn := fun _ => fun
  | [d] => { results := [.lit (.bool false)], args := [d] }
  | _ => none }
def GreenPlaysWrongFalsely : Prop := greenPlaysRow.holds Try.pinned (OpenSpec.ofChange greenPlaysWrong)

/-- 'rubriclaw10.GreenWidth': WHATEVER THE INPUT: true; the input reads as it did. -/
def greenWidthSpec : ChangeSpec := { name := "greenWidth", fn := fun _ => fun
  | [d1, d2, d3] => { results := [.lit (.bool true)], args := [d1, d2, d3] }
  | _ => none }
def greenWidthRow : OpenClaim := { program := "ytblebkpnjeghoaa", sum := "9ca42b00e0712355e3722cf1eaae2a10ebb1b53c4e7e0e4b0b93d426dd1cdf06", func := "rubric/rubriclaw10.GreenWidth", spec := "greenWidth", unfollowed := true, recurses := true, apart := false }
def GreenWidthSaid : Prop := greenWidthRow.holds Try.pinned (OpenSpec.ofChange greenWidthSpec)

/-- ITS FALSE NEIGHBOUR: 'it returns false'. Refute it at one input. -/
def greenWidthWrong : ChangeSpec := { name := "greenWidth", fn := fun _ => fun
  | [d1, d2, d3] => { results := [.lit (.bool false)], args := [d1, d2, d3] }
  | _ => none }
def GreenWidthWrongFalsely : Prop := greenWidthRow.holds Try.pinned (OpenSpec.ofChange greenWidthWrong)

/-- 'rubriclaw10.GreenKeeps': WHATEVER THE INPUT: true; the input reads as it did. -/
def greenKeepsSpec : ChangeSpec := { name := "greenKeeps", fn := fun _ => fun
  | [d1, d2, d3, d4] => { results := [.lit (.bool true)], args := [d1, d2, d3, d4] }
  | _ => none }
def greenKeepsRow : OpenClaim := { program := "ytblebkpnjeghoaa", sum := "9ca42b00e0712355e3722cf1eaae2a10ebb1b53c4e7e0e4b0b93d426dd1cdf06", func := "rubric/rubriclaw10.GreenKeeps", spec := "greenKeeps", unfollowed := true, recurses := true, apart := false }
def GreenKeepsSaid : Prop := greenKeepsRow.holds Try.pinned (OpenSpec.ofChange greenKeepsSpec)

/-- ITS FALSE NEIGHBOUR: 'it returns false'. Refute it at one input. -/
def greenKeepsWrong : ChangeSpec := { name := "greenKeeps", fn := fun _ => fun
  | [d1, d2, d3, d4] => { results := [.lit (.bool false)], args := [d1, d2, d3, d4] }
  | _ => none }
def GreenKeepsWrongFalsely : Prop := greenKeepsRow.holds Try.pinned (OpenSpec.ofChange greenKeepsWrong)

/-- 'rubriclaw10.GreenNil': WHATEVER THE INPUT: true; the input reads as it did. -/
def greenNilSpec : ChangeSpec := { name := "greenNil", fn := fun _ => fun
  | [d1, d2] => { results := [.lit (.bool true)], args := [d1, d2] }
  | _ => none }
def greenNilRow : OpenClaim := { program := "ytblebkpnjeghoaa", sum := "9ca42b00e0712355e3722cf1eaae2a10ebb1b53c4e7e0e4b0b93d426dd1cdf06", func := "rubric/rubriclaw10.GreenNil", spec := "greenNil", unfollowed := true, recurses := true, apart := false }
def GreenNilSaid : Prop := greenNilRow.holds Try.pinned (OpenSpec.ofChange greenNilSpec)

/-- ITS FALSE NEIGHBOUR: 'it returns false'. Refute it at one input. -/
def greenNilWrong : ChangeSpec := { name := "greenNil", fn := fun _ => fun
  | [d1, d2] => { results := [.lit (.bool false)], args := [d1, d2] }
  | _ => none }
def GreenNilWrongFalsely : Prop := greenNilRow.holds Try.pinned (OpenSpec.ofChange greenNilWrong)

/-- 'rubriclaw08.TagReads': WHATEVER THE INPUT: true; the input reads as it did. -/
def tagReadsSpec : ChangeSpec := { name := "tagReads", fn := fun _ => fun
  | [d1, d2, d3] => { results := [.lit (.bool true)], args := [d1, d2, d3] }
  | _ => none }
def tagReadsRow : OpenClaim := { program := "ytblebkpnjeghoaa", sum := "9ca42b00e0712355e3722cf1eaae2a10ebb1b53c4e7e0e4b0b93d426dd1cdf06", func := "rubric/rubriclaw08.TagReads", spec := "tagReads", unfollowed := true, recurses := true, apart := false }
def TagReadsSaid : Prop := tagReadsRow.holds Try.pinned (OpenSpec.ofChange tagReadsSpec)

/-- ITS FALSE NEIGHBOUR: 'it returns false'. Refute it at one input. -/
def tagReadsWrong : ChangeSpec := { name := "tagReads", fn := fun _ => fun
  | [d1, d2, d3] => { results := [.lit (.bool false)], args := [d1, d2, d3] }
  | _ => none }
def TagReadsWrongFalsely : Prop := tagReadsRow.holds Try.pinned (OpenSpec.ofChange tagReadsWrong)

/- THE SECOND FORM. 'bulk': how many values and letters a reading holds, each counted each time it is reached (what is shared counts as often as it is met; a slice's spare places count too). A statement '..UptoSaid' is the law's where the arguments, and the package variables that the reading takes, are together of bulk at most 1048576: NARROWER than '..Said'. Prove '..Said' where nothing that the law and all that it calls make is longer than what came in: it says more and counts as full. Else prove '..UptoSaid'. A law counts once. -/
mutual
def uptoBulk {H : Type} : DataW H → Nat
  | .lit (.string bytes) => bytes.length + 1
  | .lit _ => 1
  | .nil => 1
  | .ptr d => uptoBulk d + 1
  | .slice elems spare => uptoBulkAll elems + uptoBulkAll spare + 1
  | .agg parts => uptoBulkAll parts + 1
  | .iface _ d => uptoBulk d + 1
  | .map entries => uptoBulkEntries entries + 1
  | .held _ => 1
def uptoBulkAll {H : Type} : List (DataW H) → Nat
  | [] => 0
  | d :: r => uptoBulk d + uptoBulkAll r
def uptoBulkEntries {H : Type} : List (Lit × DataW H) → Nat
  | [] => 0
  | x :: r => uptoBulkEntry x + uptoBulkEntries r
def uptoBulkEntry {H : Type} : Lit × DataW H → Nat
  | (.string bytes, d) => bytes.length + uptoBulk d + 1
  | (_, d) => uptoBulk d + 1
 end
def uptoSmall : (H : Type) → List (DataW H) → Bool := fun _ ds => decide (uptoBulkAll ds ≤ 1048576)
def OpenSpec.upto (s : _root_.Go.ChangeSpec) : _root_.Go.OpenSpec := { _root_.Go.OpenSpec.ofChange s with cond := some uptoSmall }

/-- 'rubriclaw09.DtdlexParts', WHERE WHAT IT READS IS OF BULK AT MOST 1048576: true; the input reads as it did. -/
def dtdlexPartsUptoRow : OpenClaim := { program := "ytblebkpnjeghoaa", sum := "9ca42b00e0712355e3722cf1eaae2a10ebb1b53c4e7e0e4b0b93d426dd1cdf06", func := "rubric/rubriclaw09.DtdlexParts", spec := "dtdlexParts", inPlace := ["internal/bytealg.IndexByteString", "internal/bytealg.IndexString"], unfollowed := true, recurses := true, named := ["internal/bytealg.MaxLen"], apart := false, narrowed := true }
def DtdlexPartsUptoSaid : Prop := dtdlexPartsUptoRow.holds Try.pinned (OpenSpec.upto dtdlexPartsSpec)

/-- 'rubriclaw09.DtdlexItems', WHERE WHAT IT READS IS OF BULK AT MOST 1048576: true; the input reads as it did. -/
def dtdlexItemsUptoRow : OpenClaim := { program := "ytblebkpnjeghoaa", sum := "9ca42b00e0712355e3722cf1eaae2a10ebb1b53c4e7e0e4b0b93d426dd1cdf06", func := "rubric/rubriclaw09.DtdlexItems", spec := "dtdlexItems", inPlace := ["internal/bytealg.IndexByteString", "internal/bytealg.IndexString"], unfollowed := true, recurses := true, named := ["internal/bytealg.MaxLen"], apart := false, narrowed := true }
def DtdlexItemsUptoSaid : Prop := dtdlexItemsUptoRow.holds Try.pinned (OpenSpec.upto dtdlexItemsSpec)

/-- 'rubriclaw09.DtdlexReads', WHERE WHAT IT READS IS OF BULK AT MOST 1048576: true; the input reads as it did. -/
def dtdlexReadsUptoRow : OpenClaim := { program := "ytblebkpnjeghoaa", sum := "9ca42b00e0712355e3722cf1eaae2a10ebb1b53c4e7e0e4b0b93d426dd1cdf06", func := "rubric/rubriclaw09.DtdlexReads", spec := "dtdlexReads", inPlace := ["internal/bytealg.IndexByteString", "internal/bytealg.IndexString"], unfollowed := true, recurses := true, named := ["internal/bytealg.MaxLen"], apart := false, narrowed := true }
def DtdlexReadsUptoSaid : Prop := dtdlexReadsUptoRow.holds Try.pinned (OpenSpec.upto dtdlexReadsSpec)

/-- 'rubriclaw09.DtdlexWhole', WHERE WHAT IT READS IS OF BULK AT MOST 1048576: true; the input reads as it did. -/
def dtdlexWholeUptoRow : OpenClaim := { program := "ytblebkpnjeghoaa", sum := "9ca42b00e0712355e3722cf1eaae2a10ebb1b53c4e7e0e4b0b93d426dd1cdf06", func := "rubric/rubriclaw09.DtdlexWhole", spec := "dtdlexWhole", inPlace := ["internal/bytealg.IndexByteString", "internal/bytealg.IndexString"], unfollowed := true, recurses := true, named := ["internal/bytealg.MaxLen"], apart := false, narrowed := true }
def DtdlexWholeUptoSaid : Prop := dtdlexWholeUptoRow.holds Try.pinned (OpenSpec.upto dtdlexWholeSpec)

/-- 'rubriclaw10.GreenPlays', WHERE WHAT IT READS IS OF BULK AT MOST 1048576: true; the input reads as it did. -/
def greenPlaysUptoRow : OpenClaim := { program := "ytblebkpnjeghoaa", sum := "9ca42b00e0712355e3722cf1eaae2a10ebb1b53c4e7e0e4b0b93d426dd1cdf06", func := "rubric/rubriclaw10.GreenPlays", spec := "greenPlays", unfollowed := true, recurses := true, apart := false, narrowed := true }
def GreenPlaysUptoSaid : Prop := greenPlaysUptoRow.holds Try.pinned (OpenSpec.upto greenPlaysSpec)

/-- 'rubriclaw10.GreenWidth', WHERE WHAT IT READS IS OF BULK AT MOST 1048576: true; the input reads as it did. -/
def greenWidthUptoRow : OpenClaim := { program := "ytblebkpnjeghoaa", sum := "9ca42b00e0712355e3722cf1eaae2a10ebb1b53c4e7e0e4b0b93d426dd1cdf06", func := "rubric/rubriclaw10.GreenWidth", spec := "greenWidth", unfollowed := true, recurses := true, apart := false, narrowed := true }
def GreenWidthUptoSaid : Prop := greenWidthUptoRow.holds Try.pinned (OpenSpec.upto greenWidthSpec)

/-- 'rubriclaw10.GreenKeeps', WHERE WHAT IT READS IS OF BULK AT MOST 1048576: true; the input reads as it did. -/
def greenKeepsUptoRow : OpenClaim := { program := "ytblebkpnjeghoaa", sum := "9ca42b00e0712355e3722cf1eaae2a10ebb1b53c4e7e0e4b0b93d426dd1cdf06", func := "rubric/rubriclaw10.GreenKeeps", spec := "greenKeeps", unfollowed := true, recurses := true, apart := false, narrowed := true }
def GreenKeepsUptoSaid : Prop := greenKeepsUptoRow.holds Try.pinned (OpenSpec.upto greenKeepsSpec)

/-- 'rubriclaw10.GreenNil', WHERE WHAT IT READS IS OF BULK AT MOST 1048576: true; the input reads as it did. -/
def greenNilUptoRow : OpenClaim := { program := "ytblebkpnjeghoaa", sum := "9ca42b00e0712355e3722cf1eaae2a10ebb1b53c4e7e0e4b0b93d426dd1cdf06", func := "rubric/rubriclaw10.GreenNil", spec := "greenNil", unfollowed := true, recurses := true, apart := false, narrowed := true }
def GreenNilUptoSaid : Prop := greenNilUptoRow.holds Try.pinned (OpenSpec.upto greenNilSpec)

/-- 'rubriclaw08.TagReads', WHERE WHAT IT READS IS OF BULK AT MOST 1048576: true; the input reads as it did. -/
def tagReadsUptoRow : OpenClaim := { program := "ytblebkpnjeghoaa", sum := "9ca42b00e0712355e3722cf1eaae2a10ebb1b53c4e7e0e4b0b93d426dd1cdf06", func := "rubric/rubriclaw08.TagReads", spec := "tagReads", unfollowed := true, recurses := true, apart := false, narrowed := true }
def TagReadsUptoSaid : Prop := tagReadsUptoRow.holds Try.pinned (OpenSpec.upto tagReadsSpec)

end Rows
end Go.Proofs.Ytblebkpnjeghoaa
