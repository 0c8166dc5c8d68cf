/-
  No cell of these rows narrows 'for every input' (looked for: loops, veiled, ifaces, maps, wideKeys, modest, calm, conditions, laid).
  DERIVED. THE GIVEN ROWS OF THIS SEAT. 8 by the template 'for every input the law returns true; each argument reads behind the call as it read before'; 0 by the template 'total and deterministic' (their statements: YtpjcheelafegbaaTotals.lean).
  GIVEN WITH THE SEED: the statements are not yours to turn. If you find one false, say at which input.
  Laid BY PROGRAM, IN A SANDBOX (cutbox-rows.mjs): the forced cells as the released guide's own fill.sh prints them over the translation 7b0a80d0c1d63086… (all of the seat's roots in one cut). By AI agents, Wed Nov 11 2026. No macro, syntax, notation, axiom, sorry.
-/
import Derived.Test.YtpjcheelafegbaaChecked
import GoSem.Claim
import GoSem.ClaimJoined
import GoSem.ClaimMapViews
import Derived.JoinedTies
import Derived.KernelRfl
namespace Go.Proofs.Ytpjcheelafegbaa
/- THE CELL 'sum', in the pinned program and in every row, IS THE sha256 OF THE DUMP (.gsa) THAT YtpjcheelafegbaaProg.lean LOADS. Nothing in Lean hashes anything: it is a label: what it is worth is what the hold of that sum in a sandbox is worth. -/
noncomputable def Try.pinned : Pinned := { name := "ytpjcheelafegbaa", sum := "7b0a80d0c1d630865771202aa6f46fbbc61c2a2ac0cfafd3a6919c465b701f89", checked := Try.checked }
namespace Rows
def none {H : Type} : Left H := { results := [], args := [] }

/-- 'rubriclaw09.DtdlexParts': WHATEVER THE INPUT: true; the input reads as it did. -/
def dtdlexPartsSpec : ChangeSpec := { name := "dtdlexParts", fn := fun _ => fun
  | [d1, d2, d3] => { results := [.lit (.bool true)], args := [d1, d2, d3] }
  | _ => none }
def dtdlexPartsRow : OpenClaim := { program := "ytpjcheelafegbaa", sum := "7b0a80d0c1d630865771202aa6f46fbbc61c2a2ac0cfafd3a6919c465b701f89", func := "rubric/rubriclaw09.DtdlexParts", spec := "dtdlexParts", inPlace := ["internal/bytealg.IndexByteString", "internal/bytealg.IndexString"], unfollowed := true, recurses := true, named := ["internal/bytealg.MaxLen"], apart := false }
def DtdlexPartsSaid : Prop := dtdlexPartsRow.holds Try.pinned (OpenSpec.ofChange dtdlexPartsSpec)

/-- ITS FALSE NEIGHBOUR: 'it returns false'. Refute it at one input. -/
def dtdlexPartsWrong : ChangeSpec := { name := "dtdlexParts", fn := fun _ => fun
  | [d1, d2, d3] => { results := [.lit (.bool false)], args := [d1, d2, d3] }
  | _ => none }
def DtdlexPartsWrongFalsely : Prop := dtdlexPartsRow.holds Try.pinned (OpenSpec.ofChange dtdlexPartsWrong)

/-- 'rubriclaw09.DtdlexItems': WHATEVER THE INPUT: true; the input reads as it did. -/
def dtdlexItemsSpec : ChangeSpec := { name := "dtdlexItems", fn := fun _ => fun
  | [d1, d2, d3] => { results := [.lit (.bool true)], args := [d1, d2, d3] }
  | _ => none }
def dtdlexItemsRow : OpenClaim := { program := "ytpjcheelafegbaa", sum := "7b0a80d0c1d630865771202aa6f46fbbc61c2a2ac0cfafd3a6919c465b701f89", func := "rubric/rubriclaw09.DtdlexItems", spec := "dtdlexItems", inPlace := ["internal/bytealg.IndexByteString", "internal/bytealg.IndexString"], unfollowed := true, recurses := true, named := ["internal/bytealg.MaxLen"], apart := false }
def DtdlexItemsSaid : Prop := dtdlexItemsRow.holds Try.pinned (OpenSpec.ofChange dtdlexItemsSpec)

/-- ITS FALSE NEIGHBOUR: 'it returns false'. Refute it at one input. -/
def dtdlexItemsWrong : ChangeSpec := { name := "dtdlexItems", fn := fun _ => fun
  | [d1, d2, d3] => { results := [.lit (.bool false)], args := [d1, d2, d3] }
  | _ => none }
def DtdlexItemsWrongFalsely : Prop := dtdlexItemsRow.holds Try.pinned (OpenSpec.ofChange dtdlexItemsWrong)

/-- 'rubriclaw09.DtdlexReads': WHATEVER THE INPUT: true; the input reads as it did. -/
def dtdlexReadsSpec : ChangeSpec := { name := "dtdlexReads", fn := fun _ => fun
  | [d1, d2, d3] => { results := [.lit (.bool true)], args := [d1, d2, d3] }
  | _ => none }
def dtdlexReadsRow : OpenClaim := { program := "ytpjcheelafegbaa", sum := "7b0a80d0c1d630865771202aa6f46fbbc61c2a2ac0cfafd3a6919c465b701f89", func := "rubric/rubriclaw09.DtdlexReads", spec := "dtdlexReads", inPlace := ["internal/bytealg.IndexByteString", "internal/bytealg.IndexString"], unfollowed := true, recurses := true, named := ["internal/bytealg.MaxLen"], apart := false }
def DtdlexReadsSaid : Prop := dtdlexReadsRow.holds Try.pinned (OpenSpec.ofChange dtdlexReadsSpec)

/-- ITS FALSE NEIGHBOUR: 'it returns false'. Refute it at one input. -/
def dtdlexReadsWrong : ChangeSpec := { name := "dtdlexReads", fn := fun _ => fun
  | [d1, d2, d3] => { results := [.lit (.bool false)], args := [d1, d2, d3] }
  | _ => none }
def DtdlexReadsWrongFalsely : Prop := dtdlexReadsRow.holds Try.pinned (OpenSpec.ofChange dtdlexReadsWrong)

/-- 'rubriclaw09.DtdlexWhole': WHATEVER THE INPUT: true; the input reads as it did. -/
def dtdlexWholeSpec : ChangeSpec := { name := "dtdlexWhole", fn := fun _ => fun
  | [d] => { results := [.lit (.bool true)], args := [d] }
  | _ => none }
def dtdlexWholeRow : OpenClaim := { program := "ytpjcheelafegbaa", sum := "7b0a80d0c1d630865771202aa6f46fbbc61c2a2ac0cfafd3a6919c465b701f89", func := "rubric/rubriclaw09.DtdlexWhole", spec := "dtdlexWhole", inPlace := ["internal/bytealg.IndexByteString", "internal/bytealg.IndexString"], unfollowed := true, recurses := true, named := ["internal/bytealg.MaxLen"], apart := false }
def DtdlexWholeSaid : Prop := dtdlexWholeRow.holds Try.pinned (OpenSpec.ofChange dtdlexWholeSpec)

/-- ITS FALSE NEIGHBOUR: 'it returns false'. Refute it at one input. -/
def dtdlexWholeWrong : ChangeSpec := { name := "dtdlexWhole", fn := fun _ => fun
  | [d] => { results := [.lit (.bool false)], args := [d] }
  | _ => none }
def DtdlexWholeWrongFalsely : Prop := dtdlexWholeRow.holds Try.pinned (OpenSpec.ofChange dtdlexWholeWrong)

/-- 'rubriclaw12.SpliceSorted': WHATEVER THE INPUT: true; the input reads as it did. -/
def spliceSortedSpec : ChangeSpec := { name := "spliceSorted", fn := fun _ => fun
  | [d] => { results := [.lit (.bool true)], args := [d] }
  | _ => none }
def spliceSortedRow : OpenClaim := { program := "ytpjcheelafegbaa", sum := "7b0a80d0c1d630865771202aa6f46fbbc61c2a2ac0cfafd3a6919c465b701f89", func := "rubric/rubriclaw12.SpliceSorted", spec := "spliceSorted", unfollowed := true, recurses := true, apart := false }
def SpliceSortedSaid : Prop := spliceSortedRow.holds Try.pinned (OpenSpec.ofChange spliceSortedSpec)

/-- ITS FALSE NEIGHBOUR: 'it returns false'. Refute it at one input. -/
def spliceSortedWrong : ChangeSpec := { name := "spliceSorted", fn := fun _ => fun
  | [d] => { results := [.lit (.bool false)], args := [d] }
  | _ => none }
def SpliceSortedWrongFalsely : Prop := spliceSortedRow.holds Try.pinned (OpenSpec.ofChange spliceSortedWrong)

/-- 'rubriclaw12.SpliceApplies': WHATEVER THE INPUT: true; the input reads as it did. -/
def spliceAppliesSpec : ChangeSpec := { name := "spliceApplies", fn := fun _ => fun
  | [d1, d2] => { results := [.lit (.bool true)], args := [d1, d2] }
  | _ => none }
def spliceAppliesRow : OpenClaim := { program := "ytpjcheelafegbaa", sum := "7b0a80d0c1d630865771202aa6f46fbbc61c2a2ac0cfafd3a6919c465b701f89", func := "rubric/rubriclaw12.SpliceApplies", spec := "spliceApplies", unfollowed := true, recurses := true, apart := false }
def SpliceAppliesSaid : Prop := spliceAppliesRow.holds Try.pinned (OpenSpec.ofChange spliceAppliesSpec)

/-- ITS FALSE NEIGHBOUR: 'it returns false'. Refute it at one input. -/
def spliceAppliesWrong : ChangeSpec := { name := "spliceApplies", fn := fun _ => fun
  | [d1, d2] => { results := [.lit (.bool false)], args := [d1, d2] }
  | _ => none }
def SpliceAppliesWrongFalsely : Prop := spliceAppliesRow.holds Try.pinned (OpenSpec.ofChange spliceAppliesWrong)

/-- 'rubriclaw12.SpliceBack': WHATEVER THE INPUT: true; the input reads as it did. -/
def spliceBackSpec : ChangeSpec := { name := "spliceBack", fn := fun _ => fun
  | [d1, d2] => { results := [.lit (.bool true)], args := [d1, d2] }
  | _ => none }
def spliceBackRow : OpenClaim := { program := "ytpjcheelafegbaa", sum := "7b0a80d0c1d630865771202aa6f46fbbc61c2a2ac0cfafd3a6919c465b701f89", func := "rubric/rubriclaw12.SpliceBack", spec := "spliceBack", unfollowed := true, recurses := true, apart := false }
def SpliceBackSaid : Prop := spliceBackRow.holds Try.pinned (OpenSpec.ofChange spliceBackSpec)

/-- ITS FALSE NEIGHBOUR: 'it returns false'. Refute it at one input. -/
def spliceBackWrong : ChangeSpec := { name := "spliceBack", fn := fun _ => fun
  | [d1, d2] => { results := [.lit (.bool false)], args := [d1, d2] }
  | _ => none }
def SpliceBackWrongFalsely : Prop := spliceBackRow.holds Try.pinned (OpenSpec.ofChange spliceBackWrong)

/-- 'rubriclaw12.SpliceDiff': WHATEVER THE INPUT: true; the input reads as it did. -/
def spliceDiffSpec : ChangeSpec := { name := "spliceDiff", fn := fun _ => fun
  | [d1, d2] => { results := [.lit (.bool true)], args := [d1, d2] }
  | _ => none }
def spliceDiffRow : OpenClaim := { program := "ytpjcheelafegbaa", sum := "7b0a80d0c1d630865771202aa6f46fbbc61c2a2ac0cfafd3a6919c465b701f89", func := "rubric/rubriclaw12.SpliceDiff", spec := "spliceDiff", unfollowed := true, recurses := true, apart := false }
def SpliceDiffSaid : Prop := spliceDiffRow.holds Try.pinned (OpenSpec.ofChange spliceDiffSpec)

/-- ITS FALSE NEIGHBOUR: 'it returns false'. Refute it at one input. -/
def spliceDiffWrong : ChangeSpec := { name := "spliceDiff", fn := fun _ => fun
  | [d1, d2] => { results := [.lit (.bool false)], args := [d1, d2] }
  | _ => none }
def SpliceDiffWrongFalsely : Prop := spliceDiffRow.holds Try.pinned (OpenSpec.ofChange spliceDiffWrong)

/- THE SECOND FORM. 'bulk': how many values and letters a reading holds, each counted each time it is reached (what is shared counts as often as it is met; a slice's spare places count too). A statement '..UptoSaid' is the law's where the arguments, and the package variables that the reading takes, are together of bulk at most 1048576: NARROWER than '..Said'. Prove '..Said' where nothing that the law and all that it calls make is longer than what came in: it says more and counts as full. Else prove '..UptoSaid'. A law counts once. -/
mutual
def uptoBulk {H : Type} : DataW H → Nat
  | .lit (.string bytes) => bytes.length + 1
  | .lit _ => 1
  | .nil => 1
  | .ptr d => uptoBulk d + 1
  | .slice elems spare => uptoBulkAll elems + uptoBulkAll spare + 1
  | .agg parts => uptoBulkAll parts + 1
  | .iface _ d => uptoBulk d + 1
  | .map entries => uptoBulkEntries entries + 1
  | .held _ => 1
def uptoBulkAll {H : Type} : List (DataW H) → Nat
  | [] => 0
  | d :: r => uptoBulk d + uptoBulkAll r
def uptoBulkEntries {H : Type} : List (Lit × DataW H) → Nat
  | [] => 0
  | x :: r => uptoBulkEntry x + uptoBulkEntries r
def uptoBulkEntry {H : Type} : Lit × DataW H → Nat
  | (.string bytes, d) => bytes.length + uptoBulk d + 1
  | (_, d) => uptoBulk d + 1
 end
def uptoSmall : (H : Type) → List (DataW H) → Bool := fun _ ds => decide (uptoBulkAll ds ≤ 1048576)
def OpenSpec.upto (s : _root_.Go.ChangeSpec) : _root_.Go.OpenSpec := { _root_.Go.OpenSpec.ofChange s with cond := some uptoSmall }

/-- 'rubriclaw09.DtdlexParts', WHERE WHAT IT READS IS OF BULK AT MOST 1048576: true; the input reads as it did. -/
def dtdlexPartsUptoRow : OpenClaim := { program := "ytpjcheelafegbaa", sum := "7b0a80d0c1d630865771202aa6f46fbbc61c2a2ac0cfafd3a6919c465b701f89", func := "rubric/rubriclaw09.DtdlexParts", spec := "dtdlexParts", inPlace := ["internal/bytealg.IndexByteString", "internal/bytealg.IndexString"], unfollowed := true, recurses := true, named := ["internal/bytealg.MaxLen"], apart := false, narrowed := true }
def DtdlexPartsUptoSaid : Prop := dtdlexPartsUptoRow.holds Try.pinned (OpenSpec.upto dtdlexPartsSpec)

/-- 'rubriclaw09.DtdlexItems', WHERE WHAT IT READS IS OF BULK AT MOST 1048576: true; the input reads as it did. -/
def dtdlexItemsUptoRow : OpenClaim := { program := "ytpjcheelafegbaa", sum := "7b0a80d0c1d630865771202aa6f46fbbc61c2a2ac0cfafd3a6919c465b701f89", func := "rubric/rubriclaw09.DtdlexItems", spec := "dtdlexItems", inPlace := ["internal/bytealg.IndexByteString", "internal/bytealg.IndexString"], unfollowed := true, recurses := true, named := ["internal/bytealg.MaxLen"], apart := false, narrowed := true }
def DtdlexItemsUptoSaid : Prop := dtdlexItemsUptoRow.holds Try.pinned (OpenSpec.upto dtdlexItemsSpec)

/-- 'rubriclaw09.DtdlexReads', WHERE WHAT IT READS IS OF BULK AT MOST 1048576: true; the input reads as it did. -/
def dtdlexReadsUptoRow : OpenClaim := { program := "ytpjcheelafegbaa", sum := "7b0a80d0c1d630865771202aa6f46fbbc61c2a2ac0cfafd3a6919c465b701f89", func := "rubric/rubriclaw09.DtdlexReads", spec := "dtdlexReads", inPlace := ["internal/bytealg.IndexByteString", "internal/bytealg.IndexString"], unfollowed := true, recurses := true, named := ["internal/bytealg.MaxLen"], apart := false, narrowed := true }
def DtdlexReadsUptoSaid : Prop := dtdlexReadsUptoRow.holds Try.pinned (OpenSpec.upto dtdlexReadsSpec)

/-- 'rubriclaw09.DtdlexWhole', WHERE WHAT IT READS IS OF BULK AT MOST 1048576: true; the input reads as it did. -/
def dtdlexWholeUptoRow : OpenClaim := { program := "ytpjcheelafegbaa", sum := "7b0a80d0c1d630865771202aa6f46fbbc61c2a2ac0cfafd3a6919c465b701f89", func := "rubric/rubriclaw09.DtdlexWhole", spec := "dtdlexWhole", inPlace := ["internal/bytealg.IndexByteString", "internal/bytealg.IndexString"], unfollowed := true, recurses := true, named := ["internal/bytealg.MaxLen"], apart := false, narrowed := true }
def DtdlexWholeUptoSaid : Prop := dtdlexWholeUptoRow.holds Try.pinned (OpenSpec.upto dtdlexWholeSpec)

/-- 'rubriclaw12.SpliceSorted', WHERE WHAT IT READS IS OF BULK AT MOST 1048576: true; the input reads as it did. -/
def spliceSortedUptoRow : OpenClaim := { program := "ytpjcheelafegbaa", sum := "7b0a80d0c1d630865771202aa6f46fbbc61c2a2ac0cfafd3a6919c465b701f89", func := "rubric/rubriclaw12.SpliceSorted", spec := "spliceSorted", unfollowed := true, recurses := true, apart := false, narrowed := true }
def SpliceSortedUptoSaid : Prop := spliceSortedUptoRow.holds Try.pinned (OpenSpec.upto spliceSortedSpec)

/-- 'rubriclaw12.SpliceApplies', WHERE WHAT IT READS IS OF BULK AT MOST 1048576: true; the input reads as it did. -/
def spliceAppliesUptoRow : OpenClaim := { program := "ytpjcheelafegbaa", sum := "7b0a80d0c1d630865771202aa6f46fbbc61c2a2ac0cfafd3a6919c465b701f89", func := "rubric/rubriclaw12.SpliceApplies", spec := "spliceApplies", unfollowed := true, recurses := true, apart := false, narrowed := true }
def SpliceAppliesUptoSaid : Prop := spliceAppliesUptoRow.holds Try.pinned (OpenSpec.upto spliceAppliesSpec)

/-- 'rubriclaw12.SpliceBack', WHERE WHAT IT READS IS OF BULK AT MOST 1048576: true; the input reads as it did. -/
def spliceBackUptoRow : OpenClaim := { program := "ytpjcheelafegbaa", sum := "7b0a80d0c1d630865771202aa6f46fbbc61c2a2ac0cfafd3a6919c465b701f89", func := "rubric/rubriclaw12.SpliceBack", spec := "spliceBack", unfollowed := true, recurses := true, apart := false, narrowed := true }
def SpliceBackUptoSaid : Prop := spliceBackUptoRow.holds Try.pinned (OpenSpec.upto spliceBackSpec)

/-- 'rubriclaw12.SpliceDiff', WHERE WHAT IT READS IS OF BULK AT MOST 1048576: true; the input reads as it did. -/
def spliceDiffUptoRow : OpenClaim := { program := "ytpjcheelafegbaa", sum := "7b0a80d0c1d630865771202aa6f46fbbc61c2a2ac0cfafd3a6919c465b701f89", func := "rubric/rubriclaw12.SpliceDiff", spec := "spliceDiff", unfollowed := true, recurses := true, apart := false, narrowed := true }
def SpliceDiffUptoSaid : Prop := spliceDiffUptoRow.holds Try.pinned (OpenSpec.upto spliceDiffSpec)

end Rows
end Go.Proofs.Ytpjcheelafegbaa
