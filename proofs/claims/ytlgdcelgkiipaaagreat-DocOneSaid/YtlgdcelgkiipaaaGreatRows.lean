/-
  No cell of these rows narrows 'for every input' (looked for: loops, veiled, ifaces, maps, wideKeys, modest, calm, conditions, laid).
  DERIVED. THE GIVEN ROWS OF THIS SEAT. 5 by the template 'for every input the law returns true; each argument reads behind the call as it read before'; 0 by the template 'total and deterministic' (their statements: YtlgdcelgkiipaaaGreatTotals.lean).
  GIVEN WITH THE SEED: the statements are not yours to turn. If you find one false, say at which input.
  Laid BY PROGRAM, IN A SANDBOX (cutbox-rows.mjs): the forced cells as the released guide's own fill.sh prints them over the translation d65d5490b71e03f3… (all of the seat's roots in one cut). By AI agents, Wed Nov 11 2026. No macro, syntax, notation, axiom, sorry.
-/
import Derived.Test.YtlgdcelgkiipaaaGreatChecked
import GoSem.Claim
import GoSem.ClaimJoined
import GoSem.ClaimMapViews
import Derived.JoinedTies
import Derived.KernelRfl
namespace Go.Proofs.YtlgdcelgkiipaaaGreat
/- THE CELL 'sum', in the pinned program and in every row, IS THE sha256 OF THE DUMP (.gsa) THAT YtlgdcelgkiipaaaGreatProg.lean LOADS. Nothing in Lean hashes anything: it is a label: what it is worth is what the hold of that sum in a sandbox is worth. -/
noncomputable def Tryz.pinned : Pinned := { name := "ytlgdcelgkiipaaagreat", sum := "d65d5490b71e03f31274027dfe97b7a30fedce33d34eccf356831f76336bcb11", checked := Tryz.checked }
namespace Rows
def none {H : Type} : Left H := { results := [], args := [] }

/-- 'copybooklaw13.DocPlays': WHATEVER THE INPUT: true; the input reads as it did. -/
def docPlaysSpec : ChangeSpec := { name := "docPlays", fn := fun _ => fun
  | [d] => { results := [.lit (.bool true)], args := [d] }
  | _ => none }
def docPlaysRow : OpenClaim := { program := "ytlgdcelgkiipaaagreat", sum := "d65d5490b71e03f31274027dfe97b7a30fedce33d34eccf356831f76336bcb11", func := "copybook/copybooklaw13.DocPlays", spec := "docPlays", inPlace := ["slices.overlaps[copybook/api.Char]", "maps.clone"], unfollowed := true, recurses := true, apart := false }
def DocPlaysSaid : Prop := docPlaysRow.holds Tryz.pinned (OpenSpec.ofChange docPlaysSpec)

/-- ITS FALSE NEIGHBOUR: 'it returns false'. Refute it at one input. -/
def docPlaysWrong : ChangeSpec := { name := "docPlays", fn := fun _ => fun
  | [d] => { results := [.lit (.bool false)], args := [d] }
  | _ => none }
def DocPlaysWrongFalsely : Prop := docPlaysRow.holds Tryz.pinned (OpenSpec.ofChange docPlaysWrong)

/-- 'copybooklaw13.DocOne': WHATEVER THE INPUT: true; the input reads as it did. -/
def docOneSpec : ChangeSpec := { name := "docOne", fn := fun _ => fun
  | [d] => { results := [.lit (.bool true)], args := [d] }
  | _ => none }
def docOneRow : OpenClaim := { program := "ytlgdcelgkiipaaagreat", sum := "d65d5490b71e03f31274027dfe97b7a30fedce33d34eccf356831f76336bcb11", func := "copybook/copybooklaw13.DocOne", spec := "docOne", inPlace := ["slices.overlaps[copybook/api.Char]"], unfollowed := true, recurses := true, apart := false }
def DocOneSaid : Prop := docOneRow.holds Tryz.pinned (OpenSpec.ofChange docOneSpec)

/-- ITS FALSE NEIGHBOUR: 'it returns false'. Refute it at one input. -/
def docOneWrong : ChangeSpec := { name := "docOne", fn := fun _ => fun
  | [d] => { results := [.lit (.bool false)], args := [d] }
  | _ => none }
def DocOneWrongFalsely : Prop := docOneRow.holds Tryz.pinned (OpenSpec.ofChange docOneWrong)

/-- 'copybooklaw13.DocReads': WHATEVER THE INPUT: true; the input reads as it did. -/
def docReadsSpec : ChangeSpec := { name := "docReads", fn := fun _ => fun
  | [d1, d2, d3] => { results := [.lit (.bool true)], args := [d1, d2, d3] }
  | _ => none }
def docReadsRow : OpenClaim := { program := "ytlgdcelgkiipaaagreat", sum := "d65d5490b71e03f31274027dfe97b7a30fedce33d34eccf356831f76336bcb11", func := "copybook/copybooklaw13.DocReads", spec := "docReads", inPlace := ["slices.overlaps[copybook/api.Char]"], unfollowed := true, recurses := true, apart := false }
def DocReadsSaid : Prop := docReadsRow.holds Tryz.pinned (OpenSpec.ofChange docReadsSpec)

/-- ITS FALSE NEIGHBOUR: 'it returns false'. Refute it at one input. -/
def docReadsWrong : ChangeSpec := { name := "docReads", fn := fun _ => fun
  | [d1, d2, d3] => { results := [.lit (.bool false)], args := [d1, d2, d3] }
  | _ => none }
def DocReadsWrongFalsely : Prop := docReadsRow.holds Tryz.pinned (OpenSpec.ofChange docReadsWrong)

/-- 'copybooklaw13.DocSame': WHATEVER THE INPUT: true; the input reads as it did. -/
def docSameSpec : ChangeSpec := { name := "docSame", fn := fun _ => fun
  | [d1, d2, d3] => { results := [.lit (.bool true)], args := [d1, d2, d3] }
  | _ => none }
def docSameRow : OpenClaim := { program := "ytlgdcelgkiipaaagreat", sum := "d65d5490b71e03f31274027dfe97b7a30fedce33d34eccf356831f76336bcb11", func := "copybook/copybooklaw13.DocSame", spec := "docSame", inPlace := ["maps.clone", "slices.overlaps[copybook/api.Char]"], unfollowed := true, recurses := true, apart := false }
def DocSameSaid : Prop := docSameRow.holds Tryz.pinned (OpenSpec.ofChange docSameSpec)

/-- ITS FALSE NEIGHBOUR: 'it returns false'. Refute it at one input. -/
def docSameWrong : ChangeSpec := { name := "docSame", fn := fun _ => fun
  | [d1, d2, d3] => { results := [.lit (.bool false)], args := [d1, d2, d3] }
  | _ => none }
def DocSameWrongFalsely : Prop := docSameRow.holds Tryz.pinned (OpenSpec.ofChange docSameWrong)

/-- 'copybooklaw13.DocKnown': WHATEVER THE INPUT: true; the input reads as it did. -/
def docKnownSpec : ChangeSpec := { name := "docKnown", fn := fun _ => fun
  | [] => { results := [.lit (.bool true)], args := [] }
  | _ => none }
def docKnownRow : OpenClaim := { program := "ytlgdcelgkiipaaagreat", sum := "d65d5490b71e03f31274027dfe97b7a30fedce33d34eccf356831f76336bcb11", func := "copybook/copybooklaw13.DocKnown", spec := "docKnown", inPlace := ["slices.overlaps[copybook/api.Char]", "maps.clone"], unfollowed := true, recurses := true, apart := false }
def DocKnownSaid : Prop := docKnownRow.holds Tryz.pinned (OpenSpec.ofChange docKnownSpec)

/-- ITS FALSE NEIGHBOUR: 'it returns false'. Refute it at one input. -/
def docKnownWrong : ChangeSpec := { name := "docKnown", fn := fun _ => fun
  | [] => { results := [.lit (.bool false)], args := [] }
  | _ => none }
def DocKnownWrongFalsely : Prop := docKnownRow.holds Tryz.pinned (OpenSpec.ofChange docKnownWrong)

/- THE SECOND FORM. 'bulk': how many values and letters a reading holds, each counted each time it is reached (what is shared counts as often as it is met; a slice's spare places count too). A statement '..UptoSaid' is the law's where the arguments, and the package variables that the reading takes, are together of bulk at most 1048576: NARROWER than '..Said'. Prove '..Said' where nothing that the law and all that it calls make is longer than what came in: it says more and counts as full. Else prove '..UptoSaid'. A law counts once. -/
mutual
def uptoBulk {H : Type} : DataW H → Nat
  | .lit (.string bytes) => bytes.length + 1
  | .lit _ => 1
  | .nil => 1
  | .ptr d => uptoBulk d + 1
  | .slice elems spare => uptoBulkAll elems + uptoBulkAll spare + 1
  | .agg parts => uptoBulkAll parts + 1
  | .iface _ d => uptoBulk d + 1
  | .map entries => uptoBulkEntries entries + 1
  | .held _ => 1
def uptoBulkAll {H : Type} : List (DataW H) → Nat
  | [] => 0
  | d :: r => uptoBulk d + uptoBulkAll r
def uptoBulkEntries {H : Type} : List (Lit × DataW H) → Nat
  | [] => 0
  | x :: r => uptoBulkEntry x + uptoBulkEntries r
def uptoBulkEntry {H : Type} : Lit × DataW H → Nat
  | (.string bytes, d) => bytes.length + uptoBulk d + 1
  | (_, d) => uptoBulk d + 1
 end
def uptoSmall : (H : Type) → List (DataW H) → Bool := fun _ ds => decide (uptoBulkAll ds ≤ 1048576)
def OpenSpec.upto (s : _root_.Go.ChangeSpec) : _root_.Go.OpenSpec := { _root_.Go.OpenSpec.ofChange s with cond := some uptoSmall }

/-- 'copybooklaw13.DocPlays', WHERE WHAT IT READS IS OF BULK AT MOST 1048576: true; the input reads as it did. -/
def docPlaysUptoRow : OpenClaim := { program := "ytlgdcelgkiipaaagreat", sum := "d65d5490b71e03f31274027dfe97b7a30fedce33d34eccf356831f76336bcb11", func := "copybook/copybooklaw13.DocPlays", spec := "docPlays", inPlace := ["slices.overlaps[copybook/api.Char]", "maps.clone"], unfollowed := true, recurses := true, apart := false, narrowed := true }
def DocPlaysUptoSaid : Prop := docPlaysUptoRow.holds Tryz.pinned (OpenSpec.upto docPlaysSpec)

/-- 'copybooklaw13.DocOne', WHERE WHAT IT READS IS OF BULK AT MOST 1048576: true; the input reads as it did. -/
def docOneUptoRow : OpenClaim := { program := "ytlgdcelgkiipaaagreat", sum := "d65d5490b71e03f31274027dfe97b7a30fedce33d34eccf356831f76336bcb11", func := "copybook/copybooklaw13.DocOne", spec := "docOne", inPlace := ["slices.overlaps[copybook/api.Char]"], unfollowed := true, recurses := true, apart := false, narrowed := true }
def DocOneUptoSaid : Prop := docOneUptoRow.holds Tryz.pinned (OpenSpec.upto docOneSpec)

/-- 'copybooklaw13.DocReads', WHERE WHAT IT READS IS OF BULK AT MOST 1048576: true; the input reads as it did. -/
def docReadsUptoRow : OpenClaim := { program := "ytlgdcelgkiipaaagreat", sum := "d65d5490b71e03f31274027dfe97b7a30fedce33d34eccf356831f76336bcb11", func := "copybook/copybooklaw13.DocReads", spec := "docReads", inPlace := ["slices.overlaps[copybook/api.Char]"], unfollowed := true, recurses := true, apart := false, narrowed := true }
def DocReadsUptoSaid : Prop := docReadsUptoRow.holds Tryz.pinned (OpenSpec.upto docReadsSpec)

/-- 'copybooklaw13.DocSame', WHERE WHAT IT READS IS OF BULK AT MOST 1048576: true; the input reads as it did. -/
def docSameUptoRow : OpenClaim := { program := "ytlgdcelgkiipaaagreat", sum := "d65d5490b71e03f31274027dfe97b7a30fedce33d34eccf356831f76336bcb11", func := "copybook/copybooklaw13.DocSame", spec := "docSame", inPlace := ["maps.clone", "slices.overlaps[copybook/api.Char]"], unfollowed := true, recurses := true, apart := false, narrowed := true }
def DocSameUptoSaid : Prop := docSameUptoRow.holds Tryz.pinned (OpenSpec.upto docSameSpec)

/-- 'copybooklaw13.DocKnown', WHERE WHAT IT READS IS OF BULK AT MOST 1048576: true; the input reads as it did. -/
def docKnownUptoRow : OpenClaim := { program := "ytlgdcelgkiipaaagreat", sum := "d65d5490b71e03f31274027dfe97b7a30fedce33d34eccf356831f76336bcb11", func := "copybook/copybooklaw13.DocKnown", spec := "docKnown", inPlace := ["slices.overlaps[copybook/api.Char]", "maps.clone"], unfollowed := true, recurses := true, apart := false, narrowed := true }
def DocKnownUptoSaid : Prop := docKnownUptoRow.holds Tryz.pinned (OpenSpec.upto docKnownSpec)

end Rows
end Go.Proofs.YtlgdcelgkiipaaaGreat
