/-
  No cell of these rows narrows 'for every input' (looked for: loops, veiled, ifaces, maps, wideKeys, modest, calm, conditions, laid).
  DERIVED. THE GIVEN ROWS OF THIS SEAT. 7 by the template 'for every input the law returns true; each argument reads behind the call as it read before'; 0 by the template 'total and deterministic' (their statements: YtogmddneimhpeaaTotals.lean).
  GIVEN WITH THE SEED: the statements are not yours to turn. If you find one false, say at which input.
  Laid BY PROGRAM, IN A SANDBOX (cutbox-rows.mjs): the forced cells as the released guide's own fill.sh prints them over the translation df8fac2b0418bc37… (all of the seat's roots in one cut). By AI agents, Wed Nov 11 2026. No macro, syntax, notation, axiom, sorry.
-/
import Derived.Test.YtogmddneimhpeaaChecked
import GoSem.Claim
import GoSem.ClaimJoined
import GoSem.ClaimMapViews
import Derived.JoinedTies
import Derived.KernelRfl
namespace Go.Proofs.Ytogmddneimhpeaa
/- THE CELL 'sum', in the pinned program and in every row, IS THE sha256 OF THE DUMP (.gsa) THAT YtogmddneimhpeaaProg.lean LOADS. Nothing in Lean hashes anything: it is a label: what it is worth is what the hold of that sum in a sandbox is worth. -/
noncomputable def Try.pinned : Pinned := { name := "ytogmddneimhpeaa", sum := "df8fac2b0418bc37f47d70135a827ff4cea42b4ccd26eaadf91112e289ef6be4", checked := Try.checked }
namespace Rows
def none {H : Type} : Left H := { results := [], args := [] }

/-- 'copybooklaw05.PiecePlays': WHATEVER THE INPUT: true; the input reads as it did. -/
def piecePlaysSpec : ChangeSpec := { name := "piecePlays", fn := fun _ => fun
  | [d1, d2] => { results := [.lit (.bool true)], args := [d1, d2] }
  | _ => none }
def piecePlaysRow : OpenClaim := { program := "ytogmddneimhpeaa", sum := "df8fac2b0418bc37f47d70135a827ff4cea42b4ccd26eaadf91112e289ef6be4", func := "copybook/copybooklaw05.PiecePlays", spec := "piecePlays", unfollowed := true, recurses := true, apart := false }
def PiecePlaysSaid : Prop := piecePlaysRow.holds Try.pinned (OpenSpec.ofChange piecePlaysSpec)

/-- ITS FALSE NEIGHBOUR: 'it returns false'. Refute it at one input. -/
def piecePlaysWrong : ChangeSpec := { name := "piecePlays", fn := fun _ => fun
  | [d1, d2] => { results := [.lit (.bool false)], args := [d1, d2] }
  | _ => none }
def PiecePlaysWrongFalsely : Prop := piecePlaysRow.holds Try.pinned (OpenSpec.ofChange piecePlaysWrong)

/-- 'copybooklaw05.PieceText': WHATEVER THE INPUT: true; the input reads as it did. -/
def pieceTextSpec : ChangeSpec := { name := "pieceText", fn := fun _ => fun
  | [d1, d2] => { results := [.lit (.bool true)], args := [d1, d2] }
  | _ => none }
def pieceTextRow : OpenClaim := { program := "ytogmddneimhpeaa", sum := "df8fac2b0418bc37f47d70135a827ff4cea42b4ccd26eaadf91112e289ef6be4", func := "copybook/copybooklaw05.PieceText", spec := "pieceText", inPlace := ["slices.overlaps[copybook/api.Char]"], unfollowed := true, recurses := true, apart := false }
def PieceTextSaid : Prop := pieceTextRow.holds Try.pinned (OpenSpec.ofChange pieceTextSpec)

/-- ITS FALSE NEIGHBOUR: 'it returns false'. Refute it at one input. -/
def pieceTextWrong : ChangeSpec := { name := "pieceText", fn := fun _ => fun
  | [d1, d2] => { results := [.lit (.bool false)], args := [d1, d2] }
  | _ => none }
def PieceTextWrongFalsely : Prop := pieceTextRow.holds Try.pinned (OpenSpec.ofChange pieceTextWrong)

/-- 'copybooklaw06.UnitBoth': WHATEVER THE INPUT: true; the input reads as it did. -/
def unitBothSpec : ChangeSpec := { name := "unitBoth", fn := fun _ => fun
  | [d1, d2, d3] => { results := [.lit (.bool true)], args := [d1, d2, d3] }
  | _ => none }
def unitBothRow : OpenClaim := { program := "ytogmddneimhpeaa", sum := "df8fac2b0418bc37f47d70135a827ff4cea42b4ccd26eaadf91112e289ef6be4", func := "copybook/copybooklaw06.UnitBoth", spec := "unitBoth", unfollowed := true, recurses := true, apart := false }
def UnitBothSaid : Prop := unitBothRow.holds Try.pinned (OpenSpec.ofChange unitBothSpec)

/-- ITS FALSE NEIGHBOUR: 'it returns false'. Refute it at one input. -/
def unitBothWrong : ChangeSpec := { name := "unitBoth", fn := fun _ => fun
  | [d1, d2, d3] => { results := [.lit (.bool false)], args := [d1, d2, d3] }
  | _ => none }
def UnitBothWrongFalsely : Prop := unitBothRow.holds Try.pinned (OpenSpec.ofChange unitBothWrong)

/-- 'copybooklaw06.UnitNops': WHATEVER THE INPUT: true; the input reads as it did. -/
def unitNopsSpec : ChangeSpec := { name := "unitNops", fn := fun _ => fun
  | [d1, d2] => { results := [.lit (.bool true)], args := [d1, d2] }
  | _ => none }
def unitNopsRow : OpenClaim := { program := "ytogmddneimhpeaa", sum := "df8fac2b0418bc37f47d70135a827ff4cea42b4ccd26eaadf91112e289ef6be4", func := "copybook/copybooklaw06.UnitNops", spec := "unitNops", unfollowed := true, recurses := true, apart := false }
def UnitNopsSaid : Prop := unitNopsRow.holds Try.pinned (OpenSpec.ofChange unitNopsSpec)

/-- ITS FALSE NEIGHBOUR: 'it returns false'. Refute it at one input. -/
def unitNopsWrong : ChangeSpec := { name := "unitNops", fn := fun _ => fun
  | [d1, d2] => { results := [.lit (.bool false)], args := [d1, d2] }
  | _ => none }
def UnitNopsWrongFalsely : Prop := unitNopsRow.holds Try.pinned (OpenSpec.ofChange unitNopsWrong)

/-- 'copybooklaw06.UnitPlace': WHATEVER THE INPUT: true; the input reads as it did. -/
def unitPlaceSpec : ChangeSpec := { name := "unitPlace", fn := fun _ => fun
  | [d1, d2] => { results := [.lit (.bool true)], args := [d1, d2] }
  | _ => none }
def unitPlaceRow : OpenClaim := { program := "ytogmddneimhpeaa", sum := "df8fac2b0418bc37f47d70135a827ff4cea42b4ccd26eaadf91112e289ef6be4", func := "copybook/copybooklaw06.UnitPlace", spec := "unitPlace", unfollowed := true, recurses := true, apart := false }
def UnitPlaceSaid : Prop := unitPlaceRow.holds Try.pinned (OpenSpec.ofChange unitPlaceSpec)

/-- ITS FALSE NEIGHBOUR: 'it returns false'. Refute it at one input. -/
def unitPlaceWrong : ChangeSpec := { name := "unitPlace", fn := fun _ => fun
  | [d1, d2] => { results := [.lit (.bool false)], args := [d1, d2] }
  | _ => none }
def UnitPlaceWrongFalsely : Prop := unitPlaceRow.holds Try.pinned (OpenSpec.ofChange unitPlaceWrong)

/-- 'copybooklaw06.UnitAhead': WHATEVER THE INPUT: true; the input reads as it did. -/
def unitAheadSpec : ChangeSpec := { name := "unitAhead", fn := fun _ => fun
  | [d1, d2, d3] => { results := [.lit (.bool true)], args := [d1, d2, d3] }
  | _ => none }
def unitAheadRow : OpenClaim := { program := "ytogmddneimhpeaa", sum := "df8fac2b0418bc37f47d70135a827ff4cea42b4ccd26eaadf91112e289ef6be4", func := "copybook/copybooklaw06.UnitAhead", spec := "unitAhead", unfollowed := true, recurses := true, apart := false }
def UnitAheadSaid : Prop := unitAheadRow.holds Try.pinned (OpenSpec.ofChange unitAheadSpec)

/-- ITS FALSE NEIGHBOUR: 'it returns false'. Refute it at one input. -/
def unitAheadWrong : ChangeSpec := { name := "unitAhead", fn := fun _ => fun
  | [d1, d2, d3] => { results := [.lit (.bool false)], args := [d1, d2, d3] }
  | _ => none }
def UnitAheadWrongFalsely : Prop := unitAheadRow.holds Try.pinned (OpenSpec.ofChange unitAheadWrong)

/-- 'copybooklaw06.UnitOrder': WHATEVER THE INPUT: true; the input reads as it did. -/
def unitOrderSpec : ChangeSpec := { name := "unitOrder", fn := fun _ => fun
  | [d1, d2, d3, d4] => { results := [.lit (.bool true)], args := [d1, d2, d3, d4] }
  | _ => none }
def unitOrderRow : OpenClaim := { program := "ytogmddneimhpeaa", sum := "df8fac2b0418bc37f47d70135a827ff4cea42b4ccd26eaadf91112e289ef6be4", func := "copybook/copybooklaw06.UnitOrder", spec := "unitOrder", unfollowed := true, recurses := true, apart := false }
def UnitOrderSaid : Prop := unitOrderRow.holds Try.pinned (OpenSpec.ofChange unitOrderSpec)

/-- ITS FALSE NEIGHBOUR: 'it returns false'. Refute it at one input. -/
def unitOrderWrong : ChangeSpec := { name := "unitOrder", fn := fun _ => fun
  | [d1, d2, d3, d4] => { results := [.lit (.bool false)], args := [d1, d2, d3, d4] }
  | _ => none }
def UnitOrderWrongFalsely : Prop := unitOrderRow.holds Try.pinned (OpenSpec.ofChange unitOrderWrong)

/- THE SECOND FORM. 'bulk': how many values and letters a reading holds, each counted each time it is reached (what is shared counts as often as it is met; a slice's spare places count too). A statement '..UptoSaid' is the law's where the arguments, and the package variables that the reading takes, are together of bulk at most 1048576: NARROWER than '..Said'. Prove '..Said' where nothing that the law and all that it calls make is longer than what came in: it says more and counts as full. Else prove '..UptoSaid'. A law counts once. -/
mutual
def uptoBulk {H : Type} : DataW H → Nat
  | .lit (.string bytes) => bytes.length + 1
  | .lit _ => 1
  | .nil => 1
  | .ptr d => uptoBulk d + 1
  | .slice elems spare => uptoBulkAll elems + uptoBulkAll spare + 1
  | .agg parts => uptoBulkAll parts + 1
  | .iface _ d => uptoBulk d + 1
  | .map entries => uptoBulkEntries entries + 1
  | .held _ => 1
def uptoBulkAll {H : Type} : List (DataW H) → Nat
  | [] => 0
  | d :: r => uptoBulk d + uptoBulkAll r
def uptoBulkEntries {H : Type} : List (Lit × DataW H) → Nat
  | [] => 0
  | x :: r => uptoBulkEntry x + uptoBulkEntries r
def uptoBulkEntry {H : Type} : Lit × DataW H → Nat
  | (.string bytes, d) => bytes.length + uptoBulk d + 1
  | (_, d) => uptoBulk d + 1
 end
def uptoSmall : (H : Type) → List (DataW H) → Bool := fun _ ds => decide (uptoBulkAll ds ≤ 1048576)
def OpenSpec.upto (s : _root_.Go.ChangeSpec) : _root_.Go.OpenSpec := { _root_.Go.OpenSpec.ofChange s with cond := some uptoSmall }

/-- 'copybooklaw05.PiecePlays', WHERE WHAT IT READS IS OF BULK AT MOST 1048576: true; the input reads as it did. -/
def piecePlaysUptoRow : OpenClaim := { program := "ytogmddneimhpeaa", sum := "df8fac2b0418bc37f47d70135a827ff4cea42b4ccd26eaadf91112e289ef6be4", func := "copybook/copybooklaw05.PiecePlays", spec := "piecePlays", unfollowed := true, recurses := true, apart := false, narrowed := true }
def PiecePlaysUptoSaid : Prop := piecePlaysUptoRow.holds Try.pinned (OpenSpec.upto piecePlaysSpec)

/-- 'copybooklaw05.PieceText', WHERE WHAT IT READS IS OF BULK AT MOST 1048576: true; the input reads as it did. -/
def pieceTextUptoRow : OpenClaim := { program := "ytogmddneimhpeaa", sum := "df8fac2b0418bc37f47d70135a827ff4cea42b4ccd26eaadf91112e289ef6be4", func := "copybook/copybooklaw05.PieceText", spec := "pieceText", inPlace := ["slices.overlaps[copybook/api.Char]"], unfollowed := true, recurses := true, apart := false, narrowed := true }
def PieceTextUptoSaid : Prop := pieceTextUptoRow.holds Try.pinned (OpenSpec.upto pieceTextSpec)

/-- 'copybooklaw06.UnitBoth', WHERE WHAT IT READS IS OF BULK AT MOST 1048576: true; the input reads as it did. -/
def unitBothUptoRow : OpenClaim := { program := "ytogmddneimhpeaa", sum := "df8fac2b0418bc37f47d70135a827ff4cea42b4ccd26eaadf91112e289ef6be4", func := "copybook/copybooklaw06.UnitBoth", spec := "unitBoth", unfollowed := true, recurses := true, apart := false, narrowed := true }
def UnitBothUptoSaid : Prop := unitBothUptoRow.holds Try.pinned (OpenSpec.upto unitBothSpec)

/-- 'copybooklaw06.UnitNops', WHERE WHAT IT READS IS OF BULK AT MOST 1048576: true; the input reads as it did. -/
def unitNopsUptoRow : OpenClaim := { program := "ytogmddneimhpeaa", sum := "df8fac2b0418bc37f47d70135a827ff4cea42b4ccd26eaadf91112e289ef6be4", func := "copybook/copybooklaw06.UnitNops", spec := "unitNops", unfollowed := true, recurses := true, apart := false, narrowed := true }
def UnitNopsUptoSaid : Prop := unitNopsUptoRow.holds Try.pinned (OpenSpec.upto unitNopsSpec)

/-- 'copybooklaw06.UnitPlace', WHERE WHAT IT READS IS OF BULK AT MOST 1048576: true; the input reads as it did. -/
def unitPlaceUptoRow : OpenClaim := { program := "ytogmddneimhpeaa", sum := "df8fac2b0418bc37f47d70135a827ff4cea42b4ccd26eaadf91112e289ef6be4", func := "copybook/copybooklaw06.UnitPlace", spec := "unitPlace", unfollowed := true, recurses := true, apart := false, narrowed := true }
def UnitPlaceUptoSaid : Prop := unitPlaceUptoRow.holds Try.pinned (OpenSpec.upto unitPlaceSpec)

/-- 'copybooklaw06.UnitAhead', WHERE WHAT IT READS IS OF BULK AT MOST 1048576: true; the input reads as it did. -/
def unitAheadUptoRow : OpenClaim := { program := "ytogmddneimhpeaa", sum := "df8fac2b0418bc37f47d70135a827ff4cea42b4ccd26eaadf91112e289ef6be4", func := "copybook/copybooklaw06.UnitAhead", spec := "unitAhead", unfollowed := true, recurses := true, apart := false, narrowed := true }
def UnitAheadUptoSaid : Prop := unitAheadUptoRow.holds Try.pinned (OpenSpec.upto unitAheadSpec)

/-- 'copybooklaw06.UnitOrder', WHERE WHAT IT READS IS OF BULK AT MOST 1048576: true; the input reads as it did. -/
def unitOrderUptoRow : OpenClaim := { program := "ytogmddneimhpeaa", sum := "df8fac2b0418bc37f47d70135a827ff4cea42b4ccd26eaadf91112e289ef6be4", func := "copybook/copybooklaw06.UnitOrder", spec := "unitOrder", unfollowed := true, recurses := true, apart := false, narrowed := true }
def UnitOrderUptoSaid : Prop := unitOrderUptoRow.holds Try.pinned (OpenSpec.upto unitOrderSpec)

end Rows
end Go.Proofs.Ytogmddneimhpeaa
