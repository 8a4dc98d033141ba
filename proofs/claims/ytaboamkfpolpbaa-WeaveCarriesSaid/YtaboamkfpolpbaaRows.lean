/-
  No cell of these rows narrows 'for every input' (looked for: loops, veiled, ifaces, maps, wideKeys, modest, calm, conditions, laid).
  DERIVED. THE GIVEN ROWS OF THIS SEAT. 7 by the template 'for every input the law returns true; each argument reads behind the call as it read before'; 0 by the template 'total and deterministic' (their statements: YtaboamkfpolpbaaTotals.lean).
  GIVEN WITH THE SEED: the statements are not yours to turn. If you find one false, say at which input.
  Laid BY PROGRAM, IN A SANDBOX (cutbox-rows.mjs): the forced cells as the released guide's own fill.sh prints them over the translation 2815ff36c9477eb4… (all of the seat's roots in one cut). By AI agents, Wed Nov 11 2026. No macro, syntax, notation, axiom, sorry.
-/
import Derived.Test.YtaboamkfpolpbaaChecked
import GoSem.Claim
import GoSem.ClaimJoined
import GoSem.ClaimMapViews
import Derived.JoinedTies
import Derived.KernelRfl
namespace Go.Proofs.Ytaboamkfpolpbaa
/- THE CELL 'sum', in the pinned program and in every row, IS THE sha256 OF THE DUMP (.gsa) THAT YtaboamkfpolpbaaProg.lean LOADS. Nothing in Lean hashes anything: it is a label: what it is worth is what the hold of that sum in a sandbox is worth. -/
noncomputable def Try.pinned : Pinned := { name := "ytaboamkfpolpbaa", sum := "2815ff36c9477eb49f85f3af03e27f20014d627d03bebb17000999d8900a3164", checked := Try.checked }
namespace Rows
def none {H : Type} : Left H := { results := [], args := [] }

/-- 'copybooklaw07.WeaveBoths': WHATEVER THE INPUT: true; the input reads as it did. -/
def weaveBothsSpec : ChangeSpec := { name := "weaveBoths", fn := fun _ => fun
  | [d1, d2, d3] => { results := [.lit (.bool true)], args := [d1, d2, d3] }
  | _ => none }
def weaveBothsRow : OpenClaim := { program := "ytaboamkfpolpbaa", sum := "2815ff36c9477eb49f85f3af03e27f20014d627d03bebb17000999d8900a3164", func := "copybook/copybooklaw07.WeaveBoths", spec := "weaveBoths", inPlace := ["slices.overlaps[copybook/api.Char]"], unfollowed := true, recurses := true, apart := false }
def WeaveBothsSaid : Prop := weaveBothsRow.holds Try.pinned (OpenSpec.ofChange weaveBothsSpec)

/-- ITS FALSE NEIGHBOUR: 'it returns false'. Refute it at one input. -/
def weaveBothsWrong : ChangeSpec := { name := "weaveBoths", fn := fun _ => fun
  | [d1, d2, d3] => { results := [.lit (.bool false)], args := [d1, d2, d3] }
  | _ => none }
def WeaveBothsWrongFalsely : Prop := weaveBothsRow.holds Try.pinned (OpenSpec.ofChange weaveBothsWrong)

/-- 'copybooklaw07.WeaveSquare': WHATEVER THE INPUT: true; the input reads as it did. -/
def weaveSquareSpec : ChangeSpec := { name := "weaveSquare", fn := fun _ => fun
  | [d1, d2, d3] => { results := [.lit (.bool true)], args := [d1, d2, d3] }
  | _ => none }
def weaveSquareRow : OpenClaim := { program := "ytaboamkfpolpbaa", sum := "2815ff36c9477eb49f85f3af03e27f20014d627d03bebb17000999d8900a3164", func := "copybook/copybooklaw07.WeaveSquare", spec := "weaveSquare", inPlace := ["slices.overlaps[copybook/api.Char]"], unfollowed := true, recurses := true, apart := false }
def WeaveSquareSaid : Prop := weaveSquareRow.holds Try.pinned (OpenSpec.ofChange weaveSquareSpec)

/-- ITS FALSE NEIGHBOUR: 'it returns false'. Refute it at one input. -/
def weaveSquareWrong : ChangeSpec := { name := "weaveSquare", fn := fun _ => fun
  | [d1, d2, d3] => { results := [.lit (.bool false)], args := [d1, d2, d3] }
  | _ => none }
def WeaveSquareWrongFalsely : Prop := weaveSquareRow.holds Try.pinned (OpenSpec.ofChange weaveSquareWrong)

/-- 'copybooklaw07.WeaveParts': WHATEVER THE INPUT: true; the input reads as it did. -/
def weavePartsSpec : ChangeSpec := { name := "weaveParts", fn := fun _ => fun
  | [d1, d2, d3] => { results := [.lit (.bool true)], args := [d1, d2, d3] }
  | _ => none }
def weavePartsRow : OpenClaim := { program := "ytaboamkfpolpbaa", sum := "2815ff36c9477eb49f85f3af03e27f20014d627d03bebb17000999d8900a3164", func := "copybook/copybooklaw07.WeaveParts", spec := "weaveParts", inPlace := ["slices.overlaps[copybook/api.Char]"], unfollowed := true, recurses := true, apart := false }
def WeavePartsSaid : Prop := weavePartsRow.holds Try.pinned (OpenSpec.ofChange weavePartsSpec)

/-- ITS FALSE NEIGHBOUR: 'it returns false'. Refute it at one input. -/
def weavePartsWrong : ChangeSpec := { name := "weaveParts", fn := fun _ => fun
  | [d1, d2, d3] => { results := [.lit (.bool false)], args := [d1, d2, d3] }
  | _ => none }
def WeavePartsWrongFalsely : Prop := weavePartsRow.holds Try.pinned (OpenSpec.ofChange weavePartsWrong)

/-- 'copybooklaw07.WeaveSides': WHATEVER THE INPUT: true; the input reads as it did. -/
def weaveSidesSpec : ChangeSpec := { name := "weaveSides", fn := fun _ => fun
  | [d1, d2, d3] => { results := [.lit (.bool true)], args := [d1, d2, d3] }
  | _ => none }
def weaveSidesRow : OpenClaim := { program := "ytaboamkfpolpbaa", sum := "2815ff36c9477eb49f85f3af03e27f20014d627d03bebb17000999d8900a3164", func := "copybook/copybooklaw07.WeaveSides", spec := "weaveSides", inPlace := ["slices.overlaps[copybook/api.Char]"], unfollowed := true, recurses := true, apart := false }
def WeaveSidesSaid : Prop := weaveSidesRow.holds Try.pinned (OpenSpec.ofChange weaveSidesSpec)

/-- ITS FALSE NEIGHBOUR: 'it returns false'. Refute it at one input. -/
def weaveSidesWrong : ChangeSpec := { name := "weaveSides", fn := fun _ => fun
  | [d1, d2, d3] => { results := [.lit (.bool false)], args := [d1, d2, d3] }
  | _ => none }
def WeaveSidesWrongFalsely : Prop := weaveSidesRow.holds Try.pinned (OpenSpec.ofChange weaveSidesWrong)

/-- 'copybooklaw07.WeavePlaces': WHATEVER THE INPUT: true; the input reads as it did. -/
def weavePlacesSpec : ChangeSpec := { name := "weavePlaces", fn := fun _ => fun
  | [d1, d2, d3] => { results := [.lit (.bool true)], args := [d1, d2, d3] }
  | _ => none }
def weavePlacesRow : OpenClaim := { program := "ytaboamkfpolpbaa", sum := "2815ff36c9477eb49f85f3af03e27f20014d627d03bebb17000999d8900a3164", func := "copybook/copybooklaw07.WeavePlaces", spec := "weavePlaces", inPlace := ["slices.overlaps[copybook/api.Char]"], unfollowed := true, recurses := true, apart := false }
def WeavePlacesSaid : Prop := weavePlacesRow.holds Try.pinned (OpenSpec.ofChange weavePlacesSpec)

/-- ITS FALSE NEIGHBOUR: 'it returns false'. Refute it at one input. -/
def weavePlacesWrong : ChangeSpec := { name := "weavePlaces", fn := fun _ => fun
  | [d1, d2, d3] => { results := [.lit (.bool false)], args := [d1, d2, d3] }
  | _ => none }
def WeavePlacesWrongFalsely : Prop := weavePlacesRow.holds Try.pinned (OpenSpec.ofChange weavePlacesWrong)

/-- 'copybooklaw07.WeaveCarries': WHATEVER THE INPUT: true; the input reads as it did. -/
def weaveCarriesSpec : ChangeSpec := { name := "weaveCarries", fn := fun _ => fun
  | [d1, d2, d3] => { results := [.lit (.bool true)], args := [d1, d2, d3] }
  | _ => none }
def weaveCarriesRow : OpenClaim := { program := "ytaboamkfpolpbaa", sum := "2815ff36c9477eb49f85f3af03e27f20014d627d03bebb17000999d8900a3164", func := "copybook/copybooklaw07.WeaveCarries", spec := "weaveCarries", inPlace := ["slices.overlaps[copybook/api.Char]"], unfollowed := true, recurses := true, apart := false }
def WeaveCarriesSaid : Prop := weaveCarriesRow.holds Try.pinned (OpenSpec.ofChange weaveCarriesSpec)

/-- ITS FALSE NEIGHBOUR: 'it returns false'. Refute it at one input. -/
def weaveCarriesWrong : ChangeSpec := { name := "weaveCarries", fn := fun _ => fun
  | [d1, d2, d3] => { results := [.lit (.bool false)], args := [d1, d2, d3] }
  | _ => none }
def WeaveCarriesWrongFalsely : Prop := weaveCarriesRow.holds Try.pinned (OpenSpec.ofChange weaveCarriesWrong)

/-- 'copybooklaw07.WeaveKnown': WHATEVER THE INPUT: true; the input reads as it did. -/
def weaveKnownSpec : ChangeSpec := { name := "weaveKnown", fn := fun _ => fun
  | [] => { results := [.lit (.bool true)], args := [] }
  | _ => none }
def weaveKnownRow : OpenClaim := { program := "ytaboamkfpolpbaa", sum := "2815ff36c9477eb49f85f3af03e27f20014d627d03bebb17000999d8900a3164", func := "copybook/copybooklaw07.WeaveKnown", spec := "weaveKnown", inPlace := ["slices.overlaps[copybook/api.Char]"], unfollowed := true, recurses := true, apart := false }
def WeaveKnownSaid : Prop := weaveKnownRow.holds Try.pinned (OpenSpec.ofChange weaveKnownSpec)

/-- ITS FALSE NEIGHBOUR: 'it returns false'. Refute it at one input. -/
def weaveKnownWrong : ChangeSpec := { name := "weaveKnown", fn := fun _ => fun
  | [] => { results := [.lit (.bool false)], args := [] }
  | _ => none }
def WeaveKnownWrongFalsely : Prop := weaveKnownRow.holds Try.pinned (OpenSpec.ofChange weaveKnownWrong)

/- THE SECOND FORM. 'bulk': how many values and letters a reading holds, each counted each time it is reached (what is shared counts as often as it is met; a slice's spare places count too). A statement '..UptoSaid' is the law's where the arguments, and the package variables that the reading takes, are together of bulk at most 1048576: NARROWER than '..Said'. Prove '..Said' where nothing that the law and all that it calls make is longer than what came in: it says more and counts as full. Else prove '..UptoSaid'. A law counts once. -/
mutual
def uptoBulk {H : Type} : DataW H → Nat
  | .lit (.string bytes) => bytes.length + 1
  | .lit _ => 1
  | .nil => 1
  | .ptr d => uptoBulk d + 1
  | .slice elems spare => uptoBulkAll elems + uptoBulkAll spare + 1
  | .agg parts => uptoBulkAll parts + 1
  | .iface _ d => uptoBulk d + 1
  | .map entries => uptoBulkEntries entries + 1
  | .held _ => 1
def uptoBulkAll {H : Type} : List (DataW H) → Nat
  | [] => 0
  | d :: r => uptoBulk d + uptoBulkAll r
def uptoBulkEntries {H : Type} : List (Lit × DataW H) → Nat
  | [] => 0
  | x :: r => uptoBulkEntry x + uptoBulkEntries r
def uptoBulkEntry {H : Type} : Lit × DataW H → Nat
  | (.string bytes, d) => bytes.length + uptoBulk d + 1
  | (_, d) => uptoBulk d + 1
 end
def uptoSmall : (H : Type) → List (DataW H) → Bool := fun _ ds => decide (uptoBulkAll ds ≤ 1048576)
def OpenSpec.upto (s : _root_.Go.ChangeSpec) : _root_.Go.OpenSpec := { _root_.Go.OpenSpec.ofChange s with cond := some uptoSmall }

/-- 'copybooklaw07.WeaveBoths', WHERE WHAT IT READS IS OF BULK AT MOST 1048576: true; the input reads as it did. -/
def weaveBothsUptoRow : OpenClaim := { program := "ytaboamkfpolpbaa", sum := "2815ff36c9477eb49f85f3af03e27f20014d627d03bebb17000999d8900a3164", func := "copybook/copybooklaw07.WeaveBoths", spec := "weaveBoths", inPlace := ["slices.overlaps[copybook/api.Char]"], unfollowed := true, recurses := true, apart := false, narrowed := true }
def WeaveBothsUptoSaid : Prop := weaveBothsUptoRow.holds Try.pinned (OpenSpec.upto weaveBothsSpec)

/-- 'copybooklaw07.WeaveSquare', WHERE WHAT IT READS IS OF BULK AT MOST 1048576: true; the input reads as it did. -/
def weaveSquareUptoRow : OpenClaim := { program := "ytaboamkfpolpbaa", sum := "2815ff36c9477eb49f85f3af03e27f20014d627d03bebb17000999d8900a3164", func := "copybook/copybooklaw07.WeaveSquare", spec := "weaveSquare", inPlace := ["slices.overlaps[copybook/api.Char]"], unfollowed := true, recurses := true, apart := false, narrowed := true }
def WeaveSquareUptoSaid : Prop := weaveSquareUptoRow.holds Try.pinned (OpenSpec.upto weaveSquareSpec)

/-- 'copybooklaw07.WeaveParts', WHERE WHAT IT READS IS OF BULK AT MOST 1048576: true; the input reads as it did. -/
def weavePartsUptoRow : OpenClaim := { program := "ytaboamkfpolpbaa", sum := "2815ff36c9477eb49f85f3af03e27f20014d627d03bebb17000999d8900a3164", func := "copybook/copybooklaw07.WeaveParts", spec := "weaveParts", inPlace := ["slices.overlaps[copybook/api.Char]"], unfollowed := true, recurses := true, apart := false, narrowed := true }
def WeavePartsUptoSaid : Prop := weavePartsUptoRow.holds Try.pinned (OpenSpec.upto weavePartsSpec)

/-- 'copybooklaw07.WeaveSides', WHERE WHAT IT READS IS OF BULK AT MOST 1048576: true; the input reads as it did. -/
def weaveSidesUptoRow : OpenClaim := { program := "ytaboamkfpolpbaa", sum := "2815ff36c9477eb49f85f3af03e27f20014d627d03bebb17000999d8900a3164", func := "copybook/copybooklaw07.WeaveSides", spec := "weaveSides", inPlace := ["slices.overlaps[copybook/api.Char]"], unfollowed := true, recurses := true, apart := false, narrowed := true }
def WeaveSidesUptoSaid : Prop := weaveSidesUptoRow.holds Try.pinned (OpenSpec.upto weaveSidesSpec)

/-- 'copybooklaw07.WeavePlaces', WHERE WHAT IT READS IS OF BULK AT MOST 1048576: true; the input reads as it did. -/
def weavePlacesUptoRow : OpenClaim := { program := "ytaboamkfpolpbaa", sum := "2815ff36c9477eb49f85f3af03e27f20014d627d03bebb17000999d8900a3164", func := "copybook/copybooklaw07.WeavePlaces", spec := "weavePlaces", inPlace := ["slices.overlaps[copybook/api.Char]"], unfollowed := true, recurses := true, apart := false, narrowed := true }
def WeavePlacesUptoSaid : Prop := weavePlacesUptoRow.holds Try.pinned (OpenSpec.upto weavePlacesSpec)

/-- 'copybooklaw07.WeaveCarries', WHERE WHAT IT READS IS OF BULK AT MOST 1048576: true; the input reads as it did. -/
def weaveCarriesUptoRow : OpenClaim := { program := "ytaboamkfpolpbaa", sum := "2815ff36c9477eb49f85f3af03e27f20014d627d03bebb17000999d8900a3164", func := "copybook/copybooklaw07.WeaveCarries", spec := "weaveCarries", inPlace := ["slices.overlaps[copybook/api.Char]"], unfollowed := true, recurses := true, apart := false, narrowed := true }
def WeaveCarriesUptoSaid : Prop := weaveCarriesUptoRow.holds Try.pinned (OpenSpec.upto weaveCarriesSpec)

/-- 'copybooklaw07.WeaveKnown', WHERE WHAT IT READS IS OF BULK AT MOST 1048576: true; the input reads as it did. -/
def weaveKnownUptoRow : OpenClaim := { program := "ytaboamkfpolpbaa", sum := "2815ff36c9477eb49f85f3af03e27f20014d627d03bebb17000999d8900a3164", func := "copybook/copybooklaw07.WeaveKnown", spec := "weaveKnown", inPlace := ["slices.overlaps[copybook/api.Char]"], unfollowed := true, recurses := true, apart := false, narrowed := true }
def WeaveKnownUptoSaid : Prop := weaveKnownUptoRow.holds Try.pinned (OpenSpec.upto weaveKnownSpec)

end Rows
end Go.Proofs.Ytaboamkfpolpbaa
