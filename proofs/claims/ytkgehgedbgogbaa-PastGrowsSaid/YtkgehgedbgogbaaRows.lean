/-
  No cell of these rows narrows 'for every input' (looked for: loops, veiled, ifaces, maps, wideKeys, modest, calm, conditions, laid).
  DERIVED. THE GIVEN ROWS OF THIS SEAT. 4 by the template 'for every input the law returns true; each argument reads behind the call as it read before'; 0 by the template 'total and deterministic' (their statements: YtkgehgedbgogbaaTotals.lean).
  GIVEN WITH THE SEED: the statements are not yours to turn. If you find one false, say at which input.
  Laid BY PROGRAM, IN A SANDBOX (cutbox-rows.mjs): the forced cells as the released guide's own fill.sh prints them over the translation 4477d39388310612… (all of the seat's roots in one cut). By AI agents, Wed Nov 11 2026. No macro, syntax, notation, axiom, sorry.
-/
import Derived.Test.YtkgehgedbgogbaaChecked
import GoSem.Claim
import GoSem.ClaimJoined
import GoSem.ClaimMapViews
import Derived.JoinedTies
import Derived.KernelRfl
namespace Go.Proofs.Ytkgehgedbgogbaa
/- THE CELL 'sum', in the pinned program and in every row, IS THE sha256 OF THE DUMP (.gsa) THAT YtkgehgedbgogbaaProg.lean LOADS. Nothing in Lean hashes anything: it is a label: what it is worth is what the hold of that sum in a sandbox is worth. -/
noncomputable def Try.pinned : Pinned := { name := "ytkgehgedbgogbaa", sum := "4477d39388310612a0f383aadfe2df3d78f44813169b20c115bb0ad352aaace9", checked := Try.checked }
namespace Rows
def none {H : Type} : Left H := { results := [], args := [] }

/-- 'copybooklaw10.PastGrows': WHATEVER THE INPUT: true; the input reads as it did. -/
def pastGrowsSpec : ChangeSpec := { name := "pastGrows", fn := fun _ => fun
  | [d1, d2, d3, d4] => { results := [.lit (.bool true)], args := [d1, d2, d3, d4] }
  | _ => none }
def pastGrowsRow : OpenClaim := { program := "ytkgehgedbgogbaa", sum := "4477d39388310612a0f383aadfe2df3d78f44813169b20c115bb0ad352aaace9", func := "copybook/copybooklaw10.PastGrows", spec := "pastGrows", unfollowed := true, recurses := true, apart := false }
def PastGrowsSaid : Prop := pastGrowsRow.holds Try.pinned (OpenSpec.ofChange pastGrowsSpec)

/-- ITS FALSE NEIGHBOUR: 'it returns false'. Refute it at one input. -/
def pastGrowsWrong : ChangeSpec := { name := "pastGrows", fn := fun _ => fun
  | [d1, d2, d3, d4] => { results := [.lit (.bool false)], args := [d1, d2, d3, d4] }
  | _ => none }
def PastGrowsWrongFalsely : Prop := pastGrowsRow.holds Try.pinned (OpenSpec.ofChange pastGrowsWrong)

/-- 'copybooklaw10.PastUndone': WHATEVER THE INPUT: true; the input reads as it did. -/
def pastUndoneSpec : ChangeSpec := { name := "pastUndone", fn := fun _ => fun
  | [d1, d2] => { results := [.lit (.bool true)], args := [d1, d2] }
  | _ => none }
def pastUndoneRow : OpenClaim := { program := "ytkgehgedbgogbaa", sum := "4477d39388310612a0f383aadfe2df3d78f44813169b20c115bb0ad352aaace9", func := "copybook/copybooklaw10.PastUndone", spec := "pastUndone", unfollowed := true, recurses := true, apart := false }
def PastUndoneSaid : Prop := pastUndoneRow.holds Try.pinned (OpenSpec.ofChange pastUndoneSpec)

/-- ITS FALSE NEIGHBOUR: 'it returns false'. Refute it at one input. -/
def pastUndoneWrong : ChangeSpec := { name := "pastUndone", fn := fun _ => fun
  | [d1, d2] => { results := [.lit (.bool false)], args := [d1, d2] }
  | _ => none }
def PastUndoneWrongFalsely : Prop := pastUndoneRow.holds Try.pinned (OpenSpec.ofChange pastUndoneWrong)

/-- 'copybooklaw10.PastParts': WHATEVER THE INPUT: true; the input reads as it did. -/
def pastPartsSpec : ChangeSpec := { name := "pastParts", fn := fun _ => fun
  | [d1, d2, d3] => { results := [.lit (.bool true)], args := [d1, d2, d3] }
  | _ => none }
def pastPartsRow : OpenClaim := { program := "ytkgehgedbgogbaa", sum := "4477d39388310612a0f383aadfe2df3d78f44813169b20c115bb0ad352aaace9", func := "copybook/copybooklaw10.PastParts", spec := "pastParts", unfollowed := true, recurses := true, apart := false }
def PastPartsSaid : Prop := pastPartsRow.holds Try.pinned (OpenSpec.ofChange pastPartsSpec)

/-- ITS FALSE NEIGHBOUR: 'it returns false'. Refute it at one input. -/
def pastPartsWrong : ChangeSpec := { name := "pastParts", fn := fun _ => fun
  | [d1, d2, d3] => { results := [.lit (.bool false)], args := [d1, d2, d3] }
  | _ => none }
def PastPartsWrongFalsely : Prop := pastPartsRow.holds Try.pinned (OpenSpec.ofChange pastPartsWrong)

/-- 'copybooklaw10.PastKnown': WHATEVER THE INPUT: true; the input reads as it did. -/
def pastKnownSpec : ChangeSpec := { name := "pastKnown", fn := fun _ => fun
  | [] => { results := [.lit (.bool true)], args := [] }
  | _ => none }
def pastKnownRow : OpenClaim := { program := "ytkgehgedbgogbaa", sum := "4477d39388310612a0f383aadfe2df3d78f44813169b20c115bb0ad352aaace9", func := "copybook/copybooklaw10.PastKnown", spec := "pastKnown", unfollowed := true, recurses := true, apart := false }
def PastKnownSaid : Prop := pastKnownRow.holds Try.pinned (OpenSpec.ofChange pastKnownSpec)

/-- ITS FALSE NEIGHBOUR: 'it returns false'. Refute it at one input. -/
def pastKnownWrong : ChangeSpec := { name := "pastKnown", fn := fun _ => fun
  | [] => { results := [.lit (.bool false)], args := [] }
  | _ => none }
def PastKnownWrongFalsely : Prop := pastKnownRow.holds Try.pinned (OpenSpec.ofChange pastKnownWrong)

/- THE SECOND FORM. 'bulk': how many values and letters a reading holds, each counted each time it is reached (what is shared counts as often as it is met; a slice's spare places count too). A statement '..UptoSaid' is the law's where the arguments, and the package variables that the reading takes, are together of bulk at most 1048576: NARROWER than '..Said'. Prove '..Said' where nothing that the law and all that it calls make is longer than what came in: it says more and counts as full. Else prove '..UptoSaid'. A law counts once. -/
mutual
def uptoBulk {H : Type} : DataW H → Nat
  | .lit (.string bytes) => bytes.length + 1
  | .lit _ => 1
  | .nil => 1
  | .ptr d => uptoBulk d + 1
  | .slice elems spare => uptoBulkAll elems + uptoBulkAll spare + 1
  | .agg parts => uptoBulkAll parts + 1
  | .iface _ d => uptoBulk d + 1
  | .map entries => uptoBulkEntries entries + 1
  | .held _ => 1
def uptoBulkAll {H : Type} : List (DataW H) → Nat
  | [] => 0
  | d :: r => uptoBulk d + uptoBulkAll r
def uptoBulkEntries {H : Type} : List (Lit × DataW H) → Nat
  | [] => 0
  | x :: r => uptoBulkEntry x + uptoBulkEntries r
def uptoBulkEntry {H : Type} : Lit × DataW H → Nat
  | (.string bytes, d) => bytes.length + uptoBulk d + 1
  | (_, d) => uptoBulk d + 1
 end
def uptoSmall : (H : Type) → List (DataW H) → Bool := fun _ ds => decide (uptoBulkAll ds ≤ 1048576)
def OpenSpec.upto (s : _root_.Go.ChangeSpec) : _root_.Go.OpenSpec := { _root_.Go.OpenSpec.ofChange s with cond := some uptoSmall }

/-- 'copybooklaw10.PastGrows', WHERE WHAT IT READS IS OF BULK AT MOST 1048576: true; the input reads as it did. -/
def pastGrowsUptoRow : OpenClaim := { program := "ytkgehgedbgogbaa", sum := "4477d39388310612a0f383aadfe2df3d78f44813169b20c115bb0ad352aaace9", func := "copybook/copybooklaw10.PastGrows", spec := "pastGrows", unfollowed := true, recurses := true, apart := false, narrowed := true }
def PastGrowsUptoSaid : Prop := pastGrowsUptoRow.holds Try.pinned (OpenSpec.upto pastGrowsSpec)

/-- 'copybooklaw10.PastUndone', WHERE WHAT IT READS IS OF BULK AT MOST 1048576: true; the input reads as it did. -/
def pastUndoneUptoRow : OpenClaim := { program := "ytkgehgedbgogbaa", sum := "4477d39388310612a0f383aadfe2df3d78f44813169b20c115bb0ad352aaace9", func := "copybook/copybooklaw10.PastUndone", spec := "pastUndone", unfollowed := true, recurses := true, apart := false, narrowed := true }
def PastUndoneUptoSaid : Prop := pastUndoneUptoRow.holds Try.pinned (OpenSpec.upto pastUndoneSpec)

/-- 'copybooklaw10.PastParts', WHERE WHAT IT READS IS OF BULK AT MOST 1048576: true; the input reads as it did. -/
def pastPartsUptoRow : OpenClaim := { program := "ytkgehgedbgogbaa", sum := "4477d39388310612a0f383aadfe2df3d78f44813169b20c115bb0ad352aaace9", func := "copybook/copybooklaw10.PastParts", spec := "pastParts", unfollowed := true, recurses := true, apart := false, narrowed := true }
def PastPartsUptoSaid : Prop := pastPartsUptoRow.holds Try.pinned (OpenSpec.upto pastPartsSpec)

/-- 'copybooklaw10.PastKnown', WHERE WHAT IT READS IS OF BULK AT MOST 1048576: true; the input reads as it did. -/
def pastKnownUptoRow : OpenClaim := { program := "ytkgehgedbgogbaa", sum := "4477d39388310612a0f383aadfe2df3d78f44813169b20c115bb0ad352aaace9", func := "copybook/copybooklaw10.PastKnown", spec := "pastKnown", unfollowed := true, recurses := true, apart := false, narrowed := true }
def PastKnownUptoSaid : Prop := pastKnownUptoRow.holds Try.pinned (OpenSpec.upto pastKnownSpec)

end Rows
end Go.Proofs.Ytkgehgedbgogbaa
