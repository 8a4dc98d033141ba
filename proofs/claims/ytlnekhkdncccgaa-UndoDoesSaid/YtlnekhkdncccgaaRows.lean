/-
  No cell of these rows narrows 'for every input' (looked for: loops, veiled, ifaces, maps, wideKeys, modest, calm, conditions, laid).
  DERIVED. THE GIVEN ROWS OF THIS SEAT. 6 by the template 'for every input the law returns true; each argument reads behind the call as it read before'; 0 by the template 'total and deterministic' (their statements: YtlnekhkdncccgaaTotals.lean).
  GIVEN WITH THE SEED: the statements are not yours to turn. If you find one false, say at which input.
  Laid BY PROGRAM, IN A SANDBOX (cutbox-rows.mjs): the forced cells as the released guide's own fill.sh prints them over the translation 941f0007c11fb9b9… (all of the seat's roots in one cut). By AI agents, Wed Nov 11 2026. No macro, syntax, notation, axiom, sorry.
-/
import Derived.Test.YtlnekhkdncccgaaChecked
import GoSem.Claim
import GoSem.ClaimJoined
import GoSem.ClaimMapViews
import Derived.JoinedTies
import Derived.KernelRfl
namespace Go.Proofs.Ytlnekhkdncccgaa
/- THE CELL 'sum', in the pinned program and in every row, IS THE sha256 OF THE DUMP (.gsa) THAT YtlnekhkdncccgaaProg.lean LOADS. Nothing in Lean hashes anything: it is a label: what it is worth is what the hold of that sum in a sandbox is worth. -/
noncomputable def Try.pinned : Pinned := { name := "ytlnekhkdncccgaa", sum := "941f0007c11fb9b9ca0f95e04a30f56ca7b7bf6960cc15346fc127110cbd0568", checked := Try.checked }
namespace Rows
def none {H : Type} : Left H := { results := [], args := [] }

/-- 'copybooklaw09.UndoDoes': WHATEVER THE INPUT: true; the input reads as it did. -/
def undoDoesSpec : ChangeSpec := { name := "undoDoes", fn := fun _ => fun
  | [d1, d2, d3] => { results := [.lit (.bool true)], args := [d1, d2, d3] }
  | _ => none }
def undoDoesRow : OpenClaim := { program := "ytlnekhkdncccgaa", sum := "941f0007c11fb9b9ca0f95e04a30f56ca7b7bf6960cc15346fc127110cbd0568", func := "copybook/copybooklaw09.UndoDoes", spec := "undoDoes", inPlace := ["slices.overlaps[copybook/api.Char]"], unfollowed := true, recurses := true, apart := false }
def UndoDoesSaid : Prop := undoDoesRow.holds Try.pinned (OpenSpec.ofChange undoDoesSpec)

/-- ITS FALSE NEIGHBOUR: 'it returns false'. Refute it at one input. -/
def undoDoesWrong : ChangeSpec := { name := "undoDoes", fn := fun _ => fun
  | [d1, d2, d3] => { results := [.lit (.bool false)], args := [d1, d2, d3] }
  | _ => none }
def UndoDoesWrongFalsely : Prop := undoDoesRow.holds Try.pinned (OpenSpec.ofChange undoDoesWrong)

/-- 'copybooklaw09.UndoBack': WHATEVER THE INPUT: true; the input reads as it did. -/
def undoBackSpec : ChangeSpec := { name := "undoBack", fn := fun _ => fun
  | [d1, d2] => { results := [.lit (.bool true)], args := [d1, d2] }
  | _ => none }
def undoBackRow : OpenClaim := { program := "ytlnekhkdncccgaa", sum := "941f0007c11fb9b9ca0f95e04a30f56ca7b7bf6960cc15346fc127110cbd0568", func := "copybook/copybooklaw09.UndoBack", spec := "undoBack", inPlace := ["slices.overlaps[copybook/api.Char]"], unfollowed := true, recurses := true, apart := false }
def UndoBackSaid : Prop := undoBackRow.holds Try.pinned (OpenSpec.ofChange undoBackSpec)

/-- ITS FALSE NEIGHBOUR: 'it returns false'. Refute it at one input. -/
def undoBackWrong : ChangeSpec := { name := "undoBack", fn := fun _ => fun
  | [d1, d2] => { results := [.lit (.bool false)], args := [d1, d2] }
  | _ => none }
def UndoBackWrongFalsely : Prop := undoBackRow.holds Try.pinned (OpenSpec.ofChange undoBackWrong)

/-- 'copybooklaw09.UndoSelects': WHATEVER THE INPUT: true; the input reads as it did. -/
def undoSelectsSpec : ChangeSpec := { name := "undoSelects", fn := fun _ => fun
  | [d1, d2, d3] => { results := [.lit (.bool true)], args := [d1, d2, d3] }
  | _ => none }
def undoSelectsRow : OpenClaim := { program := "ytlnekhkdncccgaa", sum := "941f0007c11fb9b9ca0f95e04a30f56ca7b7bf6960cc15346fc127110cbd0568", func := "copybook/copybooklaw09.UndoSelects", spec := "undoSelects", inPlace := ["slices.overlaps[copybook/api.Char]"], unfollowed := true, recurses := true, apart := false }
def UndoSelectsSaid : Prop := undoSelectsRow.holds Try.pinned (OpenSpec.ofChange undoSelectsSpec)

/-- ITS FALSE NEIGHBOUR: 'it returns false'. Refute it at one input. -/
def undoSelectsWrong : ChangeSpec := { name := "undoSelects", fn := fun _ => fun
  | [d1, d2, d3] => { results := [.lit (.bool false)], args := [d1, d2, d3] }
  | _ => none }
def UndoSelectsWrongFalsely : Prop := undoSelectsRow.holds Try.pinned (OpenSpec.ofChange undoSelectsWrong)

/-- 'copybooklaw09.UndoAlone': WHATEVER THE INPUT: true; the input reads as it did. -/
def undoAloneSpec : ChangeSpec := { name := "undoAlone", fn := fun _ => fun
  | [d1, d2, d3] => { results := [.lit (.bool true)], args := [d1, d2, d3] }
  | _ => none }
def undoAloneRow : OpenClaim := { program := "ytlnekhkdncccgaa", sum := "941f0007c11fb9b9ca0f95e04a30f56ca7b7bf6960cc15346fc127110cbd0568", func := "copybook/copybooklaw09.UndoAlone", spec := "undoAlone", inPlace := ["slices.overlaps[copybook/api.Char]"], unfollowed := true, recurses := true, apart := false }
def UndoAloneSaid : Prop := undoAloneRow.holds Try.pinned (OpenSpec.ofChange undoAloneSpec)

/-- ITS FALSE NEIGHBOUR: 'it returns false'. Refute it at one input. -/
def undoAloneWrong : ChangeSpec := { name := "undoAlone", fn := fun _ => fun
  | [d1, d2, d3] => { results := [.lit (.bool false)], args := [d1, d2, d3] }
  | _ => none }
def UndoAloneWrongFalsely : Prop := undoAloneRow.holds Try.pinned (OpenSpec.ofChange undoAloneWrong)

/-- 'copybooklaw09.UndoBoth': WHATEVER THE INPUT: true; the input reads as it did. -/
def undoBothSpec : ChangeSpec := { name := "undoBoth", fn := fun _ => fun
  | [d1, d2, d3] => { results := [.lit (.bool true)], args := [d1, d2, d3] }
  | _ => none }
def undoBothRow : OpenClaim := { program := "ytlnekhkdncccgaa", sum := "941f0007c11fb9b9ca0f95e04a30f56ca7b7bf6960cc15346fc127110cbd0568", func := "copybook/copybooklaw09.UndoBoth", spec := "undoBoth", inPlace := ["slices.overlaps[copybook/api.Char]"], unfollowed := true, recurses := true, apart := false }
def UndoBothSaid : Prop := undoBothRow.holds Try.pinned (OpenSpec.ofChange undoBothSpec)

/-- ITS FALSE NEIGHBOUR: 'it returns false'. Refute it at one input. -/
def undoBothWrong : ChangeSpec := { name := "undoBoth", fn := fun _ => fun
  | [d1, d2, d3] => { results := [.lit (.bool false)], args := [d1, d2, d3] }
  | _ => none }
def UndoBothWrongFalsely : Prop := undoBothRow.holds Try.pinned (OpenSpec.ofChange undoBothWrong)

/-- 'copybooklaw09.UndoKnown': WHATEVER THE INPUT: true; the input reads as it did. -/
def undoKnownSpec : ChangeSpec := { name := "undoKnown", fn := fun _ => fun
  | [] => { results := [.lit (.bool true)], args := [] }
  | _ => none }
def undoKnownRow : OpenClaim := { program := "ytlnekhkdncccgaa", sum := "941f0007c11fb9b9ca0f95e04a30f56ca7b7bf6960cc15346fc127110cbd0568", func := "copybook/copybooklaw09.UndoKnown", spec := "undoKnown", inPlace := ["slices.overlaps[copybook/api.Char]"], unfollowed := true, recurses := true, apart := false }
def UndoKnownSaid : Prop := undoKnownRow.holds Try.pinned (OpenSpec.ofChange undoKnownSpec)

/-- ITS FALSE NEIGHBOUR: 'it returns false'. Refute it at one input. -/
def undoKnownWrong : ChangeSpec := { name := "undoKnown", fn := fun _ => fun
  | [] => { results := [.lit (.bool false)], args := [] }
  | _ => none }
def UndoKnownWrongFalsely : Prop := undoKnownRow.holds Try.pinned (OpenSpec.ofChange undoKnownWrong)

/- THE SECOND FORM. 'bulk': how many values and letters a reading holds, each counted each time it is reached (what is shared counts as often as it is met; a slice's spare places count too). A statement '..UptoSaid' is the law's where the arguments, and the package variables that the reading takes, are together of bulk at most 1048576: NARROWER than '..Said'. Prove '..Said' where nothing that the law and all that it calls make is longer than what came in: it says more and counts as full. Else prove '..UptoSaid'. A law counts once. -/
mutual
def uptoBulk {H : Type} : DataW H → Nat
  | .lit (.string bytes) => bytes.length + 1
  | .lit _ => 1
  | .nil => 1
  | .ptr d => uptoBulk d + 1
  | .slice elems spare => uptoBulkAll elems + uptoBulkAll spare + 1
  | .agg parts => uptoBulkAll parts + 1
  | .iface _ d => uptoBulk d + 1
  | .map entries => uptoBulkEntries entries + 1
  | .held _ => 1
def uptoBulkAll {H : Type} : List (DataW H) → Nat
  | [] => 0
  | d :: r => uptoBulk d + uptoBulkAll r
def uptoBulkEntries {H : Type} : List (Lit × DataW H) → Nat
  | [] => 0
  | x :: r => uptoBulkEntry x + uptoBulkEntries r
def uptoBulkEntry {H : Type} : Lit × DataW H → Nat
  | (.string bytes, d) => bytes.length + uptoBulk d + 1
  | (_, d) => uptoBulk d + 1
 end
def uptoSmall : (H : Type) → List (DataW H) → Bool := fun _ ds => decide (uptoBulkAll ds ≤ 1048576)
def OpenSpec.upto (s : _root_.Go.ChangeSpec) : _root_.Go.OpenSpec := { _root_.Go.OpenSpec.ofChange s with cond := some uptoSmall }

/-- 'copybooklaw09.UndoDoes', WHERE WHAT IT READS IS OF BULK AT MOST 1048576: true; the input reads as it did. -/
def undoDoesUptoRow : OpenClaim := { program := "ytlnekhkdncccgaa", sum := "941f0007c11fb9b9ca0f95e04a30f56ca7b7bf6960cc15346fc127110cbd0568", func := "copybook/copybooklaw09.UndoDoes", spec := "undoDoes", inPlace := ["slices.overlaps[copybook/api.Char]"], unfollowed := true, recurses := true, apart := false, narrowed := true }
def UndoDoesUptoSaid : Prop := undoDoesUptoRow.holds Try.pinned (OpenSpec.upto undoDoesSpec)

/-- 'copybooklaw09.UndoBack', WHERE WHAT IT READS IS OF BULK AT MOST 1048576: true; the input reads as it did. -/
def undoBackUptoRow : OpenClaim := { program := "ytlnekhkdncccgaa", sum := "941f0007c11fb9b9ca0f95e04a30f56ca7b7bf6960cc15346fc127110cbd0568", func := "copybook/copybooklaw09.UndoBack", spec := "undoBack", inPlace := ["slices.overlaps[copybook/api.Char]"], unfollowed := true, recurses := true, apart := false, narrowed := true }
def UndoBackUptoSaid : Prop := undoBackUptoRow.holds Try.pinned (OpenSpec.upto undoBackSpec)

/-- 'copybooklaw09.UndoSelects', WHERE WHAT IT READS IS OF BULK AT MOST 1048576: true; the input reads as it did. -/
def undoSelectsUptoRow : OpenClaim := { program := "ytlnekhkdncccgaa", sum := "941f0007c11fb9b9ca0f95e04a30f56ca7b7bf6960cc15346fc127110cbd0568", func := "copybook/copybooklaw09.UndoSelects", spec := "undoSelects", inPlace := ["slices.overlaps[copybook/api.Char]"], unfollowed := true, recurses := true, apart := false, narrowed := true }
def UndoSelectsUptoSaid : Prop := undoSelectsUptoRow.holds Try.pinned (OpenSpec.upto undoSelectsSpec)

/-- 'copybooklaw09.UndoAlone', WHERE WHAT IT READS IS OF BULK AT MOST 1048576: true; the input reads as it did. -/
def undoAloneUptoRow : OpenClaim := { program := "ytlnekhkdncccgaa", sum := "941f0007c11fb9b9ca0f95e04a30f56ca7b7bf6960cc15346fc127110cbd0568", func := "copybook/copybooklaw09.UndoAlone", spec := "undoAlone", inPlace := ["slices.overlaps[copybook/api.Char]"], unfollowed := true, recurses := true, apart := false, narrowed := true }
def UndoAloneUptoSaid : Prop := undoAloneUptoRow.holds Try.pinned (OpenSpec.upto undoAloneSpec)

/-- 'copybooklaw09.UndoBoth', WHERE WHAT IT READS IS OF BULK AT MOST 1048576: true; the input reads as it did. -/
def undoBothUptoRow : OpenClaim := { program := "ytlnekhkdncccgaa", sum := "941f0007c11fb9b9ca0f95e04a30f56ca7b7bf6960cc15346fc127110cbd0568", func := "copybook/copybooklaw09.UndoBoth", spec := "undoBoth", inPlace := ["slices.overlaps[copybook/api.Char]"], unfollowed := true, recurses := true, apart := false, narrowed := true }
def UndoBothUptoSaid : Prop := undoBothUptoRow.holds Try.pinned (OpenSpec.upto undoBothSpec)

/-- 'copybooklaw09.UndoKnown', WHERE WHAT IT READS IS OF BULK AT MOST 1048576: true; the input reads as it did. -/
def undoKnownUptoRow : OpenClaim := { program := "ytlnekhkdncccgaa", sum := "941f0007c11fb9b9ca0f95e04a30f56ca7b7bf6960cc15346fc127110cbd0568", func := "copybook/copybooklaw09.UndoKnown", spec := "undoKnown", inPlace := ["slices.overlaps[copybook/api.Char]"], unfollowed := true, recurses := true, apart := false, narrowed := true }
def UndoKnownUptoSaid : Prop := undoKnownUptoRow.holds Try.pinned (OpenSpec.upto undoKnownSpec)

end Rows
end Go.Proofs.Ytlnekhkdncccgaa
