/-
  No cell of these rows narrows 'for every input' (looked for: loops, veiled, ifaces, maps, wideKeys, modest, calm, conditions, laid).
  DERIVED. THE GIVEN ROWS OF THIS SEAT. 6 by the template 'for every input the law returns true; each argument reads behind the call as it read before'; 0 by the template 'total and deterministic' (their statements: YthnenmglmebljaaTotals.lean).
  GIVEN WITH THE SEED: the statements are not yours to turn. If you find one false, say at which input.
  Laid BY PROGRAM, IN A SANDBOX (cutbox-rows.mjs): the forced cells as the released guide's own fill.sh prints them over the translation d326bff86893c1d1… (all of the seat's roots in one cut). By AI agents, Wed Nov 11 2026. No macro, syntax, notation, axiom, sorry.
-/
import Derived.Test.YthnenmglmebljaaChecked
import GoSem.Claim
import GoSem.ClaimJoined
import GoSem.ClaimMapViews
import Derived.JoinedTies
import Derived.KernelRfl
namespace Go.Proofs.Ythnenmglmebljaa
/- THE CELL 'sum', in the pinned program and in every row, IS THE sha256 OF THE DUMP (.gsa) THAT YthnenmglmebljaaProg.lean LOADS. Nothing in Lean hashes anything: it is a label: what it is worth is what the hold of that sum in a sandbox is worth. -/
noncomputable def Try.pinned : Pinned := { name := "ythnenmglmebljaa", sum := "d326bff86893c1d1b0c38ad2c41a7b403a8abb6a528ab5e204f183a99d633de1", checked := Try.checked }
namespace Rows
def none {H : Type} : Left H := { results := [], args := [] }

/-- 'copybooklaw08.EditMakes': WHATEVER THE INPUT: true; the input reads as it did. -/
def editMakesSpec : ChangeSpec := { name := "editMakes", fn := fun _ => fun
  | [d1, d2, d3, d4] => { results := [.lit (.bool true)], args := [d1, d2, d3, d4] }
  | _ => none }
def editMakesRow : OpenClaim := { program := "ythnenmglmebljaa", sum := "d326bff86893c1d1b0c38ad2c41a7b403a8abb6a528ab5e204f183a99d633de1", func := "copybook/copybooklaw08.EditMakes", spec := "editMakes", unfollowed := true, recurses := true, apart := false }
def EditMakesSaid : Prop := editMakesRow.holds Try.pinned (OpenSpec.ofChange editMakesSpec)

/-- ITS FALSE NEIGHBOUR: 'it returns false'. Refute it at one input. -/
def editMakesWrong : ChangeSpec := { name := "editMakes", fn := fun _ => fun
  | [d1, d2, d3, d4] => { results := [.lit (.bool false)], args := [d1, d2, d3, d4] }
  | _ => none }
def EditMakesWrongFalsely : Prop := editMakesRow.holds Try.pinned (OpenSpec.ofChange editMakesWrong)

/-- 'copybooklaw08.EditBack': WHATEVER THE INPUT: true; the input reads as it did. -/
def editBackSpec : ChangeSpec := { name := "editBack", fn := fun _ => fun
  | [d] => { results := [.lit (.bool true)], args := [d] }
  | _ => none }
def editBackRow : OpenClaim := { program := "ythnenmglmebljaa", sum := "d326bff86893c1d1b0c38ad2c41a7b403a8abb6a528ab5e204f183a99d633de1", func := "copybook/copybooklaw08.EditBack", spec := "editBack", unfollowed := true, recurses := true, apart := false }
def EditBackSaid : Prop := editBackRow.holds Try.pinned (OpenSpec.ofChange editBackSpec)

/-- ITS FALSE NEIGHBOUR: 'it returns false'. Refute it at one input. -/
def editBackWrong : ChangeSpec := { name := "editBack", fn := fun _ => fun
  | [d] => { results := [.lit (.bool false)], args := [d] }
  | _ => none }
def EditBackWrongFalsely : Prop := editBackRow.holds Try.pinned (OpenSpec.ofChange editBackWrong)

/-- 'copybooklaw08.EditLeaves': WHATEVER THE INPUT: true; the input reads as it did. -/
def editLeavesSpec : ChangeSpec := { name := "editLeaves", fn := fun _ => fun
  | [d1, d2, d3, d4, d5] => { results := [.lit (.bool true)], args := [d1, d2, d3, d4, d5] }
  | _ => none }
def editLeavesRow : OpenClaim := { program := "ythnenmglmebljaa", sum := "d326bff86893c1d1b0c38ad2c41a7b403a8abb6a528ab5e204f183a99d633de1", func := "copybook/copybooklaw08.EditLeaves", spec := "editLeaves", unfollowed := true, recurses := true, apart := false }
def EditLeavesSaid : Prop := editLeavesRow.holds Try.pinned (OpenSpec.ofChange editLeavesSpec)

/-- ITS FALSE NEIGHBOUR: 'it returns false'. Refute it at one input. -/
def editLeavesWrong : ChangeSpec := { name := "editLeaves", fn := fun _ => fun
  | [d1, d2, d3, d4, d5] => { results := [.lit (.bool false)], args := [d1, d2, d3, d4, d5] }
  | _ => none }
def EditLeavesWrongFalsely : Prop := editLeavesRow.holds Try.pinned (OpenSpec.ofChange editLeavesWrong)

/-- 'copybooklaw08.EditClean': WHATEVER THE INPUT: true; the input reads as it did. -/
def editCleanSpec : ChangeSpec := { name := "editClean", fn := fun _ => fun
  | [d1, d2] => { results := [.lit (.bool true)], args := [d1, d2] }
  | _ => none }
def editCleanRow : OpenClaim := { program := "ythnenmglmebljaa", sum := "d326bff86893c1d1b0c38ad2c41a7b403a8abb6a528ab5e204f183a99d633de1", func := "copybook/copybooklaw08.EditClean", spec := "editClean", unfollowed := true, recurses := true, apart := false }
def EditCleanSaid : Prop := editCleanRow.holds Try.pinned (OpenSpec.ofChange editCleanSpec)

/-- ITS FALSE NEIGHBOUR: 'it returns false'. Refute it at one input. -/
def editCleanWrong : ChangeSpec := { name := "editClean", fn := fun _ => fun
  | [d1, d2] => { results := [.lit (.bool false)], args := [d1, d2] }
  | _ => none }
def EditCleanWrongFalsely : Prop := editCleanRow.holds Try.pinned (OpenSpec.ofChange editCleanWrong)

/-- 'copybooklaw08.EditJoins': WHATEVER THE INPUT: true; the input reads as it did. -/
def editJoinsSpec : ChangeSpec := { name := "editJoins", fn := fun _ => fun
  | [d1, d2] => { results := [.lit (.bool true)], args := [d1, d2] }
  | _ => none }
def editJoinsRow : OpenClaim := { program := "ythnenmglmebljaa", sum := "d326bff86893c1d1b0c38ad2c41a7b403a8abb6a528ab5e204f183a99d633de1", func := "copybook/copybooklaw08.EditJoins", spec := "editJoins", unfollowed := true, recurses := true, apart := false }
def EditJoinsSaid : Prop := editJoinsRow.holds Try.pinned (OpenSpec.ofChange editJoinsSpec)

/-- ITS FALSE NEIGHBOUR: 'it returns false'. Refute it at one input. -/
def editJoinsWrong : ChangeSpec := { name := "editJoins", fn := fun _ => fun
  | [d1, d2] => { results := [.lit (.bool false)], args := [d1, d2] }
  | _ => none }
def EditJoinsWrongFalsely : Prop := editJoinsRow.holds Try.pinned (OpenSpec.ofChange editJoinsWrong)

/-- 'copybooklaw08.EditKnown': WHATEVER THE INPUT: true; the input reads as it did. -/
def editKnownSpec : ChangeSpec := { name := "editKnown", fn := fun _ => fun
  | [] => { results := [.lit (.bool true)], args := [] }
  | _ => none }
def editKnownRow : OpenClaim := { program := "ythnenmglmebljaa", sum := "d326bff86893c1d1b0c38ad2c41a7b403a8abb6a528ab5e204f183a99d633de1", func := "copybook/copybooklaw08.EditKnown", spec := "editKnown", unfollowed := true, recurses := true, apart := false }
def EditKnownSaid : Prop := editKnownRow.holds Try.pinned (OpenSpec.ofChange editKnownSpec)

/-- ITS FALSE NEIGHBOUR: 'it returns false'. Refute it at one input. -/
def editKnownWrong : ChangeSpec := { name := "editKnown", fn := fun _ => fun
  | [] => { results := [.lit (.bool false)], args := [] }
  | _ => none }
def EditKnownWrongFalsely : Prop := editKnownRow.holds Try.pinned (OpenSpec.ofChange editKnownWrong)

/- THE SECOND FORM. 'bulk': how many values and letters a reading holds, each counted each time it is reached (what is shared counts as often as it is met; a slice's spare places count too). A statement '..UptoSaid' is the law's where the arguments, and the package variables that the reading takes, are together of bulk at most 1048576: NARROWER than '..Said'. Prove '..Said' where nothing that the law and all that it calls make is longer than what came in: it says more and counts as full. Else prove '..UptoSaid'. A law counts once. -/
mutual
def uptoBulk {H : Type} : DataW H → Nat
  | .lit (.string bytes) => bytes.length + 1
  | .lit _ => 1
  | .nil => 1
  | .ptr d => uptoBulk d + 1
  | .slice elems spare => uptoBulkAll elems + uptoBulkAll spare + 1
  | .agg parts => uptoBulkAll parts + 1
  | .iface _ d => uptoBulk d + 1
  | .map entries => uptoBulkEntries entries + 1
  | .held _ => 1
def uptoBulkAll {H : Type} : List (DataW H) → Nat
  | [] => 0
  | d :: r => uptoBulk d + uptoBulkAll r
def uptoBulkEntries {H : Type} : List (Lit × DataW H) → Nat
  | [] => 0
  | x :: r => uptoBulkEntry x + uptoBulkEntries r
def uptoBulkEntry {H : Type} : Lit × DataW H → Nat
  | (.string bytes, d) => bytes.length + uptoBulk d + 1
  | (_, d) => uptoBulk d + 1
 end
def uptoSmall : (H : Type) → List (DataW H) → Bool := fun _ ds => decide (uptoBulkAll ds ≤ 1048576)
def OpenSpec.upto (s : _root_.Go.ChangeSpec) : _root_.Go.OpenSpec := { _root_.Go.OpenSpec.ofChange s with cond := some uptoSmall }

/-- 'copybooklaw08.EditMakes', WHERE WHAT IT READS IS OF BULK AT MOST 1048576: true; the input reads as it did. -/
def editMakesUptoRow : OpenClaim := { program := "ythnenmglmebljaa", sum := "d326bff86893c1d1b0c38ad2c41a7b403a8abb6a528ab5e204f183a99d633de1", func := "copybook/copybooklaw08.EditMakes", spec := "editMakes", unfollowed := true, recurses := true, apart := false, narrowed := true }
def EditMakesUptoSaid : Prop := editMakesUptoRow.holds Try.pinned (OpenSpec.upto editMakesSpec)

/-- 'copybooklaw08.EditBack', WHERE WHAT IT READS IS OF BULK AT MOST 1048576: true; the input reads as it did. -/
def editBackUptoRow : OpenClaim := { program := "ythnenmglmebljaa", sum := "d326bff86893c1d1b0c38ad2c41a7b403a8abb6a528ab5e204f183a99d633de1", func := "copybook/copybooklaw08.EditBack", spec := "editBack", unfollowed := true, recurses := true, apart := false, narrowed := true }
def EditBackUptoSaid : Prop := editBackUptoRow.holds Try.pinned (OpenSpec.upto editBackSpec)

/-- 'copybooklaw08.EditLeaves', WHERE WHAT IT READS IS OF BULK AT MOST 1048576: true; the input reads as it did. -/
def editLeavesUptoRow : OpenClaim := { program := "ythnenmglmebljaa", sum := "d326bff86893c1d1b0c38ad2c41a7b403a8abb6a528ab5e204f183a99d633de1", func := "copybook/copybooklaw08.EditLeaves", spec := "editLeaves", unfollowed := true, recurses := true, apart := false, narrowed := true }
def EditLeavesUptoSaid : Prop := editLeavesUptoRow.holds Try.pinned (OpenSpec.upto editLeavesSpec)

/-- 'copybooklaw08.EditClean', WHERE WHAT IT READS IS OF BULK AT MOST 1048576: true; the input reads as it did. -/
def editCleanUptoRow : OpenClaim := { program := "ythnenmglmebljaa", sum := "d326bff86893c1d1b0c38ad2c41a7b403a8abb6a528ab5e204f183a99d633de1", func := "copybook/copybooklaw08.EditClean", spec := "editClean", unfollowed := true, recurses := true, apart := false, narrowed := true }
def EditCleanUptoSaid : Prop := editCleanUptoRow.holds Try.pinned (OpenSpec.upto editCleanSpec)

/-- 'copybooklaw08.EditJoins', WHERE WHAT IT READS IS OF BULK AT MOST 1048576: true; the input reads as it did. -/
def editJoinsUptoRow : OpenClaim := { program := "ythnenmglmebljaa", sum := "d326bff86893c1d1b0c38ad2c41a7b403a8abb6a528ab5e204f183a99d633de1", func := "copybook/copybooklaw08.EditJoins", spec := "editJoins", unfollowed := true, recurses := true, apart := false, narrowed := true }
def EditJoinsUptoSaid : Prop := editJoinsUptoRow.holds Try.pinned (OpenSpec.upto editJoinsSpec)

/-- 'copybooklaw08.EditKnown', WHERE WHAT IT READS IS OF BULK AT MOST 1048576: true; the input reads as it did. -/
def editKnownUptoRow : OpenClaim := { program := "ythnenmglmebljaa", sum := "d326bff86893c1d1b0c38ad2c41a7b403a8abb6a528ab5e204f183a99d633de1", func := "copybook/copybooklaw08.EditKnown", spec := "editKnown", unfollowed := true, recurses := true, apart := false, narrowed := true }
def EditKnownUptoSaid : Prop := editKnownUptoRow.holds Try.pinned (OpenSpec.upto editKnownSpec)

end Rows
end Go.Proofs.Ythnenmglmebljaa
