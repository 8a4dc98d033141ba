/-
  NARROWER THAN 'FOR EVERY INPUT', by the rows' own cells (each row's printed sentence says how): UtfCalls: laid · UtfBack: laid · UtfOrder: laid · UtfParts: laid · UtfSizes: laid · UtfKnown: laid.
  DERIVED. THE GIVEN ROWS OF THIS SEAT. 6 by the template 'for every input the law returns true; each argument reads behind the call as it read before'; 0 by the template 'total and deterministic' (their statements: YtillndchojaniaaDoorTotals.lean).
  GIVEN WITH THE SEED: the statements are not yours to turn. If you find one false, say at which input.
  Laid BY PROGRAM, IN A SANDBOX (cutbox-rows.mjs): the forced cells as the released guide's own fill.sh prints them over the translation dfff810a1fa6cbc6… (all of the seat's roots in one cut). By AI agents, Wed Nov 11 2026. No macro, syntax, notation, axiom, sorry.
-/
import Derived.Test.YtillndchojaniaaDoorChecked
import GoSem.Claim
import GoSem.ClaimJoined
import GoSem.ClaimMapViews
import Derived.JoinedTies
import Derived.KernelRfl
namespace Go.Proofs.YtillndchojaniaaDoor
/- THE CELL 'sum', in the pinned program and in every row, IS THE sha256 OF THE DUMP (.gsa) THAT YtillndchojaniaaDoorProg.lean LOADS. Nothing in Lean hashes anything: it is a label: what it is worth is what the hold of that sum in a sandbox is worth. -/
noncomputable def Tryd.pinned : Pinned := { name := "ytillndchojaniaadoor", sum := "dfff810a1fa6cbc66def974ae1e197e0f8dadc91938a81454e521151c446b32c", checked := Tryd.checked }
namespace Rows
def none {H : Type} : Left H := { results := [], args := [] }

/- WHAT THE LISTED PACKAGE-LEVEL VARIABLES READ AS WHEN THE CALL BEGINS. Each datum BY PROGRAM (the guide's laid-datum.mjs) off the statement by which the dump's own 'gosem.cut.vars' lays the variable. In a bare row this is a premise. The card (YtillndchojaniaaDoorCards.lean) ties it to the program's text. -/
def laid_copybook_utf_sizes {H : Type} : DataW H := .agg [.lit (.int .i64 1), .lit (.int .i64 1), .lit (.int .i64 1), .lit (.int .i64 1), .lit (.int .i64 1), .lit (.int .i64 1), .lit (.int .i64 1), .lit (.int .i64 1), .lit (.int .i64 1), .lit (.int .i64 1), .lit (.int .i64 1), .lit (.int .i64 1), .lit (.int .i64 1), .lit (.int .i64 1), .lit (.int .i64 1), .lit (.int .i64 1), .lit (.int .i64 0), .lit (.int .i64 0), .lit (.int .i64 0), .lit (.int .i64 0), .lit (.int .i64 0), .lit (.int .i64 0), .lit (.int .i64 0), .lit (.int .i64 0), .lit (.int .i64 2), .lit (.int .i64 2), .lit (.int .i64 2), .lit (.int .i64 2), .lit (.int .i64 3), .lit (.int .i64 3), .lit (.int .i64 4), .lit (.int .i64 0)]
def laid_copybook_utf_marks {H : Type} : DataW H := .agg [.lit (.int .u8 0), .lit (.int .u8 0), .lit (.int .u8 192), .lit (.int .u8 224), .lit (.int .u8 240)]

/-- 'copybooklaw04.UtfCalls': WHATEVER THE INPUT: true; the input reads as it did. -/
def utfCallsSpec : ChangeSpec := { name := "utfCalls", fn := fun _ => fun
  | [d1, d2, d3] => { results := [.lit (.bool true)], args := [d1, d2, d3] }
  | _ => none }
def utfCallsRow : OpenClaim := { program := "ytillndchojaniaadoor", sum := "dfff810a1fa6cbc66def974ae1e197e0f8dadc91938a81454e521151c446b32c", func := "copybook/copybooklaw04.UtfCalls", spec := "utfCalls", unfollowed := true, recurses := true, named := ["copybook/utf.marks", "copybook/utf.sizes"], apart := false, laid := [("copybook/utf.sizes", laid_copybook_utf_sizes), ("copybook/utf.marks", laid_copybook_utf_marks)] }
def UtfCallsSaid : Prop := utfCallsRow.holds Tryd.pinned (OpenSpec.ofChange utfCallsSpec)

/-- ITS FALSE NEIGHBOUR: 'it returns false'. Refute it at one input. -/
def utfCallsWrong : ChangeSpec := { name := "utfCalls", fn := fun _ => fun
  | [d1, d2, d3] => { results := [.lit (.bool false)], args := [d1, d2, d3] }
  | _ => none }
def UtfCallsWrongFalsely : Prop := utfCallsRow.holds Tryd.pinned (OpenSpec.ofChange utfCallsWrong)

/-- 'copybooklaw04.UtfBack': WHATEVER THE INPUT: true; the input reads as it did. -/
def utfBackSpec : ChangeSpec := { name := "utfBack", fn := fun _ => fun
  | [d1, d2] => { results := [.lit (.bool true)], args := [d1, d2] }
  | _ => none }
def utfBackRow : OpenClaim := { program := "ytillndchojaniaadoor", sum := "dfff810a1fa6cbc66def974ae1e197e0f8dadc91938a81454e521151c446b32c", func := "copybook/copybooklaw04.UtfBack", spec := "utfBack", unfollowed := true, recurses := true, named := ["copybook/utf.marks", "copybook/utf.sizes"], apart := false, laid := [("copybook/utf.sizes", laid_copybook_utf_sizes), ("copybook/utf.marks", laid_copybook_utf_marks)] }
def UtfBackSaid : Prop := utfBackRow.holds Tryd.pinned (OpenSpec.ofChange utfBackSpec)

/-- ITS FALSE NEIGHBOUR: 'it returns false'. Refute it at one input. -/
def utfBackWrong : ChangeSpec := { name := "utfBack", fn := fun _ => fun
  | [d1, d2] => { results := [.lit (.bool false)], args := [d1, d2] }
  | _ => none }
def UtfBackWrongFalsely : Prop := utfBackRow.holds Tryd.pinned (OpenSpec.ofChange utfBackWrong)

/-- 'copybooklaw04.UtfOrder': WHATEVER THE INPUT: true; the input reads as it did. -/
def utfOrderSpec : ChangeSpec := { name := "utfOrder", fn := fun _ => fun
  | [d1, d2] => { results := [.lit (.bool true)], args := [d1, d2] }
  | _ => none }
def utfOrderRow : OpenClaim := { program := "ytillndchojaniaadoor", sum := "dfff810a1fa6cbc66def974ae1e197e0f8dadc91938a81454e521151c446b32c", func := "copybook/copybooklaw04.UtfOrder", spec := "utfOrder", unfollowed := true, recurses := true, named := ["copybook/utf.marks", "copybook/utf.sizes"], apart := false, laid := [("copybook/utf.sizes", laid_copybook_utf_sizes), ("copybook/utf.marks", laid_copybook_utf_marks)] }
def UtfOrderSaid : Prop := utfOrderRow.holds Tryd.pinned (OpenSpec.ofChange utfOrderSpec)

/-- ITS FALSE NEIGHBOUR: 'it returns false'. Refute it at one input. -/
def utfOrderWrong : ChangeSpec := { name := "utfOrder", fn := fun _ => fun
  | [d1, d2] => { results := [.lit (.bool false)], args := [d1, d2] }
  | _ => none }
def UtfOrderWrongFalsely : Prop := utfOrderRow.holds Tryd.pinned (OpenSpec.ofChange utfOrderWrong)

/-- 'copybooklaw04.UtfParts': WHATEVER THE INPUT: true; the input reads as it did. -/
def utfPartsSpec : ChangeSpec := { name := "utfParts", fn := fun _ => fun
  | [d1, d2, d3] => { results := [.lit (.bool true)], args := [d1, d2, d3] }
  | _ => none }
def utfPartsRow : OpenClaim := { program := "ytillndchojaniaadoor", sum := "dfff810a1fa6cbc66def974ae1e197e0f8dadc91938a81454e521151c446b32c", func := "copybook/copybooklaw04.UtfParts", spec := "utfParts", unfollowed := true, recurses := true, named := ["copybook/utf.sizes", "copybook/utf.marks"], apart := false, laid := [("copybook/utf.sizes", laid_copybook_utf_sizes), ("copybook/utf.marks", laid_copybook_utf_marks)] }
def UtfPartsSaid : Prop := utfPartsRow.holds Tryd.pinned (OpenSpec.ofChange utfPartsSpec)

/-- ITS FALSE NEIGHBOUR: 'it returns false'. Refute it at one input. -/
def utfPartsWrong : ChangeSpec := { name := "utfParts", fn := fun _ => fun
  | [d1, d2, d3] => { results := [.lit (.bool false)], args := [d1, d2, d3] }
  | _ => none }
def UtfPartsWrongFalsely : Prop := utfPartsRow.holds Tryd.pinned (OpenSpec.ofChange utfPartsWrong)

/-- 'copybooklaw04.UtfSizes': WHATEVER THE INPUT: true; the input reads as it did. -/
def utfSizesSpec : ChangeSpec := { name := "utfSizes", fn := fun _ => fun
  | [d] => { results := [.lit (.bool true)], args := [d] }
  | _ => none }
def utfSizesRow : OpenClaim := { program := "ytillndchojaniaadoor", sum := "dfff810a1fa6cbc66def974ae1e197e0f8dadc91938a81454e521151c446b32c", func := "copybook/copybooklaw04.UtfSizes", spec := "utfSizes", unfollowed := true, recurses := true, named := ["copybook/utf.marks", "copybook/utf.sizes"], apart := false, laid := [("copybook/utf.sizes", laid_copybook_utf_sizes), ("copybook/utf.marks", laid_copybook_utf_marks)] }
def UtfSizesSaid : Prop := utfSizesRow.holds Tryd.pinned (OpenSpec.ofChange utfSizesSpec)

/-- ITS FALSE NEIGHBOUR: 'it returns false'. Refute it at one input. -/
def utfSizesWrong : ChangeSpec := { name := "utfSizes", fn := fun _ => fun
  | [d] => { results := [.lit (.bool false)], args := [d] }
  | _ => none }
def UtfSizesWrongFalsely : Prop := utfSizesRow.holds Tryd.pinned (OpenSpec.ofChange utfSizesWrong)

/-- 'copybooklaw04.UtfKnown': WHATEVER THE INPUT: true; the input reads as it did. -/
def utfKnownSpec : ChangeSpec := { name := "utfKnown", fn := fun _ => fun
  | [] => { results := [.lit (.bool true)], args := [] }
  | _ => none }
def utfKnownRow : OpenClaim := { program := "ytillndchojaniaadoor", sum := "dfff810a1fa6cbc66def974ae1e197e0f8dadc91938a81454e521151c446b32c", func := "copybook/copybooklaw04.UtfKnown", spec := "utfKnown", unfollowed := true, recurses := true, named := ["copybook/utf.sizes", "copybook/utf.marks"], apart := false, laid := [("copybook/utf.sizes", laid_copybook_utf_sizes), ("copybook/utf.marks", laid_copybook_utf_marks)] }
def UtfKnownSaid : Prop := utfKnownRow.holds Tryd.pinned (OpenSpec.ofChange utfKnownSpec)

/-- ITS FALSE NEIGHBOUR: 'it returns false'. Refute it at one input. -/
def utfKnownWrong : ChangeSpec := { name := "utfKnown", fn := fun _ => fun
  | [] => { results := [.lit (.bool false)], args := [] }
  | _ => none }
def UtfKnownWrongFalsely : Prop := utfKnownRow.holds Tryd.pinned (OpenSpec.ofChange utfKnownWrong)

/- THE SECOND FORM. 'bulk': how many values and letters a reading holds, each counted each time it is reached (what is shared counts as often as it is met; a slice's spare places count too). A statement '..UptoSaid' is the law's where the arguments, and the package variables that the reading takes, are together of bulk at most 1048576: NARROWER than '..Said'. Prove '..Said' where nothing that the law and all that it calls make is longer than what came in: it says more and counts as full. Else prove '..UptoSaid'. A law counts once. -/
mutual
def uptoBulk {H : Type} : DataW H → Nat
  | .lit (.string bytes) => bytes.length + 1
  | .lit _ => 1
  | .nil => 1
  | .ptr d => uptoBulk d + 1
  | .slice elems spare => uptoBulkAll elems + uptoBulkAll spare + 1
  | .agg parts => uptoBulkAll parts + 1
  | .iface _ d => uptoBulk d + 1
  | .map entries => uptoBulkEntries entries + 1
  | .held _ => 1
def uptoBulkAll {H : Type} : List (DataW H) → Nat
  | [] => 0
  | d :: r => uptoBulk d + uptoBulkAll r
def uptoBulkEntries {H : Type} : List (Lit × DataW H) → Nat
  | [] => 0
  | x :: r => uptoBulkEntry x + uptoBulkEntries r
def uptoBulkEntry {H : Type} : Lit × DataW H → Nat
  | (.string bytes, d) => bytes.length + uptoBulk d + 1
  | (_, d) => uptoBulk d + 1
 end
def uptoSmall : (H : Type) → List (DataW H) → Bool := fun _ ds => decide (uptoBulkAll ds ≤ 1048576)
def OpenSpec.upto (s : _root_.Go.ChangeSpec) : _root_.Go.OpenSpec := { _root_.Go.OpenSpec.ofChange s with cond := some uptoSmall }

/-- 'copybooklaw04.UtfCalls', WHERE WHAT IT READS IS OF BULK AT MOST 1048576: true; the input reads as it did. -/
def utfCallsUptoRow : OpenClaim := { program := "ytillndchojaniaadoor", sum := "dfff810a1fa6cbc66def974ae1e197e0f8dadc91938a81454e521151c446b32c", func := "copybook/copybooklaw04.UtfCalls", spec := "utfCalls", unfollowed := true, recurses := true, named := ["copybook/utf.marks", "copybook/utf.sizes"], apart := false, laid := [("copybook/utf.sizes", laid_copybook_utf_sizes), ("copybook/utf.marks", laid_copybook_utf_marks)], narrowed := true }
def UtfCallsUptoSaid : Prop := utfCallsUptoRow.holds Tryd.pinned (OpenSpec.upto utfCallsSpec)

/-- 'copybooklaw04.UtfBack', WHERE WHAT IT READS IS OF BULK AT MOST 1048576: true; the input reads as it did. -/
def utfBackUptoRow : OpenClaim := { program := "ytillndchojaniaadoor", sum := "dfff810a1fa6cbc66def974ae1e197e0f8dadc91938a81454e521151c446b32c", func := "copybook/copybooklaw04.UtfBack", spec := "utfBack", unfollowed := true, recurses := true, named := ["copybook/utf.marks", "copybook/utf.sizes"], apart := false, laid := [("copybook/utf.sizes", laid_copybook_utf_sizes), ("copybook/utf.marks", laid_copybook_utf_marks)], narrowed := true }
def UtfBackUptoSaid : Prop := utfBackUptoRow.holds Tryd.pinned (OpenSpec.upto utfBackSpec)

/-- 'copybooklaw04.UtfOrder', WHERE WHAT IT READS IS OF BULK AT MOST 1048576: true; the input reads as it did. -/
def utfOrderUptoRow : OpenClaim := { program := "ytillndchojaniaadoor", sum := "dfff810a1fa6cbc66def974ae1e197e0f8dadc91938a81454e521151c446b32c", func := "copybook/copybooklaw04.UtfOrder", spec := "utfOrder", unfollowed := true, recurses := true, named := ["copybook/utf.marks", "copybook/utf.sizes"], apart := false, laid := [("copybook/utf.sizes", laid_copybook_utf_sizes), ("copybook/utf.marks", laid_copybook_utf_marks)], narrowed := true }
def UtfOrderUptoSaid : Prop := utfOrderUptoRow.holds Tryd.pinned (OpenSpec.upto utfOrderSpec)

/-- 'copybooklaw04.UtfParts', WHERE WHAT IT READS IS OF BULK AT MOST 1048576: true; the input reads as it did. -/
def utfPartsUptoRow : OpenClaim := { program := "ytillndchojaniaadoor", sum := "dfff810a1fa6cbc66def974ae1e197e0f8dadc91938a81454e521151c446b32c", func := "copybook/copybooklaw04.UtfParts", spec := "utfParts", unfollowed := true, recurses := true, named := ["copybook/utf.sizes", "copybook/utf.marks"], apart := false, laid := [("copybook/utf.sizes", laid_copybook_utf_sizes), ("copybook/utf.marks", laid_copybook_utf_marks)], narrowed := true }
def UtfPartsUptoSaid : Prop := utfPartsUptoRow.holds Tryd.pinned (OpenSpec.upto utfPartsSpec)

/-- 'copybooklaw04.UtfSizes', WHERE WHAT IT READS IS OF BULK AT MOST 1048576: true; the input reads as it did. -/
def utfSizesUptoRow : OpenClaim := { program := "ytillndchojaniaadoor", sum := "dfff810a1fa6cbc66def974ae1e197e0f8dadc91938a81454e521151c446b32c", func := "copybook/copybooklaw04.UtfSizes", spec := "utfSizes", unfollowed := true, recurses := true, named := ["copybook/utf.marks", "copybook/utf.sizes"], apart := false, laid := [("copybook/utf.sizes", laid_copybook_utf_sizes), ("copybook/utf.marks", laid_copybook_utf_marks)], narrowed := true }
def UtfSizesUptoSaid : Prop := utfSizesUptoRow.holds Tryd.pinned (OpenSpec.upto utfSizesSpec)

/-- 'copybooklaw04.UtfKnown', WHERE WHAT IT READS IS OF BULK AT MOST 1048576: true; the input reads as it did. -/
def utfKnownUptoRow : OpenClaim := { program := "ytillndchojaniaadoor", sum := "dfff810a1fa6cbc66def974ae1e197e0f8dadc91938a81454e521151c446b32c", func := "copybook/copybooklaw04.UtfKnown", spec := "utfKnown", unfollowed := true, recurses := true, named := ["copybook/utf.sizes", "copybook/utf.marks"], apart := false, laid := [("copybook/utf.sizes", laid_copybook_utf_sizes), ("copybook/utf.marks", laid_copybook_utf_marks)], narrowed := true }
def UtfKnownUptoSaid : Prop := utfKnownUptoRow.holds Tryd.pinned (OpenSpec.upto utfKnownSpec)

end Rows
end Go.Proofs.YtillndchojaniaaDoor
