/-
  What the frames of layer 7 open: rows of units. Conditions: those that each states.
-/
import Derived.Test.YtfjnliebgndemaaWvH
import Derived.Test.YtfjnliebgndemaaBaseR
namespace Go.Proofs.Ytfjnliebgndemaa
open Go.RowKit
open Pl (Un)

set_option maxRecDepth 100000 in
theorem open_units {H : Type} {enc : TypeId × Value → H} {W : World} {A0 : Option Addr} {n c : Nat} {d : DataW H} {p : List MemPlace} (h : DataW.Trod enc Try.prog W 0 (fun _ => true) true 33 (.slice A0 n c) d p) : ∃ l, Units W W.heap.size A0 n c l := open_units_of Try.underlying33 h
end Go.Proofs.Ytfjnliebgndemaa
