/-
  What the frames of layer 8 open: rows of units; small words for the laws' walks. Conditions: those that each states.
-/
import Derived.Test.YthnenmglmebljaaEdN
namespace Go.Proofs.Ythnenmglmebljaa
open Go.RowKit
open Pl (Un)

set_option maxRecDepth 100000 in
theorem open_units {H : Type} {enc : TypeId × Value → H} {W : World} {A0 : Option Addr} {n c : Nat} {d : DataW H} {p : List MemPlace} (h : DataW.Trod enc Try.prog W 0 (fun _ => true) true 27 (.slice A0 n c) d p) : ∃ l, Units W W.heap.size A0 n c l := open_units_of Try.underlying27 h
theorem neq_id (x y x' y' : Int) (w : World) : (binOp .neq 26 (.agg #[.int .u32 x, .int .u64 y]) (.agg #[.int .u32 x', .int .u64 y'])).run Try.prog w = .ok (.bool (!decide (x = x' ∧ y = y'))) w := by
  rw [run_neq_struct, show (10000 : Nat) = 9998 + 2 from rfl, equalIn_id]; rfl
theorem below_drewN {B : Nat} {w w' : World} (h : Below B w w') (n : Nat) : Below B w (w'.drewN n) := ⟨h.os, h.tape, h.output, h.size, h.block⟩
/-- units within their types' bounds -/
theorem units_I {w : World} {B : Nat} {A : Option Addr} {n c : Nat} {l : List Un} (h : Units w B A n c l) : (∀ u ∈ l, Pl.I u.p) ∧ (∀ u ∈ l, Pl.J u.c) := ⟨fun u hu => (h.2 u hu).2.1, fun u hu => (h.2 u hu).2.2.1⟩
theorem Units.upto {w : World} {B : Nat} {A : Option Addr} {n c K : Nat} {l : List Un} (h : Units w B A n c l) (hK : K ≤ n) : Units w B A K c (l.take K) := ⟨Rws.upto encU_len h.1 hK, fun u hu => h.2 u (List.mem_of_mem_take hu)⟩
end Go.Proofs.Ythnenmglmebljaa
