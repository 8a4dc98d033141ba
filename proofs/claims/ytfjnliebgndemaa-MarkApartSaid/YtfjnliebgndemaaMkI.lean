/-
  What layer 11's laws are given, at its own types: rows of rows of units, calls, two bytes, a part. Conditions: those that each states.
-/
import Derived.Test.YtfjnliebgndemaaMkO
import Derived.Test.YtfjnliebgndemaaWvI
namespace Go.Proofs.Ytfjnliebgndemaa
open Go.RowKit Go.ChangeShapes Go.WideShapes
open Pl (Un)

section
variable {H : Type} {enc : TypeId × Value → H} {W : World}
theorem trod_struct3m {P : Program} {w : World} {base : Nat} {spare : Nat → Bool} {held : Bool} {t : TypeId} {f0 f1 f2 : Field} {fuel : Nat} {cs : List Value} {x : DataW H × List MemPlace} (ht : P.underlying t = some (.struct #[f0, f1, f2])) (h : DataW.trod enc P w base spare held fuel t cs = some x) :
    ∃ y0 y1 y2 n, DataW.trod enc P w base spare held n f0.type ((cs.drop f0.offset).take (P.cellsOf f0.type)) = some y0 ∧ DataW.trod enc P w base spare held n f1.type ((cs.drop f1.offset).take (P.cellsOf f1.type)) = some y1 ∧
      DataW.trod enc P w base spare held n f2.type ((cs.drop f2.offset).take (P.cellsOf f2.type)) = some y2 := by
  obtain ⟨xs, n, _, rfl, hl, hlen, hf⟩ := DataW.trod_struct ht h
  match xs, hlen with
  | [y0, y1, y2], _ => exact ⟨y0, y1, y2, n, by simpa using hf 0 f0 rfl, by simpa using hf 1 f1 rfl, by simpa using hf 2 f2 rfl⟩
set_option maxRecDepth 100000 in
theorem open_part {v : Value} {d : DataW H} {p : List MemPlace} (hval : Value.okWide Try.prog W .any 0 42 v) (h : DataW.Trod enc Try.prog W 0 (fun _ => true) true 42 v d p) : ∃ x y z : Nat, v = .agg #[.int .u8 (x : Int), .int .u8 (y : Int), .int .u8 (z : Int)] ∧ x < 256 ∧ y < 256 ∧ z < 256 := by
  obtain ⟨⟨l⟩, rfl, hsz⟩ := Go.WideShapes.okWide_struct Try.underlying42 hval
  rw [show Try.prog.cellsOf 42 = 3 from by kernel_rfl] at hsz
  obtain ⟨fuel, hf⟩ := h
  match l, hsz, hf with
  | [a0, a1, a2], _, hf =>
    obtain ⟨y0, y1, y2, n, h0, h1, h2⟩ := trod_struct3m Try.underlying42 hf
    simp only at h0 h1 h2
    rw [show Try.prog.cellsOf 5 = 1 from by kernel_rfl] at h0 h1 h2
    have e3 : (Value.agg #[a0, a1, a2]).cells.toList = [a0, a1, a2] := rfl
    simp only [e3, List.drop_zero, List.drop_succ_cons, List.take_succ_cons, List.take_zero] at h0 h1 h2
    obtain ⟨k, g0, _, w0⟩ := DataW.trod_int Try.underlying5 h0
    obtain ⟨q, g1, _, w1⟩ := DataW.trod_int Try.underlying5 h1
    obtain ⟨c, g2, _, w2⟩ := DataW.trod_int Try.underlying5 h2
    obtain rfl := (List.cons.inj g0).1
    obtain rfl := (List.cons.inj g1).1
    obtain rfl := (List.cons.inj g2).1
    have b0 := bounds_u8 w0
    have b1 := bounds_u8 w1
    have b2 := bounds_u8 w2
    obtain ⟨x, rfl⟩ : ∃ x : Nat, k = (x : Int) := ⟨k.toNat, by omega⟩
    obtain ⟨y, rfl⟩ : ∃ x : Nat, q = (x : Int) := ⟨q.toNat, by omega⟩
    obtain ⟨z, rfl⟩ : ∃ x : Nat, c = (x : Int) := ⟨c.toNat, by omega⟩
    exact ⟨x, y, z, rfl, by omega, by omega, by omega⟩
theorem open_rows {A0 : Option Addr} {n c : Nat} {d : DataW H} {p : List MemPlace} (h : DataW.Trod enc Try.prog W 0 (fun _ => true) true 23 (.slice A0 n c) d p) :
    ∃ R, Rws encS W W.heap.size A0 n c R ∧ ∀ r ∈ R, Units W W.heap.size r.A r.n r.c r.l :=
  open_rows_of Try.underlying23 Try.underlying33 (by kernel_rfl) h
theorem open_actsm {A0 : Option Addr} {n c : Nat} {d : DataW H} {p : List MemPlace} (h : DataW.Trod enc Try.prog W 0 (fun _ => true) true 47 (.slice A0 n c) d p) :
    ∃ L, Rws encA W W.heap.size A0 n c L ∧ ∀ o ∈ L, Units W W.heap.size o.A o.n o.c o.l ∧ Pl.I o.k ∧ (0 ≤ o.x ∧ o.x ≤ 4294967295) ∧ Pl.I o.p :=
  open_rows_k encA_len (by decide) (fun o => Units W W.heap.size o.A o.n o.c o.l ∧ Pl.I o.k ∧ (0 ≤ o.x ∧ o.x ≤ 4294967295) ∧ Pl.I o.p) Try.underlying47 (by kernel_rfl) (fun fuel cs z hc hz => act_cells Try.underlying32 (by kernel_rfl) Try.underlying33 (by kernel_rfl) Try.underlying49 rfl rfl rfl rfl rfl rfl rfl rfl hc hz) h
theorem open_two_ {v : Value} {d : DataW H} {p : List MemPlace} (hval : Value.okWide Try.prog W .any 0 22 v) (h : DataW.Trod enc Try.prog W 0 (fun _ => true) true 22 v d p) :
    ∃ x y : Nat, v = .agg #[.int .u8 (x : Int), .int .u8 (y : Int)] ∧ x < 256 ∧ y < 256 :=
  open_two Try.underlying5 (by kernel_rfl) Try.underlying22 (by kernel_rfl) hval h
end
end Go.Proofs.Ytfjnliebgndemaa
