/-
  How units, Ids and code points come out of what can be read as data. Conditions: those that each states.
-/
import Derived.Test.YtfjnliebgndemaaUniEq
import Derived.Deep.Slices
import Derived.Deep.Fields
import Derived.ChangeSame
import Derived.WideShapes
namespace Go.Proofs.Ytfjnliebgndemaa
open Go.RowKit Go.ChangeShapes Go.WideShapes
open Pl (Un)

/-- a unit whose parts have their types' bounds -/
def Pl.UnB (u : Un) : Prop := Pl.I u.k ∧ Pl.I u.p ∧ Pl.J u.c ∧ (0 ≤ u.x ∧ u.x ≤ 4294967295) ∧ 0 ≤ u.y ∧ u.y ≤ 18446744073709551615
def Pl.IdB (x y : Int) : Prop := (0 ≤ x ∧ x ≤ 4294967295) ∧ 0 ≤ y ∧ y ≤ 18446744073709551615
section
variable {H : Type} {enc : TypeId × Value → H} {W : World}
set_option maxRecDepth 100000 in
theorem open_id_cells {fuel : Nat} {a b : Value} {z : DataW H × List MemPlace} (h : DataW.trod enc Try.prog W 0 (fun _ => true) true fuel 55 [a, b] = some z) : ∃ x y, a = .int .u32 x ∧ b = .int .u64 y ∧ Pl.IdB x y := by
  obtain ⟨y0, y1, n, _, _, h0, h1⟩ := trod_struct2 Try.underlying55 h
  simp only at h0 h1
  rw [show Try.prog.cellsOf 32 = 1 from by kernel_rfl] at h0
  rw [show Try.prog.cellsOf 53 = 1 from by kernel_rfl] at h1
  simp only [List.drop_zero, List.drop_succ_cons, List.take_succ_cons, List.take_zero] at h0 h1
  obtain ⟨x, e0, _, w0⟩ := DataW.trod_int Try.underlying32 h0
  obtain ⟨y, e1, _, w1⟩ := DataW.trod_int Try.underlying53 h1
  have b0 := bounds_u32 w0
  have b1 := bounds_u64 w1
  exact ⟨x, y, (List.cons.inj e0).1, (List.cons.inj e1).1, by unfold Pl.IdB; omega⟩
set_option maxRecDepth 100000 in
theorem open_id {v : Value} {d : DataW H} {p : List MemPlace} (hval : Value.okWide Try.prog W .any 0 55 v) (h : DataW.Trod enc Try.prog W 0 (fun _ => true) true 55 v d p) : ∃ x y, v = idval x y ∧ Pl.IdB x y := by
  obtain ⟨⟨l⟩, rfl, hsz⟩ := okWide_struct Try.underlying55 hval
  rw [show Try.prog.cellsOf 55 = 2 from by kernel_rfl] at hsz
  obtain ⟨fuel, hf⟩ := h
  match l, hsz, hf with
  | [a, b], _, hf =>
    obtain ⟨x, y, rfl, rfl, hb⟩ := open_id_cells hf
    exact ⟨x, y, rfl, hb⟩
set_option maxRecDepth 100000 in
theorem trod_struct4 {P : Program} {w : World} {base : Nat} {spare : Nat → Bool} {held : Bool} {t : TypeId} {f0 f1 f2 f3 : Field} {fuel : Nat} {cs : List Value} {x : DataW H × List MemPlace} (ht : P.underlying t = some (.struct #[f0, f1, f2, f3])) (h : DataW.trod enc P w base spare held fuel t cs = some x) :
    ∃ y0 y1 y2 y3 n, DataW.trod enc P w base spare held n f0.type ((cs.drop f0.offset).take (P.cellsOf f0.type)) = some y0 ∧ DataW.trod enc P w base spare held n f1.type ((cs.drop f1.offset).take (P.cellsOf f1.type)) = some y1 ∧
      DataW.trod enc P w base spare held n f2.type ((cs.drop f2.offset).take (P.cellsOf f2.type)) = some y2 ∧ DataW.trod enc P w base spare held n f3.type ((cs.drop f3.offset).take (P.cellsOf f3.type)) = some y3 := by
  obtain ⟨xs, n, _, rfl, hl, hlen, hf⟩ := DataW.trod_struct ht h
  match xs, hlen with
  | [y0, y1, y2, y3], _ => exact ⟨y0, y1, y2, y3, n, by simpa using hf 0 f0 rfl, by simpa using hf 1 f1 rfl, by simpa using hf 2 f2 rfl, by simpa using hf 3 f3 rfl⟩
set_option maxRecDepth 100000 in
theorem open_unit {v : Value} {d : DataW H} {p : List MemPlace} (hval : Value.okWide Try.prog W .any 0 57 v) (h : DataW.Trod enc Try.prog W 0 (fun _ => true) true 57 v d p) : ∃ u, v = uval u ∧ Pl.UnB u := by
  obtain ⟨⟨l⟩, rfl, hsz⟩ := okWide_struct Try.underlying57 hval
  rw [show Try.prog.cellsOf 57 = 5 from by kernel_rfl] at hsz
  obtain ⟨fuel, hf⟩ := h
  match l, hsz, hf with
  | [a0, a1, a2, a3, a4], _, hf =>
    obtain ⟨y0, y1, y2, y3, n, h0, h1, h2, h3⟩ := trod_struct4 Try.underlying57 hf
    simp only at h0 h1 h2 h3
    rw [show Try.prog.cellsOf 3 = 1 from by kernel_rfl] at h0 h1
    rw [show Try.prog.cellsOf 25 = 1 from by kernel_rfl] at h2
    rw [show Try.prog.cellsOf 55 = 2 from by kernel_rfl] at h3
    have e3 : (Value.agg #[a0, a1, a2, a3, a4]).cells.toList = [a0, a1, a2, a3, a4] := rfl
    simp only [e3, List.drop_zero, List.drop_succ_cons, List.take_succ_cons, List.take_zero] at h0 h1 h2 h3
    obtain ⟨k, g0, _, w0⟩ := DataW.trod_int Try.underlying3 h0
    obtain ⟨q, g1, _, w1⟩ := DataW.trod_int Try.underlying3 h1
    obtain ⟨c, g2, _, w2⟩ := DataW.trod_int Try.underlying25 h2
    obtain ⟨x, y, rfl, rfl, hb⟩ := open_id_cells h3
    obtain rfl := (List.cons.inj g0).1
    obtain rfl := (List.cons.inj g1).1
    obtain rfl := (List.cons.inj g2).1
    have b0 := bounds_i64 w0
    have b1 := bounds_i64 w1
    have b2 := bounds_i32 w2
    exact ⟨⟨k, q, c, x, y⟩, rfl, Pl.I.mk (by simp only; omega), Pl.I.mk (by simp only; omega), (by unfold Pl.J; simp only; omega), hb⟩
set_option maxRecDepth 100000 in
theorem open_row {fuel : Nat} {v : Value} {x : DataW H × List MemPlace} (t2 : DataW.trod enc Try.prog W 0 (fun _ => true) true fuel 24 [v] = some x) : ∃ A' m c' cs, v = .slice A' m c' ∧ Crs W W.heap.size A' m c' cs := by
  rcases open_ints Try.underlying24 Try.underlying25 (by kernel_rfl) t2 with ⟨hcs, _⟩ | ⟨x, l, cc, zs, hcs, _, hl, hm, hz, hx, hcell, hwz⟩
  · exact ⟨none, 0, 0, [], (List.cons.inj hcs).1, Crs.none_ _ _⟩
  · have hz' : zs.length = cc := by simpa using hz
    exact ⟨_, _, _, _, (List.cons.inj hcs).1, Crs.open_ hl hm hz' hcell hwz⟩
set_option maxRecDepth 100000 in
theorem open_chars {A0 : Option Addr} {n c : Nat} {d : DataW H} {p : List MemPlace} (h : DataW.Trod enc Try.prog W 0 (fun _ => true) true 24 (.slice A0 n c) d p) : ∃ cs, Crs W W.heap.size A0 n c cs := by
  obtain ⟨fuel, hf⟩ := h
  obtain ⟨A', m, c', cs, e, h⟩ := open_row hf
  injection e with e1 e2 e3
  subst e1 e2 e3
  exact ⟨cs, h⟩
end
end Go.Proofs.Ytfjnliebgndemaa
