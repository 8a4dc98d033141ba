/-
  How units, Ids and code points come out of what can be read as data; rows of units in memory. Conditions: those that each states.
-/
import Derived.Test.YtkgehgedbgogbaaEdA
namespace Go.Proofs.Ytkgehgedbgogbaa
open Go.RowKit Go.ChangeShapes Go.WideShapes
open Pl (Un)

/-- a unit whose parts have their types' bounds -/
def Pl.UnB (u : Un) : Prop := Pl.I u.k ∧ Pl.I u.p ∧ Pl.J u.c ∧ (0 ≤ u.x ∧ u.x ≤ 4294967295) ∧ 0 ≤ u.y ∧ u.y ≤ 18446744073709551615
def Pl.IdB (x y : Int) : Prop := (0 ≤ x ∧ x ≤ 4294967295) ∧ 0 ≤ y ∧ y ≤ 18446744073709551615
section
variable {H : Type} {enc : TypeId × Value → H} {W : World}
set_option maxRecDepth 100000 in
theorem open_id_cells {fuel : Nat} {a b : Value} {z : DataW H × List MemPlace} (h : DataW.trod enc Try.prog W 0 (fun _ => true) true fuel 35 [a, b] = some z) : ∃ x y, a = .int .u32 x ∧ b = .int .u64 y ∧ Pl.IdB x y := by
  obtain ⟨y0, y1, n, _, _, h0, h1⟩ := trod_struct2 Try.underlying35 h
  simp only at h0 h1
  rw [show Try.prog.cellsOf 33 = 1 from by kernel_rfl] at h0
  rw [show Try.prog.cellsOf 22 = 1 from by kernel_rfl] at h1
  simp only [List.drop_zero, List.drop_succ_cons, List.take_succ_cons, List.take_zero] at h0 h1
  obtain ⟨x, e0, _, w0⟩ := DataW.trod_int Try.underlying33 h0
  obtain ⟨y, e1, _, w1⟩ := DataW.trod_int Try.underlying22 h1
  have b0 := bounds_u32 w0
  have b1 := bounds_u64 w1
  exact ⟨x, y, (List.cons.inj e0).1, (List.cons.inj e1).1, by unfold Pl.IdB; omega⟩
set_option maxRecDepth 100000 in
theorem open_id {v : Value} {d : DataW H} {p : List MemPlace} (hval : Value.okWide Try.prog W .any 0 35 v) (h : DataW.Trod enc Try.prog W 0 (fun _ => true) true 35 v d p) : ∃ x y, v = idval x y ∧ Pl.IdB x y := by
  obtain ⟨⟨l⟩, rfl, hsz⟩ := okWide_struct Try.underlying35 hval
  rw [show Try.prog.cellsOf 35 = 2 from by kernel_rfl] at hsz
  obtain ⟨fuel, hf⟩ := h
  match l, hsz, hf with
  | [a, b], _, hf =>
    obtain ⟨x, y, rfl, rfl, hb⟩ := open_id_cells hf
    exact ⟨x, y, rfl, hb⟩
set_option maxRecDepth 100000 in
theorem trod_struct4 {P : Program} {w : World} {base : Nat} {spare : Nat → Bool} {held : Bool} {t : TypeId} {f0 f1 f2 f3 : Field} {fuel : Nat} {cs : List Value} {x : DataW H × List MemPlace} (ht : P.underlying t = some (.struct #[f0, f1, f2, f3])) (h : DataW.trod enc P w base spare held fuel t cs = some x) :
    ∃ y0 y1 y2 y3 n, DataW.trod enc P w base spare held n f0.type ((cs.drop f0.offset).take (P.cellsOf f0.type)) = some y0 ∧ DataW.trod enc P w base spare held n f1.type ((cs.drop f1.offset).take (P.cellsOf f1.type)) = some y1 ∧
      DataW.trod enc P w base spare held n f2.type ((cs.drop f2.offset).take (P.cellsOf f2.type)) = some y2 ∧ DataW.trod enc P w base spare held n f3.type ((cs.drop f3.offset).take (P.cellsOf f3.type)) = some y3 := by
  obtain ⟨xs, n, _, rfl, hl, hlen, hf⟩ := DataW.trod_struct ht h
  match xs, hlen with
  | [y0, y1, y2, y3], _ => exact ⟨y0, y1, y2, y3, n, by simpa using hf 0 f0 rfl, by simpa using hf 1 f1 rfl, by simpa using hf 2 f2 rfl, by simpa using hf 3 f3 rfl⟩
set_option maxRecDepth 100000 in
theorem open_unit {v : Value} {d : DataW H} {p : List MemPlace} (hval : Value.okWide Try.prog W .any 0 65 v) (h : DataW.Trod enc Try.prog W 0 (fun _ => true) true 65 v d p) : ∃ u, v = uval u ∧ Pl.UnB u := by
  obtain ⟨⟨l⟩, rfl, hsz⟩ := okWide_struct Try.underlying65 hval
  rw [show Try.prog.cellsOf 65 = 5 from by kernel_rfl] at hsz
  obtain ⟨fuel, hf⟩ := h
  match l, hsz, hf with
  | [a0, a1, a2, a3, a4], _, hf =>
    obtain ⟨y0, y1, y2, y3, n, h0, h1, h2, h3⟩ := trod_struct4 Try.underlying65 hf
    simp only at h0 h1 h2 h3
    rw [show Try.prog.cellsOf 3 = 1 from by kernel_rfl] at h0 h1
    rw [show Try.prog.cellsOf 63 = 1 from by kernel_rfl] at h2
    rw [show Try.prog.cellsOf 35 = 2 from by kernel_rfl] at h3
    have e3 : (Value.agg #[a0, a1, a2, a3, a4]).cells.toList = [a0, a1, a2, a3, a4] := rfl
    simp only [e3, List.drop_zero, List.drop_succ_cons, List.take_succ_cons, List.take_zero] at h0 h1 h2 h3
    obtain ⟨k, g0, _, w0⟩ := DataW.trod_int Try.underlying3 h0
    obtain ⟨q, g1, _, w1⟩ := DataW.trod_int Try.underlying3 h1
    obtain ⟨c, g2, _, w2⟩ := DataW.trod_int Try.underlying63 h2
    obtain ⟨x, y, rfl, rfl, hb⟩ := open_id_cells h3
    obtain rfl := (List.cons.inj g0).1
    obtain rfl := (List.cons.inj g1).1
    obtain rfl := (List.cons.inj g2).1
    have b0 := bounds_i64 w0
    have b1 := bounds_i64 w1
    have b2 := bounds_i32 w2
    exact ⟨⟨k, q, c, x, y⟩, rfl, Pl.I.mk (by simp only; omega), Pl.I.mk (by simp only; omega), (by unfold Pl.J; simp only; omega), hb⟩
end

def encU (u : Un) : List Value := [.int .i64 u.k, .int .i64 u.p, .int .i32 u.c, .int .u32 u.x, .int .u64 u.y]
set_option maxRecDepth 100000 in
theorem encU_len (u : Un) : (encU u).length = 5 := rfl
set_option maxRecDepth 100000 in
theorem encU_one (u : Un) : ∀ v ∈ encU u, v.oneCell' = true := by
  intro v hv
  simp only [encU, List.mem_cons, List.not_mem_nil, or_false] at hv
  rcases hv with rfl | rfl | rfl | rfl | rfl <;> rfl
set_option maxRecDepth 100000 in
theorem infoUn : (Try.prog.info? 65).map (fun i => (i.zero, i.size, i.bytes)) = some (some (.agg #[.int .i64 0, .int .i64 0, .int .i32 0, .int .u32 0, .int .u64 0]), 5, 40) := by kernel_rfl
abbrev Uns := Rws encU
abbrev OwnU (w : World) (base : Nat) (v : Value) (l : List Un) : Prop := OwnR encU 5 65 w base v l
set_option maxRecDepth 100000 in
theorem Uns.at_ {w : World} {B : Nat} {A : Option Addr} {n c : Nat} {l : List Un} (h : Uns w B A n c l) {i : Nat} (hi : i < n) :
    ∃ g o, A = some ⟨g, o, none⟩ ∧ g < B ∧ ∀ i, i < n → w.cell? ⟨g, o + i * 5, none⟩ = some (.int .i64 (l.getD i default).k) ∧ w.cell? ⟨g, o + i * 5 + 1, none⟩ = some (.int .i64 (l.getD i default).p) ∧ w.cell? ⟨g, o + i * 5 + 2, none⟩ = some (.int .i32 (l.getD i default).c) ∧
      w.cell? ⟨g, o + i * 5 + 3, none⟩ = some (.int .u32 (l.getD i default).x) ∧ w.cell? ⟨g, o + i * 5 + 4, none⟩ = some (.int .u64 (l.getD i default).y) := by
  obtain ⟨g, o, e, hg, hc⟩ := Rws.at_ encU_len h hi
  exact ⟨g, o, e, hg, fun i hi => ⟨hc i hi 0 _ (by decide) rfl, hc i hi 1 _ (by decide) rfl, hc i hi 2 _ (by decide) rfl, hc i hi 3 _ (by decide) rfl, hc i hi 4 _ (by decide) rfl⟩⟩
set_option maxRecDepth 100000 in
/-- one unit's cells, of a row of the call's own -/
theorem OwnU.cells {w : World} {base g n c : Nat} {l : List Un} (h : OwnU w base (.slice (some ⟨g, 0, none⟩) n c) l) {i : Nat} (hi : i < n) :
    w.cell? ⟨g, i * 5, none⟩ = some (.int .i64 (l.getD i default).k) ∧ w.cell? ⟨g, i * 5 + 1, none⟩ = some (.int .i64 (l.getD i default).p) ∧ w.cell? ⟨g, i * 5 + 2, none⟩ = some (.int .i32 (l.getD i default).c) ∧
      w.cell? ⟨g, i * 5 + 3, none⟩ = some (.int .u32 (l.getD i default).x) ∧ w.cell? ⟨g, i * 5 + 4, none⟩ = some (.int .u64 (l.getD i default).y) ∧ ∀ j, w.frozen? ⟨g, j, none⟩ = false := by
  obtain ⟨hn, _⟩ := OwnR.rws encU_len h
  have h' : w.ownsRow base 65 5 (.slice (some ⟨g, 0, none⟩) n c) n (cellsR encU l) := by
    have h1 : w.ownsRow base 65 5 (.slice (some ⟨g, 0, none⟩) n c) l.length (cellsR encU l) := h
    rwa [← hn] at h1
  have hat := fun j (hj : j < 5) => (World.ownsRow.cellAt h' (i * 5 + j) (by omega)).trans (cellsR_at encU_len l i j (by omega) hj)
  exact ⟨hat 0 (by decide), hat 1 (by decide), hat 2 (by decide), hat 3 (by decide), hat 4 (by decide), fun j => World.ownsRow.frozenAt h' j⟩
set_option maxRecDepth 100000 in
/-- a list out of what there is at each place -/
theorem pick_list {α : Type} [Inhabited α] (n : Nat) (P : Nat → α → Prop) (h : ∀ i, i < n → ∃ a, P i a) : ∃ l : List α, l.length = n ∧ ∀ i, i < n → P i (l.getD i default) := by
  classical
  refine ⟨(List.range n).map fun i => if hi : i < n then Classical.choose (h i hi) else default, by simp, fun i hi => ?_⟩
  rw [List.getD_eq_getElem?_getD, List.getElem?_map, List.getElem?_range hi]
  simp only [Option.map_some, Option.getD_some, dif_pos hi]
  exact Classical.choose_spec (h i hi)
set_option maxRecDepth 100000 in
/-- structs of k cells out of their cells one by one -/
theorem Rws.of_cells {α : Type} [Inhabited α] {enc : α → List Value} {k : Nat} (hk : ∀ x, (enc x).length = k) (h0 : 0 < k) {w : World} {B n c g o : Nat} {l : List α} (hl : l.length = n) (hc : n ≤ c) (hm : c ≤ maxLen) (hg : 0 < n → g < B)
    (h : ∀ i, i < n → ∀ j u, j < k → (enc (l.getD i default))[j]? = some u → w.cell? ⟨g, o + (i * k + j), none⟩ = some u) : Rws enc w B (some ⟨g, o, none⟩) n c l := by
  refine ⟨hl, hc, hm, (fun e => by cases e), fun hn => ⟨g, o, rfl, hg hn, fun j u hj => ?_⟩⟩
  have hlt := (List.getElem?_eq_some_iff.1 hj).1
  rw [len_cellsR hk] at hlt
  have hi : j / k < n := by rw [← hl]; exact Nat.div_lt_of_lt_mul (by rw [Nat.mul_comm]; exact hlt)
  have hr : j % k < k := Nat.mod_lt _ h0
  have e : j / k * k + j % k = j := by rw [Nat.mul_comm]; exact Nat.div_add_mod j k
  have := h (j / k) hi (j % k) u hr (by rw [← cellsR_at hk l (j / k) (j % k) (by omega) hr, e]; exact hj)
  rwa [e] at this
section
variable {H : Type} {enc : TypeId × Value → H} {W : World}
set_option maxRecDepth 100000 in
theorem unit_cells {fuel : Nat} {a0 a1 a2 a3 a4 : Value} {z : DataW H × List MemPlace} (hf : DataW.trod enc Try.prog W 0 (fun _ => true) true fuel 65 [a0, a1, a2, a3, a4] = some z) : ∃ u : Un, [a0, a1, a2, a3, a4] = encU u ∧ Pl.UnB u := by
  obtain ⟨y0, y1, y2, y3, n, h0, h1, h2, h3⟩ := trod_struct4 Try.underlying65 hf
  simp only at h0 h1 h2 h3
  rw [show Try.prog.cellsOf 3 = 1 from by kernel_rfl] at h0 h1
  rw [show Try.prog.cellsOf 63 = 1 from by kernel_rfl] at h2
  rw [show Try.prog.cellsOf 35 = 2 from by kernel_rfl] at h3
  simp only [List.drop_zero, List.drop_succ_cons, List.take_succ_cons, List.take_zero] at h0 h1 h2 h3
  obtain ⟨k, g0, _, w0⟩ := DataW.trod_int Try.underlying3 h0
  obtain ⟨q, g1, _, w1⟩ := DataW.trod_int Try.underlying3 h1
  obtain ⟨c, g2, _, w2⟩ := DataW.trod_int Try.underlying63 h2
  obtain ⟨x, y, rfl, rfl, hb⟩ := open_id_cells h3
  obtain rfl := (List.cons.inj g0).1
  obtain rfl := (List.cons.inj g1).1
  obtain rfl := (List.cons.inj g2).1
  have b0 := bounds_i64 w0
  have b1 := bounds_i64 w1
  have b2 := bounds_i32 w2
  exact ⟨⟨k, q, c, x, y⟩, rfl, Pl.I.mk (by simp only; omega), Pl.I.mk (by simp only; omega), (by unfold Pl.J; simp only; omega), hb⟩
/-- a row of units, each within its types' bounds (mkframe's kind 'units': open_units is open_units_of at []api.Unit, in a text of the seat that has that type) -/
def Units (w : World) (B : Nat) (A : Option Addr) (n c : Nat) (l : List Un) : Prop := Uns w B A n c l ∧ ∀ u ∈ l, Pl.UnB u
set_option maxRecDepth 100000 in
/-- rows of units; t is the slice's type -/
theorem open_units_of {t : TypeId} (ht : Try.prog.underlying t = some (.slice 65)) {A0 : Option Addr} {n c : Nat} {d : DataW H} {p : List MemPlace} (h : DataW.Trod enc Try.prog W 0 (fun _ => true) true t (.slice A0 n c) d p) : ∃ l, Units W W.heap.size A0 n c l := by
  obtain ⟨fuel, hf⟩ := h
  rcases Deep.open_slice ht hf with ⟨h0, _⟩ | ⟨a, len, cap, m, n', D, Pl', hcs, _, hl, hm, hmm, _, hi⟩
  · have hv := (List.cons.inj h0).1
    injection hv with e1 e2 e3
    subst e1 e2 e3
    exact ⟨[], Rws.none_ _ _ _, fun u hu => by cases hu⟩
  · have hv := (List.cons.inj hcs).1
    injection hv with e1 e2 e3
    subst e1 e2 e3
    obtain ⟨b, off, spot⟩ := a
    have hspot : 0 < n → spot = none := fun h0 => by
      obtain ⟨cs', hc, _⟩ := hi 0 (by rw [hmm]; split <;> omega)
      rw [show Try.prog.cellsOf 65 = 5 from by kernel_rfl] at hc
      obtain ⟨_, hcl, hat⟩ := World.cells?_some hc
      have h2 := hat 0 (by omega)
      rw [List.getElem?_eq_getElem (by omega)] at h2
      simpa [Addr.add] using World.cell?_spot h2
    obtain ⟨l, hl1, hl2⟩ := pick_list n (fun i (x : Un) => (∀ j u, j < 5 → (encU x)[j]? = some u → W.cell? ⟨b, off + (i * 5 + j), none⟩ = some u) ∧ b < W.heap.size ∧ Pl.UnB x) (fun i hin => by
      obtain ⟨cs', hc, ht'⟩ := hi i (by rw [hmm]; split <;> omega)
      rw [show Try.prog.cellsOf 65 = 5 from by kernel_rfl] at hc
      obtain ⟨_, hcl, hat⟩ := World.cells?_some hc
      rw [hspot (by omega)] at hat
      match cs', hcl, ht', hat with
      | [a0, a1, a2, a3, a4], _, ht', hat =>
        obtain ⟨u, hu, hb⟩ := unit_cells ht'
        rw [hu] at hat
        have hat' : ∀ j v, j < 5 → (encU u)[j]? = some v → W.cell? ⟨b, off + (i * 5 + j), none⟩ = some v := fun j v hj hv => by
          have h2 := hat j (by simpa [encU] using hj)
          rw [Go.Deep.add_add, Addr.add_lit] at h2
          rw [h2]
          exact hv
        exact ⟨u, hat', World.block_lt_of_cell? W _ (hat' 0 _ (by decide) rfl), hb⟩)
    have hA : 0 < n → (some ⟨b, off, spot⟩ : Option Addr) = some ⟨b, off, none⟩ := fun h => by rw [hspot h]
    refine ⟨l, ?_, fun u hu => ?_⟩
    · have hR := Rws.of_cells (enc := encU) (k := 5) encU_len (by decide) (w := W) (B := W.heap.size) (g := b) (o := off) hl1 hl hm (fun h => (hl2 0 h).2.1) (fun i hi => (hl2 i hi).1)
      exact ⟨hR.1, hR.2.1, hR.2.2.1, (fun e => by cases e), fun h => by rw [hA h]; exact hR.2.2.2.2 h⟩
    · obtain ⟨i, hi, rfl⟩ := List.getElem_of_mem hu
      have := (hl2 i (by omega)).2.2
      rwa [List.getD_eq_getElem?_getD, List.getElem?_eq_getElem hi] at this
end
end Go.Proofs.Ytkgehgedbgogbaa
