/-
  Rows of structs (or of ints) that a law is given, out of what can be read as data: told by their cells. Nothing of a program is named but its own words. Conditions: those that each states.
-/
import Derived.Test.YtjplchajopkpcaaPceM
import Derived.SizedLaws
import Derived.ChangeArms
import Derived.Deep.Slices
namespace Go.Proofs.Ytjplchajopkpcaa.Bo
open Go.RowKit Go.ChangeShapes Go.WideShapes

set_option maxRecDepth 100000 in
/-- a list out of what there is at each place -/
theorem pick_list {α : Type} [Inhabited α] (n : Nat) (P : Nat → α → Prop) (h : ∀ i, i < n → ∃ a, P i a) : ∃ l : List α, l.length = n ∧ ∀ i, i < n → P i (l.getD i default) := by
  classical
  refine ⟨(List.range n).map fun i => if hi : i < n then Classical.choose (h i hi) else default, by simp, fun i hi => ?_⟩
  rw [List.getD_eq_getElem?_getD, List.getElem?_map, List.getElem?_range hi]
  simp only [Option.map_some, Option.getD_some, dif_pos hi]
  exact Classical.choose_spec (h i hi)
set_option maxRecDepth 100000 in
/-- structs of k cells out of their cells one by one -/
theorem Rws.of_cells {α : Type} [Inhabited α] {enc : α → List Value} {k : Nat} (hk : ∀ x, (enc x).length = k) (h0 : 0 < k) {w : World} {B n c g o : Nat} {l : List α} (hl : l.length = n) (hc : n ≤ c) (hm : c ≤ maxLen) (hg : 0 < n → g < B)
    (h : ∀ i, i < n → ∀ j u, j < k → (enc (l.getD i default))[j]? = some u → w.cell? ⟨g, o + (i * k + j), none⟩ = some u) : Rws enc w B (some ⟨g, o, none⟩) n c l := by
  refine ⟨hl, hc, hm, (fun e => by cases e), fun hn => ⟨g, o, rfl, hg hn, fun j u hj => ?_⟩⟩
  have hlt := (List.getElem?_eq_some_iff.1 hj).1
  rw [len_cellsR hk] at hlt
  have hi : j / k < n := by rw [← hl]; exact Nat.div_lt_of_lt_mul (by rw [Nat.mul_comm]; exact hlt)
  have hr : j % k < k := Nat.mod_lt _ h0
  have e : j / k * k + j % k = j := by rw [Nat.mul_comm]; exact Nat.div_add_mod j k
  have := h (j / k) hi (j % k) u hr (by rw [← cellsR_at hk l (j / k) (j % k) (by omega) hr, e]; exact hj)
  rwa [e] at this
section
variable {H : Type} {enc : TypeId × Value → H} {W : World}
/-- rows of whatever lies in k cells, each told by its cells -/
theorem open_rows_k {α : Type} [Inhabited α] {en : α → List Value} {k : Nat} (hk : ∀ x, (en x).length = k) (h0 : 0 < k) (Q : α → Prop) {t tE : TypeId} (ht : Try.prog.underlying t = some (.slice tE)) (cE : Try.prog.cellsOf tE = k)
    (hE : ∀ fuel cs z, cs.length = k → DataW.trod enc Try.prog W 0 (fun _ => true) true fuel tE cs = some z → ∃ x, cs = en x ∧ Q x) {A0 : Option Addr} {n c : Nat} {d : DataW H} {p : List MemPlace} (h : DataW.Trod enc Try.prog W 0 (fun _ => true) true t (.slice A0 n c) d p) :
    ∃ L, Rws en W W.heap.size A0 n c L ∧ ∀ o ∈ L, Q o := by
  obtain ⟨fuel, hf⟩ := h
  rcases Deep.open_slice ht hf with ⟨h1, _⟩ | ⟨a, len, cap, m, n', D, Pl', hcs, _, hl, hm, hmm, hz, hi⟩
  · have hv := (List.cons.inj h1).1
    injection hv with e1 e2 e3
    subst e1 e2 e3
    exact ⟨[], Rws.none_ _ _ _, fun o ho => by cases ho⟩
  · have hv := (List.cons.inj hcs).1
    injection hv with e1 e2 e3
    subst e1 e2 e3
    simp only [if_true] at hmm
    obtain ⟨b, off, spot⟩ := a
    have hspot : 0 < n → spot = none := fun hn => by
      obtain ⟨cs', hc, _⟩ := hi 0 (by omega)
      rw [cE] at hc
      obtain ⟨_, hcl, hat⟩ := World.cells?_some hc
      have h2 := hat 0 (by omega)
      rw [List.getElem?_eq_getElem (by omega)] at h2
      simpa [Addr.add] using World.cell?_spot h2
    obtain ⟨L, hl1, hl2⟩ := pick_list n (fun i (x : α) => (∀ j u, j < k → (en x)[j]? = some u → W.cell? ⟨b, off + (i * k + j), none⟩ = some u) ∧ b < W.heap.size ∧ Q x) (fun i hin => by
      obtain ⟨cs', hc, ht'⟩ := hi i (by omega)
      rw [cE] at hc
      obtain ⟨_, hcl, hat⟩ := World.cells?_some hc
      rw [hspot (by omega)] at hat
      obtain ⟨x, hx, hq⟩ := hE _ cs' _ hcl ht'
      subst hx
      have hat' : ∀ j v, j < k → (en x)[j]? = some v → W.cell? ⟨b, off + (i * k + j), none⟩ = some v := fun j v hj hv => by
        have h2 := hat j hj
        rw [Go.Deep.add_add, Addr.add_lit] at h2
        rw [h2]
        exact hv
      refine ⟨x, hat', ?_, hq⟩
      have hj : (en x)[0]? = some ((en x)[0]'(by rw [hk]; exact h0)) := List.getElem?_eq_getElem _
      exact World.block_lt_of_cell? W _ (hat' 0 _ h0 hj))
    have hA : 0 < n → (some ⟨b, off, spot⟩ : Option Addr) = some ⟨b, off, none⟩ := fun h => by rw [hspot h]
    have hR := Rws.of_cells (enc := en) (k := k) hk h0 (w := W) (B := W.heap.size) (g := b) (o := off) hl1 hl hm (fun h => (hl2 0 h).2.1) (fun i hi => (hl2 i hi).1)
    have hR2 : Rws en W W.heap.size (some ⟨b, off, spot⟩) n c L := ⟨hR.1, hR.2.1, hR.2.2.1, (fun e => by cases e), fun h => by rw [hA h]; exact hR.2.2.2.2 h⟩
    exact ⟨L, hR2, fun o ho => by
      obtain ⟨i, hi, rfl⟩ := List.getElem_of_mem ho
      have := (hl2 i (by omega)).2.2
      rwa [List.getD_eq_getElem?_getD, List.getElem?_eq_getElem hi] at this⟩
/-- one int in its cell -/
theorem int_cell {t : TypeId} {q : IntKind} (ht : Try.prog.underlying t = some (.int q)) {v : Value} {fuel : Nat} {z : DataW H × List MemPlace} (h : DataW.trod enc Try.prog W 0 (fun _ => true) true fuel t [v] = some z) : ∃ x : Int, v = .int q x ∧ (Lit.int q x).wf = true := by
  obtain ⟨k, g, _, w⟩ := DataW.trod_int ht h
  exact ⟨k, (List.cons.inj g).1, w⟩
/-- rows of ints -/
theorem open_ints_k {q : IntKind} {en : Int → List Value} (he : ∀ x, en x = [.int q x]) (Q : Int → Prop) (hQ : ∀ x, (Lit.int q x).wf = true → Q x) {t tE : TypeId} (ht : Try.prog.underlying t = some (.slice tE)) (hE : Try.prog.underlying tE = some (.int q)) (cE : Try.prog.cellsOf tE = 1) {A0 : Option Addr} {n c : Nat} {d : DataW H} {p : List MemPlace} (h : DataW.Trod enc Try.prog W 0 (fun _ => true) true t (.slice A0 n c) d p) :
    ∃ L, Rws en W W.heap.size A0 n c L ∧ ∀ o ∈ L, Q o :=
  open_rows_k (fun x => by rw [he]; rfl) (by decide) Q ht cE (fun fuel cs z hc hz => by
    match cs, hc, hz with
    | [v], _, hz =>
      obtain ⟨x, rfl, hw⟩ := int_cell hE hz
      exact ⟨x, by rw [he], hQ x hw⟩) h
/-- a struct of two ints out of its cells -/
theorem two_cells {tS t0 t1 : TypeId} {q0 q1 : IntKind} (h0 : Try.prog.underlying t0 = some (.int q0)) (c0 : Try.prog.cellsOf t0 = 1) (h1 : Try.prog.underlying t1 = some (.int q1)) (c1 : Try.prog.cellsOf t1 = 1) {f0 f1 : Field} (hS : Try.prog.underlying tS = some (.struct #[f0, f1]))
    (e0 : f0.type = t0) (o0 : f0.offset = 0) (e1 : f1.type = t1) (o1 : f1.offset = 1) {fuel : Nat} {cs : List Value} {z : DataW H × List MemPlace} (hc : cs.length = 2) (hf : DataW.trod enc Try.prog W 0 (fun _ => true) true fuel tS cs = some z) :
    ∃ x y : Int, cs = [.int q0 x, .int q1 y] ∧ (Lit.int q0 x).wf = true ∧ (Lit.int q1 y).wf = true := by
  match cs, hc, hf with
  | [a0, a1], _, hf =>
    obtain ⟨xs, n, _, rfl, hl, hlen, hf⟩ := DataW.trod_struct hS hf
    match xs, hlen with
    | [y0, y1], _ =>
      have g0 : DataW.trod enc Try.prog W 0 (fun _ => true) true n f0.type (([a0, a1].drop f0.offset).take (Try.prog.cellsOf f0.type)) = some y0 := by simpa using hf 0 f0 rfl
      have g1 : DataW.trod enc Try.prog W 0 (fun _ => true) true n f1.type (([a0, a1].drop f1.offset).take (Try.prog.cellsOf f1.type)) = some y1 := by simpa using hf 1 f1 rfl
      rw [e0, o0, c0] at g0
      rw [e1, o1, c1] at g1
      simp only [List.drop_zero, List.drop_succ_cons, List.take_succ_cons, List.take_zero] at g0 g1
      obtain ⟨x, rfl, hx⟩ := int_cell h0 g0
      obtain ⟨y, rfl, hy⟩ := int_cell h1 g1
      exact ⟨x, y, rfl, hx, hy⟩
/-- a struct of three ints out of its cells -/
theorem three_cells {tS t0 t1 t2 : TypeId} {q0 q1 q2 : IntKind} (h0 : Try.prog.underlying t0 = some (.int q0)) (c0 : Try.prog.cellsOf t0 = 1) (h1 : Try.prog.underlying t1 = some (.int q1)) (c1 : Try.prog.cellsOf t1 = 1) (h2 : Try.prog.underlying t2 = some (.int q2)) (c2 : Try.prog.cellsOf t2 = 1) {f0 f1 f2 : Field} (hS : Try.prog.underlying tS = some (.struct #[f0, f1, f2]))
    (e0 : f0.type = t0) (o0 : f0.offset = 0) (e1 : f1.type = t1) (o1 : f1.offset = 1) (e2 : f2.type = t2) (o2 : f2.offset = 2) {fuel : Nat} {cs : List Value} {z : DataW H × List MemPlace} (hc : cs.length = 3) (hf : DataW.trod enc Try.prog W 0 (fun _ => true) true fuel tS cs = some z) :
    ∃ x y u : Int, cs = [.int q0 x, .int q1 y, .int q2 u] ∧ (Lit.int q0 x).wf = true ∧ (Lit.int q1 y).wf = true ∧ (Lit.int q2 u).wf = true := by
  match cs, hc, hf with
  | [a0, a1, a2], _, hf =>
    obtain ⟨xs, n, _, rfl, hl, hlen, hf⟩ := DataW.trod_struct hS hf
    match xs, hlen with
    | [y0, y1, y2], _ =>
      have g0 : DataW.trod enc Try.prog W 0 (fun _ => true) true n f0.type (([a0, a1, a2].drop f0.offset).take (Try.prog.cellsOf f0.type)) = some y0 := by simpa using hf 0 f0 rfl
      have g1 : DataW.trod enc Try.prog W 0 (fun _ => true) true n f1.type (([a0, a1, a2].drop f1.offset).take (Try.prog.cellsOf f1.type)) = some y1 := by simpa using hf 1 f1 rfl
      have g2 : DataW.trod enc Try.prog W 0 (fun _ => true) true n f2.type (([a0, a1, a2].drop f2.offset).take (Try.prog.cellsOf f2.type)) = some y2 := by simpa using hf 2 f2 rfl
      rw [e0, o0, c0] at g0
      rw [e1, o1, c1] at g1
      rw [e2, o2, c2] at g2
      simp only [List.drop_zero, List.drop_succ_cons, List.take_succ_cons, List.take_zero] at g0 g1 g2
      obtain ⟨x, rfl, hx⟩ := int_cell h0 g0
      obtain ⟨y, rfl, hy⟩ := int_cell h1 g1
      obtain ⟨u, rfl, hu⟩ := int_cell h2 g2
      exact ⟨x, y, u, rfl, hx, hy, hu⟩
end
end Go.Proofs.Ytjplchajopkpcaa.Bo
