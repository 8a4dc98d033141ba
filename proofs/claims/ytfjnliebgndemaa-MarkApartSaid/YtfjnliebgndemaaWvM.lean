/-
  Rows of units in memory, and how they come out of what can be read as data. Conditions: those that each states.
-/
import Derived.Test.YtfjnliebgndemaaWvO
namespace Go.Proofs.Ytfjnliebgndemaa
open Go.RowKit Go.ChangeShapes Go.WideShapes
open Pl (Un)

instance : Inhabited Un := ⟨⟨0, 0, 0, 0, 0⟩⟩
def encU (u : Un) : List Value := [.int .i64 u.k, .int .i64 u.p, .int .i32 u.c, .int .u32 u.x, .int .u64 u.y]
set_option maxRecDepth 100000 in
theorem encU_len (u : Un) : (encU u).length = 5 := rfl
set_option maxRecDepth 100000 in
theorem encU_one (u : Un) : ∀ v ∈ encU u, v.oneCell' = true := by
  intro v hv
  simp only [encU, List.mem_cons, List.not_mem_nil, or_false] at hv
  rcases hv with rfl | rfl | rfl | rfl | rfl <;> rfl
set_option maxRecDepth 100000 in
theorem infoUn : (Try.prog.info? 57).map (fun i => (i.zero, i.size, i.bytes)) = some (some (.agg #[.int .i64 0, .int .i64 0, .int .i32 0, .int .u32 0, .int .u64 0]), 5, 40) := by kernel_rfl
abbrev Uns := Rws encU
abbrev OwnU (w : World) (base : Nat) (v : Value) (l : List Un) : Prop := OwnR encU 5 57 w base v l
set_option maxRecDepth 100000 in
theorem Uns.at_ {w : World} {B : Nat} {A : Option Addr} {n c : Nat} {l : List Un} (h : Uns w B A n c l) {i : Nat} (hi : i < n) :
    ∃ g o, A = some ⟨g, o, none⟩ ∧ g < B ∧ ∀ i, i < n → w.cell? ⟨g, o + i * 5, none⟩ = some (.int .i64 (l.getD i default).k) ∧ w.cell? ⟨g, o + i * 5 + 1, none⟩ = some (.int .i64 (l.getD i default).p) ∧ w.cell? ⟨g, o + i * 5 + 2, none⟩ = some (.int .i32 (l.getD i default).c) ∧
      w.cell? ⟨g, o + i * 5 + 3, none⟩ = some (.int .u32 (l.getD i default).x) ∧ w.cell? ⟨g, o + i * 5 + 4, none⟩ = some (.int .u64 (l.getD i default).y) := by
  obtain ⟨g, o, e, hg, hc⟩ := Rws.at_ encU_len h hi
  exact ⟨g, o, e, hg, fun i hi => ⟨hc i hi 0 _ (by decide) rfl, hc i hi 1 _ (by decide) rfl, hc i hi 2 _ (by decide) rfl, hc i hi 3 _ (by decide) rfl, hc i hi 4 _ (by decide) rfl⟩⟩
set_option maxRecDepth 100000 in
/-- one unit's cells, of a row of the call's own -/
theorem OwnU.cells {w : World} {base g n c : Nat} {l : List Un} (h : OwnU w base (.slice (some ⟨g, 0, none⟩) n c) l) {i : Nat} (hi : i < n) :
    w.cell? ⟨g, i * 5, none⟩ = some (.int .i64 (l.getD i default).k) ∧ w.cell? ⟨g, i * 5 + 1, none⟩ = some (.int .i64 (l.getD i default).p) ∧ w.cell? ⟨g, i * 5 + 2, none⟩ = some (.int .i32 (l.getD i default).c) ∧
      w.cell? ⟨g, i * 5 + 3, none⟩ = some (.int .u32 (l.getD i default).x) ∧ w.cell? ⟨g, i * 5 + 4, none⟩ = some (.int .u64 (l.getD i default).y) ∧ ∀ j, w.frozen? ⟨g, j, none⟩ = false := by
  obtain ⟨hn, _⟩ := OwnR.rws encU_len h
  have h' : w.ownsRow base 57 5 (.slice (some ⟨g, 0, none⟩) n c) n (cellsR encU l) := by
    have h1 : w.ownsRow base 57 5 (.slice (some ⟨g, 0, none⟩) n c) l.length (cellsR encU l) := h
    rwa [← hn] at h1
  have hat := fun j (hj : j < 5) => (World.ownsRow.cellAt h' (i * 5 + j) (by omega)).trans (cellsR_at encU_len l i j (by omega) hj)
  exact ⟨hat 0 (by decide), hat 1 (by decide), hat 2 (by decide), hat 3 (by decide), hat 4 (by decide), fun j => World.ownsRow.frozenAt h' j⟩
set_option maxRecDepth 100000 in
/-- a list out of what there is at each place -/
theorem pick_list {α : Type} [Inhabited α] (n : Nat) (P : Nat → α → Prop) (h : ∀ i, i < n → ∃ a, P i a) : ∃ l : List α, l.length = n ∧ ∀ i, i < n → P i (l.getD i default) := by
  classical
  refine ⟨(List.range n).map fun i => if hi : i < n then Classical.choose (h i hi) else default, by simp, fun i hi => ?_⟩
  rw [List.getD_eq_getElem?_getD, List.getElem?_map, List.getElem?_range hi]
  simp only [Option.map_some, Option.getD_some, dif_pos hi]
  exact Classical.choose_spec (h i hi)
set_option maxRecDepth 100000 in
/-- structs of k cells out of their cells one by one -/
theorem Rws.of_cells {α : Type} [Inhabited α] {enc : α → List Value} {k : Nat} (hk : ∀ x, (enc x).length = k) (h0 : 0 < k) {w : World} {B n c g o : Nat} {l : List α} (hl : l.length = n) (hc : n ≤ c) (hm : c ≤ maxLen) (hg : 0 < n → g < B)
    (h : ∀ i, i < n → ∀ j u, j < k → (enc (l.getD i default))[j]? = some u → w.cell? ⟨g, o + (i * k + j), none⟩ = some u) : Rws enc w B (some ⟨g, o, none⟩) n c l := by
  refine ⟨hl, hc, hm, (fun e => by cases e), fun hn => ⟨g, o, rfl, hg hn, fun j u hj => ?_⟩⟩
  have hlt := (List.getElem?_eq_some_iff.1 hj).1
  rw [len_cellsR hk] at hlt
  have hi : j / k < n := by rw [← hl]; exact Nat.div_lt_of_lt_mul (by rw [Nat.mul_comm]; exact hlt)
  have hr : j % k < k := Nat.mod_lt _ h0
  have e : j / k * k + j % k = j := by rw [Nat.mul_comm]; exact Nat.div_add_mod j k
  have := h (j / k) hi (j % k) u hr (by rw [← cellsR_at hk l (j / k) (j % k) (by omega) hr, e]; exact hj)
  rwa [e] at this
section
variable {H : Type} {enc : TypeId × Value → H} {W : World}
set_option maxRecDepth 100000 in
theorem unit_cells {fuel : Nat} {a0 a1 a2 a3 a4 : Value} {z : DataW H × List MemPlace} (hf : DataW.trod enc Try.prog W 0 (fun _ => true) true fuel 57 [a0, a1, a2, a3, a4] = some z) : ∃ u : Un, [a0, a1, a2, a3, a4] = encU u ∧ Pl.UnB u := by
  obtain ⟨y0, y1, y2, y3, n, h0, h1, h2, h3⟩ := trod_struct4 Try.underlying57 hf
  simp only at h0 h1 h2 h3
  rw [show Try.prog.cellsOf 3 = 1 from by kernel_rfl] at h0 h1
  rw [show Try.prog.cellsOf 25 = 1 from by kernel_rfl] at h2
  rw [show Try.prog.cellsOf 55 = 2 from by kernel_rfl] at h3
  simp only [List.drop_zero, List.drop_succ_cons, List.take_succ_cons, List.take_zero] at h0 h1 h2 h3
  obtain ⟨k, g0, _, w0⟩ := DataW.trod_int Try.underlying3 h0
  obtain ⟨q, g1, _, w1⟩ := DataW.trod_int Try.underlying3 h1
  obtain ⟨c, g2, _, w2⟩ := DataW.trod_int Try.underlying25 h2
  obtain ⟨x, y, rfl, rfl, hb⟩ := open_id_cells h3
  obtain rfl := (List.cons.inj g0).1
  obtain rfl := (List.cons.inj g1).1
  obtain rfl := (List.cons.inj g2).1
  have b0 := bounds_i64 w0
  have b1 := bounds_i64 w1
  have b2 := bounds_i32 w2
  exact ⟨⟨k, q, c, x, y⟩, rfl, Pl.I.mk (by simp only; omega), Pl.I.mk (by simp only; omega), (by unfold Pl.J; simp only; omega), hb⟩
/-- a row of units, each within its types' bounds (mkframe's kind 'units': open_units is open_units_of at []api.Unit, in a text of the seat that has that type) -/
def Units (w : World) (B : Nat) (A : Option Addr) (n c : Nat) (l : List Un) : Prop := Uns w B A n c l ∧ ∀ u ∈ l, Pl.UnB u
set_option maxRecDepth 100000 in
/-- rows of units; t is the slice's type -/
theorem open_units_of {t : TypeId} (ht : Try.prog.underlying t = some (.slice 57)) {A0 : Option Addr} {n c : Nat} {d : DataW H} {p : List MemPlace} (h : DataW.Trod enc Try.prog W 0 (fun _ => true) true t (.slice A0 n c) d p) : ∃ l, Units W W.heap.size A0 n c l := by
  obtain ⟨fuel, hf⟩ := h
  rcases Deep.open_slice ht hf with ⟨h0, _⟩ | ⟨a, len, cap, m, n', D, Pl', hcs, _, hl, hm, hmm, _, hi⟩
  · have hv := (List.cons.inj h0).1
    injection hv with e1 e2 e3
    subst e1 e2 e3
    exact ⟨[], Rws.none_ _ _ _, fun u hu => by cases hu⟩
  · have hv := (List.cons.inj hcs).1
    injection hv with e1 e2 e3
    subst e1 e2 e3
    obtain ⟨b, off, spot⟩ := a
    have hspot : 0 < n → spot = none := fun h0 => by
      obtain ⟨cs', hc, _⟩ := hi 0 (by rw [hmm]; split <;> omega)
      rw [show Try.prog.cellsOf 57 = 5 from by kernel_rfl] at hc
      obtain ⟨_, hcl, hat⟩ := World.cells?_some hc
      have h2 := hat 0 (by omega)
      rw [List.getElem?_eq_getElem (by omega)] at h2
      simpa [Addr.add] using World.cell?_spot h2
    obtain ⟨l, hl1, hl2⟩ := pick_list n (fun i (x : Un) => (∀ j u, j < 5 → (encU x)[j]? = some u → W.cell? ⟨b, off + (i * 5 + j), none⟩ = some u) ∧ b < W.heap.size ∧ Pl.UnB x) (fun i hin => by
      obtain ⟨cs', hc, ht'⟩ := hi i (by rw [hmm]; split <;> omega)
      rw [show Try.prog.cellsOf 57 = 5 from by kernel_rfl] at hc
      obtain ⟨_, hcl, hat⟩ := World.cells?_some hc
      rw [hspot (by omega)] at hat
      match cs', hcl, ht', hat with
      | [a0, a1, a2, a3, a4], _, ht', hat =>
        obtain ⟨u, hu, hb⟩ := unit_cells ht'
        rw [hu] at hat
        have hat' : ∀ j v, j < 5 → (encU u)[j]? = some v → W.cell? ⟨b, off + (i * 5 + j), none⟩ = some v := fun j v hj hv => by
          have h2 := hat j (by simpa [encU] using hj)
          rw [Go.Deep.add_add, Addr.add_lit] at h2
          rw [h2]
          exact hv
        exact ⟨u, hat', World.block_lt_of_cell? W _ (hat' 0 _ (by decide) rfl), hb⟩)
    have hA : 0 < n → (some ⟨b, off, spot⟩ : Option Addr) = some ⟨b, off, none⟩ := fun h => by rw [hspot h]
    refine ⟨l, ?_, fun u hu => ?_⟩
    · have hR := Rws.of_cells (enc := encU) (k := 5) encU_len (by decide) (w := W) (B := W.heap.size) (g := b) (o := off) hl1 hl hm (fun h => (hl2 0 h).2.1) (fun i hi => (hl2 i hi).1)
      exact ⟨hR.1, hR.2.1, hR.2.2.1, (fun e => by cases e), fun h => by rw [hA h]; exact hR.2.2.2.2 h⟩
    · obtain ⟨i, hi, rfl⟩ := List.getElem_of_mem hu
      have := (hl2 i (by omega)).2.2
      rwa [List.getD_eq_getElem?_getD, List.getElem?_eq_getElem hi] at this
end
end Go.Proofs.Ytfjnliebgndemaa
