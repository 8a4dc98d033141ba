/-
  What layer 11's laws are given, out of what can be read as data: rows of rows of units; calls (a kind, a client, a place, a row of units); two bytes. The types' numbers are left open. Conditions: those that each states.
-/
import Derived.Test.YtfjnliebgndemaaWvM
import Derived.SizedLaws
import Derived.ChangeArms
namespace Go.Proofs.Ytfjnliebgndemaa
open Go.RowKit Go.ChangeShapes Go.WideShapes
open Pl (Un)

/-- a row of units, as a value of one cell -/
structure SlU where
  A : Option Addr
  n : Nat
  c : Nat
  l : List Un
instance : Inhabited SlU := ⟨⟨none, 0, 0, []⟩⟩
def encS (r : SlU) : List Value := [.slice r.A r.n r.c]
theorem encS_len (r : SlU) : (encS r).length = 1 := rfl
/-- a call of the laws' -/
structure ActM where
  k : Int
  x : Int
  p : Int
  A : Option Addr
  n : Nat
  c : Nat
  l : List Un
instance : Inhabited ActM := ⟨⟨0, 0, 0, none, 0, 0, []⟩⟩
def encA (a : ActM) : List Value := [.int .i64 a.k, .int .u32 a.x, .int .i64 a.p, .slice a.A a.n a.c]
theorem encA_len (a : ActM) : (encA a).length = 4 := rfl
section
variable {H : Type} {enc : TypeId × Value → H} {W : World}
/-- a row of units out of one cell -/
theorem row_cell {tU : TypeId} (hU : Try.prog.underlying tU = some (.slice 57)) {v : Value} {fuel : Nat} {z : DataW H × List MemPlace} (h : DataW.trod enc Try.prog W 0 (fun _ => true) true fuel tU [v] = some z) : ∃ A n c l, v = .slice A n c ∧ Units W W.heap.size A n c l := by
  rcases Deep.open_slice hU h with ⟨h0, _⟩ | ⟨a, len, cap, m, n', D, Pl', hcs, _, hl, hm, hmm, hz, _⟩
  · have hv := (List.cons.inj h0).1
    subst hv
    obtain ⟨l, hl⟩ := open_units_of hU ⟨fuel, h⟩
    exact ⟨none, 0, 0, l, rfl, hl⟩
  · have hv := (List.cons.inj hcs).1
    subst hv
    obtain ⟨l, hl2⟩ := open_units_of hU ⟨fuel, h⟩
    exact ⟨_, _, _, l, rfl, hl2⟩
/-- rows of whatever lies in k cells, each told by its cells -/
theorem open_rows_k {α : Type} [Inhabited α] {en : α → List Value} {k : Nat} (hk : ∀ x, (en x).length = k) (h0 : 0 < k) (Q : α → Prop) {t tE : TypeId} (ht : Try.prog.underlying t = some (.slice tE)) (cE : Try.prog.cellsOf tE = k)
    (hE : ∀ fuel cs z, cs.length = k → DataW.trod enc Try.prog W 0 (fun _ => true) true fuel tE cs = some z → ∃ x, cs = en x ∧ Q x) {A0 : Option Addr} {n c : Nat} {d : DataW H} {p : List MemPlace} (h : DataW.Trod enc Try.prog W 0 (fun _ => true) true t (.slice A0 n c) d p) :
    ∃ L, Rws en W W.heap.size A0 n c L ∧ ∀ o ∈ L, Q o := by
  obtain ⟨fuel, hf⟩ := h
  rcases Deep.open_slice ht hf with ⟨h1, _⟩ | ⟨a, len, cap, m, n', D, Pl', hcs, _, hl, hm, hmm, hz, hi⟩
  · have hv := (List.cons.inj h1).1
    injection hv with e1 e2 e3
    subst e1 e2 e3
    exact ⟨[], Rws.none_ _ _ _, fun o ho => by cases ho⟩
  · have hv := (List.cons.inj hcs).1
    injection hv with e1 e2 e3
    subst e1 e2 e3
    simp only [if_true] at hmm
    obtain ⟨b, off, spot⟩ := a
    have hspot : 0 < n → spot = none := fun hn => by
      obtain ⟨cs', hc, _⟩ := hi 0 (by omega)
      rw [cE] at hc
      obtain ⟨_, hcl, hat⟩ := World.cells?_some hc
      have h2 := hat 0 (by omega)
      rw [List.getElem?_eq_getElem (by omega)] at h2
      simpa [Addr.add] using World.cell?_spot h2
    obtain ⟨L, hl1, hl2⟩ := pick_list n (fun i (x : α) => (∀ j u, j < k → (en x)[j]? = some u → W.cell? ⟨b, off + (i * k + j), none⟩ = some u) ∧ b < W.heap.size ∧ Q x) (fun i hin => by
      obtain ⟨cs', hc, ht'⟩ := hi i (by omega)
      rw [cE] at hc
      obtain ⟨_, hcl, hat⟩ := World.cells?_some hc
      rw [hspot (by omega)] at hat
      obtain ⟨x, hx, hq⟩ := hE _ cs' _ hcl ht'
      subst hx
      have hat' : ∀ j v, j < k → (en x)[j]? = some v → W.cell? ⟨b, off + (i * k + j), none⟩ = some v := fun j v hj hv => by
        have h2 := hat j hj
        rw [Go.Deep.add_add, Addr.add_lit] at h2
        rw [h2]
        exact hv
      refine ⟨x, hat', ?_, hq⟩
      have hj : (en x)[0]? = some ((en x)[0]'(by rw [hk]; exact h0)) := List.getElem?_eq_getElem _
      exact World.block_lt_of_cell? W _ (hat' 0 _ h0 hj))
    have hA : 0 < n → (some ⟨b, off, spot⟩ : Option Addr) = some ⟨b, off, none⟩ := fun h => by rw [hspot h]
    have hR := Rws.of_cells (enc := en) (k := k) hk h0 (w := W) (B := W.heap.size) (g := b) (o := off) hl1 hl hm (fun h => (hl2 0 h).2.1) (fun i hi => (hl2 i hi).1)
    have hR2 : Rws en W W.heap.size (some ⟨b, off, spot⟩) n c L := ⟨hR.1, hR.2.1, hR.2.2.1, (fun e => by cases e), fun h => by rw [hA h]; exact hR.2.2.2.2 h⟩
    exact ⟨L, hR2, fun o ho => by
      obtain ⟨i, hi, rfl⟩ := List.getElem_of_mem ho
      have := (hl2 i (by omega)).2.2
      rwa [List.getD_eq_getElem?_getD, List.getElem?_eq_getElem hi] at this⟩
/-- rows of rows of units -/
theorem open_rows_of {t tU : TypeId} (ht : Try.prog.underlying t = some (.slice tU)) (hU : Try.prog.underlying tU = some (.slice 57)) (cU : Try.prog.cellsOf tU = 1) {A0 : Option Addr} {n c : Nat} {d : DataW H} {p : List MemPlace} (h : DataW.Trod enc Try.prog W 0 (fun _ => true) true t (.slice A0 n c) d p) :
    ∃ R, Rws encS W W.heap.size A0 n c R ∧ ∀ r ∈ R, Units W W.heap.size r.A r.n r.c r.l :=
  open_rows_k encS_len (by decide) (fun r => Units W W.heap.size r.A r.n r.c r.l) ht cU (fun fuel cs z hc hz => by
    match cs, hc, hz with
    | [v], _, hz =>
      obtain ⟨A, n, c, l, rfl, hu⟩ := row_cell hU hz
      exact ⟨⟨A, n, c, l⟩, rfl, hu⟩) h
/-- one call out of its cells -/
theorem act_cells {tA tX tU : TypeId} (hX : Try.prog.underlying tX = some (.int .u32)) (cX : Try.prog.cellsOf tX = 1) (hU : Try.prog.underlying tU = some (.slice 57)) (cU : Try.prog.cellsOf tU = 1) {f0 f1 f2 f3 : Field} (hA : Try.prog.underlying tA = some (.struct #[f0, f1, f2, f3]))
    (t0 : f0.type = 3) (o0 : f0.offset = 0) (t1 : f1.type = tX) (o1 : f1.offset = 1) (t2 : f2.type = 3) (o2 : f2.offset = 2) (t3 : f3.type = tU) (o3 : f3.offset = 3) {fuel : Nat} {cs : List Value} {z : DataW H × List MemPlace}
    (hc : cs.length = 4) (hf : DataW.trod enc Try.prog W 0 (fun _ => true) true fuel tA cs = some z) :
    ∃ o : ActM, cs = encA o ∧ Units W W.heap.size o.A o.n o.c o.l ∧ Pl.I o.k ∧ (0 ≤ o.x ∧ o.x ≤ 4294967295) ∧ Pl.I o.p := by
  match cs, hc, hf with
  | [a0, a1, a2, a3], _, hf =>
    obtain ⟨xs, n, _, rfl, hl, hlen, hf⟩ := DataW.trod_struct hA hf
    match xs, hlen with
    | [y0, y1, y2, y3], _ =>
      have h0 : DataW.trod enc Try.prog W 0 (fun _ => true) true n f0.type (([a0, a1, a2, a3].drop f0.offset).take (Try.prog.cellsOf f0.type)) = some y0 := by simpa using hf 0 f0 rfl
      have h1 : DataW.trod enc Try.prog W 0 (fun _ => true) true n f1.type (([a0, a1, a2, a3].drop f1.offset).take (Try.prog.cellsOf f1.type)) = some y1 := by simpa using hf 1 f1 rfl
      have h2 : DataW.trod enc Try.prog W 0 (fun _ => true) true n f2.type (([a0, a1, a2, a3].drop f2.offset).take (Try.prog.cellsOf f2.type)) = some y2 := by simpa using hf 2 f2 rfl
      have h3 : DataW.trod enc Try.prog W 0 (fun _ => true) true n f3.type (([a0, a1, a2, a3].drop f3.offset).take (Try.prog.cellsOf f3.type)) = some y3 := by simpa using hf 3 f3 rfl
      rw [t0, o0, show Try.prog.cellsOf 3 = 1 from by kernel_rfl] at h0
      rw [t1, o1, cX] at h1
      rw [t2, o2, show Try.prog.cellsOf 3 = 1 from by kernel_rfl] at h2
      rw [t3, o3, cU] at h3
      simp only [List.drop_zero, List.drop_succ_cons, List.take_succ_cons, List.take_zero] at h0 h1 h2 h3
      obtain ⟨k, g0, _, w0⟩ := DataW.trod_int Try.underlying3 h0
      obtain ⟨x, g1, _, w1⟩ := DataW.trod_int hX h1
      obtain ⟨p, g2, _, w2⟩ := DataW.trod_int Try.underlying3 h2
      obtain rfl := (List.cons.inj g0).1
      obtain rfl := (List.cons.inj g1).1
      obtain rfl := (List.cons.inj g2).1
      have b0 := bounds_i64 w0
      have b1 := bounds_u32 w1
      have b2 := bounds_i64 w2
      obtain ⟨A, n2, c, l, rfl, hu⟩ := row_cell hU h3
      exact ⟨⟨k, x, p, A, n2, c, l⟩, rfl, hu, Pl.I.mk (by simp only; omega), by simp only; omega, Pl.I.mk (by simp only; omega)⟩
/-- two bytes by value -/
theorem two_bytes {tT tB : TypeId} (hB : Try.prog.underlying tB = some (.int .u8)) (cB : Try.prog.cellsOf tB = 1) (hT : Try.prog.underlying tT = some (.array 2 tB)) {fuel : Nat} {a0 a1 : Value} {z : DataW H × List MemPlace} (hf : DataW.trod enc Try.prog W 0 (fun _ => true) true fuel tT [a0, a1] = some z) :
    ∃ x y : Nat, a0 = .int .u8 (x : Int) ∧ a1 = .int .u8 (y : Int) ∧ x < 256 ∧ y < 256 := by
  obtain ⟨xs, m, _, rfl, _, hl, hel⟩ := DataW.trod_array hT hf
  match xs, hl with
  | [y0, y1], _ =>
    have h0 : DataW.trod enc Try.prog W 0 (fun _ => true) true m tB (([a0, a1].drop (0 * Try.prog.cellsOf tB)).take (Try.prog.cellsOf tB)) = some y0 := by simpa using hel 0 (by decide)
    have h1 : DataW.trod enc Try.prog W 0 (fun _ => true) true m tB (([a0, a1].drop (1 * Try.prog.cellsOf tB)).take (Try.prog.cellsOf tB)) = some y1 := by simpa using hel 1 (by decide)
    rw [cB] at h0 h1
    simp only [Nat.zero_mul, Nat.one_mul, List.drop_zero, List.drop_succ_cons, List.take_succ_cons, List.take_zero] at h0 h1
    obtain ⟨x, g0, _, w0⟩ := DataW.trod_int hB h0
    obtain ⟨y, g1, _, w1⟩ := DataW.trod_int hB h1
    obtain rfl := (List.cons.inj g0).1
    obtain rfl := (List.cons.inj g1).1
    have b0 := bounds_u8 w0
    have b1 := bounds_u8 w1
    exact ⟨x.toNat, y.toNat, by rw [show ((x.toNat : Nat) : Int) = x by omega], by rw [show ((y.toNat : Nat) : Int) = y by omega], by omega, by omega⟩
theorem okWide_array {P : Program} {w : World} {r : Reach} {base : Nat} {t e : TypeId} {n : Nat} {v : Value} (ht : P.underlying t = some (.array n e)) (h : Value.okWide P w r base t v) : ∃ cs, v = .agg cs ∧ cs.size = P.cellsOf t := by
  simp only [Value.okWide, ht] at h
  obtain ⟨cs, h1, h2, _⟩ := h
  exact ⟨cs, h1, h2⟩
set_option maxRecDepth 4000 in
theorem open_two {tT tB : TypeId} (hB : Try.prog.underlying tB = some (.int .u8)) (cB : Try.prog.cellsOf tB = 1) (hT : Try.prog.underlying tT = some (.array 2 tB)) (cT : Try.prog.cellsOf tT = 2) {v : Value} {d : DataW H} {p : List MemPlace} (hval : Value.okWide Try.prog W .any 0 tT v) (h : DataW.Trod enc Try.prog W 0 (fun _ => true) true tT v d p) :
    ∃ x y : Nat, v = .agg #[.int .u8 (x : Int), .int .u8 (y : Int)] ∧ x < 256 ∧ y < 256 := by
  obtain ⟨⟨l⟩, rfl, hsz⟩ := okWide_array hT hval
  rw [cT] at hsz
  obtain ⟨fuel, hf⟩ := h
  match l, hsz, hf with
  | [a0, a1], _, hf =>
    obtain ⟨x, y, rfl, rfl, hx, hy⟩ := two_bytes hB cB hT (show DataW.trod enc Try.prog W 0 (fun _ => true) true fuel tT [a0, a1] = some _ from hf)
    exact ⟨x, y, rfl, hx, hy⟩
end
end Go.Proofs.Ytfjnliebgndemaa
