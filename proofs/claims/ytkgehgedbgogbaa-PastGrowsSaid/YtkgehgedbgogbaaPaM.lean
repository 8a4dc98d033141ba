/-
  Operations in memory (an Id, a row of units in memory of its own, whether undone), and how rows of them come out of what can be read as data: the words that layer 10 starts from. The operation's own type is left open. Conditions: those that each states.
-/
import Derived.Test.YtkgehgedbgogbaaPaB
import Derived.SizedLaws
import Derived.ChangeArms
namespace Go.Proofs.Ytkgehgedbgogbaa
open Go.RowKit Go.ChangeShapes Go.WideShapes
open Pl (Un)

/-- an operation in plain words -/
structure Pl.Op where
  x : Int
  y : Int
  l : List Un
  b : Bool
deriving DecidableEq
/-- an operation as a value: its units are a slice of their own -/
structure OpV where
  x : Int
  y : Int
  A : Option Addr
  n : Nat
  c : Nat
  l : List Un
  b : Bool
instance : Inhabited OpV := ⟨⟨0, 0, none, 0, 0, [], false⟩⟩
instance : Inhabited Pl.Op := ⟨⟨0, 0, [], false⟩⟩
/-- what it says -/
def OpV.op (o : OpV) : Pl.Op := ⟨o.x, o.y, o.l, o.b⟩
def oval (o : OpV) : Value := .agg #[.int .u32 o.x, .int .u64 o.y, .slice o.A o.n o.c, .bool o.b]
def encO (o : OpV) : List Value := [.int .u32 o.x, .int .u64 o.y, .slice o.A o.n o.c, .bool o.b]
theorem encO_len (o : OpV) : (encO o).length = 4 := rfl
theorem encO_one (o : OpV) : ∀ v ∈ encO o, v.oneCell' = true := by
  intro v hv
  simp only [encO, List.mem_cons, List.not_mem_nil, or_false] at hv
  rcases hv with rfl | rfl | rfl | rfl <;> rfl
/-- a slice lies in blocks of F -/
def In (F : Nat → Prop) (A : Option Addr) (n : Nat) : Prop := 0 < n → ∀ ad, A = some ad → F ad.block
theorem In.more {F G : Nat → Prop} {A : Option Addr} {n : Nat} (h : In F A n) (hg : ∀ b, F b → G b) : In G A n := fun h0 ad e => hg _ (h h0 ad e)
theorem In.apart {F T : Nat → Prop} {A : Option Addr} {n : Nat} (h : In F A n) (hd : ∀ b, F b → ¬ T b) : Apart T A n := fun h0 ad e => hd _ (h h0 ad e)
/-- rows of units that lie in blocks of F -/
def UnsF (w : World) (F : Nat → Prop) (A : Option Addr) (n c : Nat) (l : List Un) : Prop := Uns w w.heap.size A n c l ∧ In F A n
/-- rows of operations that lie, they and their units, in blocks of F -/
def OpsF (w : World) (F : Nat → Prop) (A : Option Addr) (n c : Nat) (L : List OpV) : Prop := Rws encO w w.heap.size A n c L ∧ In F A n ∧ ∀ o ∈ L, UnsF w F o.A o.n o.c o.l
section
variable {w w' : World} {F G T : Nat → Prop} {A : Option Addr} {n c : Nat} {l : List Un} {L : List OpV}
theorem UnsF.tn (h : UnsF w F A n c l) (ht : Tn T w w') (hd : ∀ b, F b → ¬ T b) : UnsF w' F A n c l := ⟨Rws.tn h.1 ht (h.2.apart hd), h.2⟩
theorem UnsF.then_ (h : UnsF w F A n c l) (hb : Below w.heap.size w w') : UnsF w' F A n c l := ⟨Rws.then_ h.1 hb, h.2⟩
theorem UnsF.more (h : UnsF w F A n c l) (hg : ∀ b, F b → G b) : UnsF w G A n c l := ⟨h.1, h.2.more hg⟩
theorem OpsF.tn (h : OpsF w F A n c L) (ht : Tn T w w') (hd : ∀ b, F b → ¬ T b) : OpsF w' F A n c L := ⟨Rws.tn h.1 ht (h.2.1.apart hd), h.2.1, fun o ho => (h.2.2 o ho).tn ht hd⟩
theorem OpsF.then_ (h : OpsF w F A n c L) (hb : Below w.heap.size w w') : OpsF w' F A n c L := ⟨Rws.then_ h.1 hb, h.2.1, fun o ho => (h.2.2 o ho).then_ hb⟩
theorem OpsF.more (h : OpsF w F A n c L) (hg : ∀ b, F b → G b) : OpsF w G A n c L := ⟨h.1, h.2.1.more hg, fun o ho => (h.2.2 o ho).more hg⟩
theorem OpsF.none_ (w : World) (F : Nat → Prop) : OpsF w F none 0 0 [] := ⟨Rws.none_ _ _ _, (fun h => absurd h (by decide)), fun o ho => by cases ho⟩
/-- one operation's cells -/
theorem OpsF.at_ (h : OpsF w F A n c L) {i : Nat} (hi : i < n) :
    ∃ g o, A = some ⟨g, o, none⟩ ∧ g < w.heap.size ∧ F g ∧ ∀ i, i < n → w.cell? ⟨g, o + i * 4, none⟩ = some (.int .u32 (L.getD i default).x) ∧ w.cell? ⟨g, o + i * 4 + 1, none⟩ = some (.int .u64 (L.getD i default).y) ∧
      w.cell? ⟨g, o + i * 4 + 2, none⟩ = some (.slice (L.getD i default).A (L.getD i default).n (L.getD i default).c) ∧ w.cell? ⟨g, o + i * 4 + 3, none⟩ = some (.bool (L.getD i default).b) := by
  obtain ⟨g, o, e, hg, hc⟩ := Rws.at_ encO_len h.1 hi
  exact ⟨g, o, e, hg, h.2.1 (by omega) _ e, fun i hi => ⟨hc i hi 0 _ (by decide) rfl, hc i hi 1 _ (by decide) rfl, hc i hi 2 _ (by decide) rfl, hc i hi 3 _ (by decide) rfl⟩⟩
theorem OpsF.getD_ (h : OpsF w F A n c L) {i : Nat} (hi : i < n) : UnsF w F (L.getD i default).A (L.getD i default).n (L.getD i default).c (L.getD i default).l := by
  refine h.2.2 _ ?_
  rw [List.getD_eq_getElem?_getD, List.getElem?_eq_getElem (by rw [h.1.1]; exact hi)]
  exact List.getElem_mem _
/-- what was there ahead of a world lies in its blocks -/
theorem Rws.in_ {α : Type} {enc : α → List Value} {B : Nat} {l : List α} (h : Rws enc w B A n c l) : In (fun b => b < B) A n := fun h0 ad e => by
  obtain ⟨g, o, e2, hg, _⟩ := h.2.2.2.2 h0
  rw [e] at e2; cases e2; exact hg
end
section
variable {H : Type} {enc : TypeId × Value → H} {W : World}
/-- what a row of units weighs -/
theorem units_weight {t : TypeId} (ht : Try.prog.underlying t = some (.slice 65)) {v : Value} {fuel : Nat} {z : DataW H × List MemPlace} (h : DataW.trod enc Try.prog W 0 (fun _ => true) true fuel t [v] = some z) (hs : (z.1.weights Try.prog t).all (· ≤ reachBytes) = true) :
    ∃ A n c l, v = .slice A n c ∧ Units W W.heap.size A n c l ∧ c * 40 ≤ reachBytes := by
  rcases Deep.open_slice ht h with ⟨h0, _⟩ | ⟨a, len, cap, m, n', D, Pl', hcs, _, hl, hm, hmm, hz, _⟩
  · have hv := (List.cons.inj h0).1
    subst hv
    obtain ⟨l, hl⟩ := open_units_of ht ⟨fuel, h⟩
    exact ⟨none, 0, 0, l, rfl, hl, by omega⟩
  · have hv := (List.cons.inj hcs).1
    subst hv
    obtain ⟨l, hl2⟩ := open_units_of ht ⟨fuel, h⟩
    refine ⟨_, _, _, l, rfl, hl2, ?_⟩
    simp only [if_true] at hmm
    rw [hz] at hs
    simp only [DataW.weights, ht] at hs
    have h1 := List.all_eq_true.1 hs _ (List.mem_cons_self ..)
    simp only [List.length_map, List.length_range, decide_eq_true_eq] at h1
    rw [show Try.prog.bytesOf 65 = 40 from by kernel_rfl] at h1
    have e : len + (m - len) = cap := by omega
    rw [e] at h1; exact h1
/-- one operation out of its cells -/
theorem op_cells {tO tU tB : TypeId} (hU : Try.prog.underlying tU = some (.slice 65)) (hB : Try.prog.underlying tB = some .bool) (cU : Try.prog.cellsOf tU = 1) (cB : Try.prog.cellsOf tB = 1) {f0 f1 f2 : Field} (hO : Try.prog.underlying tO = some (.struct #[f0, f1, f2]))
    (t0 : f0.type = 35) (o0 : f0.offset = 0) (t1 : f1.type = tU) (o1 : f1.offset = 2) (t2 : f2.type = tB) (o2 : f2.offset = 3) {fuel : Nat} {a0 a1 a2 a3 : Value} {z : DataW H × List MemPlace}
    (hf : DataW.trod enc Try.prog W 0 (fun _ => true) true fuel tO [a0, a1, a2, a3] = some z) (hs : (z.1.weights Try.prog tO).all (· ≤ reachBytes) = true) :
    ∃ o : OpV, [a0, a1, a2, a3] = encO o ∧ Units W W.heap.size o.A o.n o.c o.l ∧ o.c * 40 ≤ reachBytes ∧ Pl.IdB o.x o.y := by
  obtain ⟨xs, n, _, rfl, hl, hlen, hf⟩ := DataW.trod_struct hO hf
  match xs, hlen with
  | [y0, y1, y2], _ =>
    have h0 : DataW.trod enc Try.prog W 0 (fun _ => true) true n f0.type (([a0, a1, a2, a3].drop f0.offset).take (Try.prog.cellsOf f0.type)) = some y0 := by simpa using hf 0 f0 rfl
    have h1 : DataW.trod enc Try.prog W 0 (fun _ => true) true n f1.type (([a0, a1, a2, a3].drop f1.offset).take (Try.prog.cellsOf f1.type)) = some y1 := by simpa using hf 1 f1 rfl
    have h2 : DataW.trod enc Try.prog W 0 (fun _ => true) true n f2.type (([a0, a1, a2, a3].drop f2.offset).take (Try.prog.cellsOf f2.type)) = some y2 := by simpa using hf 2 f2 rfl
    rw [t0, o0, show Try.prog.cellsOf 35 = 2 from by kernel_rfl] at h0
    rw [t1, o1, cU] at h1
    rw [t2, o2, cB] at h2
    simp only [List.drop_zero, List.drop_succ_cons, List.take_succ_cons, List.take_zero] at h0 h1 h2
    obtain ⟨x, y, rfl, rfl, hid⟩ := open_id_cells h0
    obtain ⟨b, e2, _⟩ := DataW.trod_bool hB h2
    obtain rfl := (List.cons.inj e2).1
    have hw : (y1.1.weights Try.prog tU).all (· ≤ reachBytes) = true := by
      rw [List.all_eq_true] at hs ⊢
      intro k hk
      refine hs k ?_
      simp only [DataW.weights, hO, List.map_cons, List.map_nil, DataW.weightsEach, List.mem_append, t1]
      exact Or.inr (Or.inl hk)
    obtain ⟨A, n2, c, l, rfl, hu, hc⟩ := units_weight hU h1 hw
    exact ⟨⟨x, y, A, n2, c, l, b⟩, rfl, hu, hc, hid⟩
theorem weightsAll_mem {P : Program} {e : TypeId} : ∀ {l : List (DataW H)} {d : DataW H}, d ∈ l → ∀ n ∈ d.weights P e, n ∈ DataW.weightsAll P e l
  | d' :: r, d, hd, n, hn => by
    simp only [DataW.weightsAll, List.mem_append]
    rcases List.mem_cons.1 hd with rfl | h
    · exact Or.inl hn
    · exact Or.inr (weightsAll_mem h n hn)
/-- rows of operations; t is the slice's type, tO the operation's -/
theorem open_ops_of {t tO tU tB : TypeId} (ht : Try.prog.underlying t = some (.slice tO)) (hU : Try.prog.underlying tU = some (.slice 65)) (hB : Try.prog.underlying tB = some .bool) (cO : Try.prog.cellsOf tO = 4) (cU : Try.prog.cellsOf tU = 1) (cB : Try.prog.cellsOf tB = 1) {f0 f1 f2 : Field} (hO : Try.prog.underlying tO = some (.struct #[f0, f1, f2]))
    (t0 : f0.type = 35) (o0 : f0.offset = 0) (t1 : f1.type = tU) (o1 : f1.offset = 2) (t2 : f2.type = tB) (o2 : f2.offset = 3) {A0 : Option Addr} {n c : Nat} {d : DataW H} {p : List MemPlace} (h : DataW.Trod enc Try.prog W 0 (fun _ => true) true t (.slice A0 n c) d p) (hs : (d.weights Try.prog t).all (· ≤ reachBytes) = true) :
    ∃ L, OpsF W (fun b => b < W.heap.size) A0 n c L ∧ ∀ o ∈ L, (∀ u ∈ o.l, Pl.UnB u) ∧ o.c * 40 ≤ reachBytes ∧ Pl.IdB o.x o.y := by
  obtain ⟨fuel, hf⟩ := h
  rcases Deep.open_slice ht hf with ⟨h0, _⟩ | ⟨a, len, cap, m, n', D, Pl', hcs, _, hl, hm, hmm, hz, hi⟩
  · have hv := (List.cons.inj h0).1
    injection hv with e1 e2 e3
    subst e1 e2 e3
    exact ⟨[], OpsF.none_ _ _, fun o ho => by cases ho⟩
  · have hv := (List.cons.inj hcs).1
    injection hv with e1 e2 e3
    subst e1 e2 e3
    simp only [if_true] at hmm
    have hw : ∀ i, i < n → ((D i).weights Try.prog tO).all (· ≤ reachBytes) = true := fun i hin => by
      rw [List.all_eq_true] at hs ⊢
      intro k hk
      refine hs k ?_
      have e : d = _ := (Prod.mk.inj hz).1
      rw [e]
      simp only [DataW.weights, ht, List.mem_cons, List.mem_append]
      exact Or.inr (Or.inl (weightsAll_mem (List.mem_map.2 ⟨i, List.mem_range.2 hin, rfl⟩) k hk))
    obtain ⟨b, off, spot⟩ := a
    have hspot : 0 < n → spot = none := fun h0 => by
      obtain ⟨cs', hc, _⟩ := hi 0 (by omega)
      rw [cO] at hc
      obtain ⟨_, hcl, hat⟩ := World.cells?_some hc
      have h2 := hat 0 (by omega)
      rw [List.getElem?_eq_getElem (by omega)] at h2
      simpa [Addr.add] using World.cell?_spot h2
    obtain ⟨L, hl1, hl2⟩ := pick_list n (fun i (x : OpV) => (∀ j u, j < 4 → (encO x)[j]? = some u → W.cell? ⟨b, off + (i * 4 + j), none⟩ = some u) ∧ b < W.heap.size ∧ Units W W.heap.size x.A x.n x.c x.l ∧ x.c * 40 ≤ reachBytes ∧ Pl.IdB x.x x.y) (fun i hin => by
      obtain ⟨cs', hc, ht'⟩ := hi i (by omega)
      rw [cO] at hc
      obtain ⟨_, hcl, hat⟩ := World.cells?_some hc
      rw [hspot (by omega)] at hat
      match cs', hcl, ht', hat with
      | [a0, a1, a2, a3], _, ht', hat =>
        obtain ⟨o, hu, h1, h2, h3⟩ := op_cells hU hB cU cB hO t0 o0 t1 o1 t2 o2 ht' (hw i hin)
        rw [hu] at hat
        have hat' : ∀ j v, j < 4 → (encO o)[j]? = some v → W.cell? ⟨b, off + (i * 4 + j), none⟩ = some v := fun j v hj hv => by
          have h2 := hat j (by simpa [encO] using hj)
          rw [Go.Deep.add_add, Addr.add_lit] at h2
          rw [h2]
          exact hv
        exact ⟨o, hat', World.block_lt_of_cell? W _ (hat' 0 _ (by decide) rfl), h1, h2, h3⟩)
    have hA : 0 < n → (some ⟨b, off, spot⟩ : Option Addr) = some ⟨b, off, none⟩ := fun h => by rw [hspot h]
    have hR := Rws.of_cells (enc := encO) (k := 4) encO_len (by decide) (w := W) (B := W.heap.size) (g := b) (o := off) hl1 hl hm (fun h => (hl2 0 h).2.1) (fun i hi => (hl2 i hi).1)
    have hR2 : Rws encO W W.heap.size (some ⟨b, off, spot⟩) n c L := ⟨hR.1, hR.2.1, hR.2.2.1, (fun e => by cases e), fun h => by rw [hA h]; exact hR.2.2.2.2 h⟩
    have hin : ∀ o ∈ L, Units W W.heap.size o.A o.n o.c o.l ∧ o.c * 40 ≤ reachBytes ∧ Pl.IdB o.x o.y := fun o ho => by
      obtain ⟨i, hi, rfl⟩ := List.getElem_of_mem ho
      have := (hl2 i (by omega)).2.2
      rwa [List.getD_eq_getElem?_getD, List.getElem?_eq_getElem hi] at this
    exact ⟨L, ⟨hR2, Rws.in_ hR2, fun o ho => ⟨(hin o ho).1.1, Rws.in_ (hin o ho).1.1⟩⟩, fun o ho => ⟨(hin o ho).1.2, (hin o ho).2⟩⟩
end
end Go.Proofs.Ytkgehgedbgogbaa
