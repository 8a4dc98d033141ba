/-
  past.own: an operation in new memory. Condition: its units are of at most 2^47 bytes.
  past.Past's behind: the operations from a place on, in new memory. Conditions: those of a past.
  past.Past's Length, Since, At, Copy, Undo's and Drop's part of it: each at a past, at a revision that is not there, and at none. Conditions: those of a past; a revision of 64 bits.
-/
import Derived.Test.YtldmnkakpmplnaaGreatUd13
import Derived.Test.YtldmnkakpmplnaaGreatUd16
import Derived.Test.YtldmnkakpmplnaaGreatUd02
set_option maxRecDepth 100000
namespace Go.Proofs.YtldmnkakpmplnaaGreat
open Go.RowKit
open Pl (Un)
def OAt (w : World) (p : Nat) (x y : Int) (A : Option Addr) (n c : Nat) (b : Bool) : Prop := w.heap[p]? = some (.cells #[.int .u32 x, .int .u64 y, .slice A n c, .bool b] 45 (0, 0))
section
variable {w w' : World} {p n c B : Nat} {x y : Int} {A : Option Addr} {b : Bool}
theorem OAt.cells (h : OAt w p x y A n c b) : w.cell? ⟨p, 0, none⟩ = some (.int .u32 x) ∧ w.cell? ⟨p, 1, none⟩ = some (.int .u64 y) ∧ w.cell? ⟨p, 2, none⟩ = some (.slice A n c) ∧ w.cell? ⟨p, 3, none⟩ = some (.bool b) :=
  ⟨cell0 (r := [.int .u64 y, .slice A n c, .bool b]) h, cell1 (r := [.slice A n c, .bool b]) h, cell2 (r := [.bool b]) h, cell3 (r := []) h⟩
theorem OAt.lt (h : OAt w p x y A n c b) : p < w.heap.size := lt_of_block h
theorem OAt.frozen (h : OAt w p x y A n c b) (j : Nat) : w.frozen? ⟨p, j, none⟩ = false := frozen_of_row w p j _ _ h
theorem OAt.tn {T : Nat → Prop} (h : OAt w p x y A n c b) (ht : Tn T w w') (hT : ¬ T p) : OAt w' p x y A n c b := ht.old h hT
theorem OAt.then_ (h : OAt w p x y A n c b) (hb : Below w.heap.size w w') : OAt w' p x y A n c b := below_old hb h h.lt
theorem OAt.sets (h : OAt w p x y A n c b) (x' y' : Int) (A' : Option Addr) (n' c' : Nat) (b' : Bool) :
    OAt ((((w.setCell ⟨p, 0, none⟩ (.int .u32 x')).setCell ⟨p, 1, none⟩ (.int .u64 y')).setCell ⟨p, 2, none⟩ (.slice A' n' c')).setCell ⟨p, 3, none⟩ (.bool b')) p x' y' A' n' c' b' :=
  blk_set (i := 3) (blk_set (i := 2) (blk_set (i := 1) (blk_set (i := 0) h (.int .u32 x')) (.int .u64 y')) (.slice A' n' c')) (.bool b')
theorem OAt.mark (h : OAt w p x y A n c b) (b' : Bool) : OAt (w.setCell ⟨p, 3, none⟩ (.bool b')) p x y A n c b' := blk_set (i := 3) h (.bool b')
theorem tn_four (w : World) (p : Nat) (v0 v1 v2 v3 : Value) : Tn (fun b => b = p) w ((((w.setCell ⟨p, 0, none⟩ v0).setCell ⟨p, 1, none⟩ v1).setCell ⟨p, 2, none⟩ v2).setCell ⟨p, 3, none⟩ v3) := by
  have h0 := (Tn.refl (fun b => b = p) w).set_ (p := ⟨p, 0, none⟩) (Or.inr rfl) v0
  have h1 := h0.set_ (p := ⟨p, 1, none⟩) (Or.inr rfl) v1
  have h2 := h1.set_ (p := ⟨p, 2, none⟩) (Or.inr rfl) v2
  exact h2.set_ (p := ⟨p, 3, none⟩) (Or.inr rfl) v3
end
theorem results_op {fn : Func} {t : Tmp} {tmps : Array Value} {p : Nat} {Z : World} {x y : Int} {A : Option Addr} {n c : Nat} {b : Bool} (h : fn.results = #[.cell t 45]) (ha : tmps.getD t undef = .pointer (some ⟨p, 0, none⟩)) (hZ : OAt Z p x y A n c b) :
    (results fn tmps).run Tryz.prog Z = .ok (.agg #[.int .u32 x, .int .u64 y, .slice A n c, .bool b]) Z := by
  obtain ⟨c0, c1, c2, c3⟩ := hZ.cells
  have ha' : tmps[t]?.getD undef = .pointer (some ⟨p, 0, none⟩) := by simpa using ha
  simp [results, h, ha', go_sem, c0, c1, c2, c3]
def OwP (B : Nat) (l : List Un) (v : Value) (w : World) : Prop := ∃ A c, v = .slice A l.length c ∧ OwnU w B (.slice A l.length c) l
def OwQ (B : Nat) (x y : Int) (l : List Un) (b : Bool) (v : Value) (w : World) : Prop := ∃ A c, v = .agg #[.int .u32 x, .int .u64 y, .slice A l.length c, .bool b] ∧ OwnU w B (.slice A l.length c) l
theorem OwP.tn {B : Nat} {l : List Un} {v : Value} {w w' : World} {s : Nat} (h : OwP B l v w) (ht : Tn (fun b => b = s) w w') (hs : s < B) : OwP B l v w' := by
  obtain ⟨A, c, e, h⟩ := h
  exact ⟨A, c, e, OwnR.tn h ht fun g hg e => by have := (h.lt g hg).1; omega⟩
theorem OwQ.tn {B : Nat} {x y : Int} {l : List Un} {b : Bool} {v : Value} {w w' : World} {s : Nat} (h : OwQ B x y l b v w) (ht : Tn (fun b => b = s) w w') (hs : s < B) : OwQ B x y l b v w' := by
  obtain ⟨A, c, e, h⟩ := h
  exact ⟨A, c, e, OwnR.tn h ht fun g hg e => by have := (h.lt g hg).1; omega⟩
structure OwS (w0 : World) (x y : Int) (A : Option Addr) (n c : Nat) (l : List Un) (b : Bool) (L : Nat → Bool) (w : World) : Prop where
  src : OAt w w0.heap.size x y A n c b
  uns0 : Uns w w0.heap.size A n c l
  pre : L 8 = false → OAt w (w0.heap.size + 1) 0 0 none 0 0 false
  post : L 8 = true → ∃ A' c', OAt w (w0.heap.size + 1) x y A' l.length c' b ∧ OwnU w (w0.heap.size + 2) (.slice A' l.length c') l
  bel : Below w0.heap.size w0 w
  size : w0.heap.size + 2 ≤ w.heap.size
def OwR (w0 : World) (_ : Nat) (w w' : World) : Prop := Tn (fun b => b = w0.heap.size + 1) w w'
section
variable {w0 w w' : World} {n c i : Nat} {x y : Int} {A : Option Addr} {l : List Un} {b : Bool} {L : Nat → Bool}
theorem OwS.uns (h : OwS w0 x y A n c l b L w) : Uns w w.heap.size A n c l := Rws.more h.uns0 h.bel.size
theorem OwS.next (h : OwS w0 x y A n c l b L w) (hi : i ≠ 8) (hb : Below w.heap.size w w') : OwS w0 x y A n c l b (Rq.up L i) w' := by
  have e : Rq.up L i 8 = L 8 := by simp [Rq.up, hi]
  refine ⟨h.src.then_ hb, Rws.below h.uns0 hb h.bel.size, ?_, ?_, h.bel.trans (hb.mono h.bel.size), Nat.le_trans h.size hb.size⟩
  · rw [e]; exact fun hL => (h.pre hL).then_ hb
  · rw [e]; exact fun hL => (h.post hL).imp fun A' ⟨c', h1, h2⟩ => ⟨c', h1.then_ hb, OwnR.then_ h2 hb⟩
theorem OwS.stay (h : OwS w0 x y A n c l b L w) (hi : i ≠ 8) : OwS w0 x y A n c l b (Rq.up L i) w := h.next hi (Below.refl _ _)
theorem OwS.laid {A' : Option Addr} {c' : Nat} (h : OwS w0 x y A n c l b L w) (hL : L 8 = false) (ho : OwnU w (w0.heap.size + 2) (.slice A' l.length c') l) :
    OwS w0 x y A n c l b (Rq.up L 8) ((((w.setCell ⟨w0.heap.size + 1, 0, none⟩ (.int .u32 x)).setCell ⟨w0.heap.size + 1, 1, none⟩ (.int .u64 y)).setCell ⟨w0.heap.size + 1, 2, none⟩ (.slice A' l.length c')).setCell ⟨w0.heap.size + 1, 3, none⟩ (.bool b)) := by
  have ht := tn_four w (w0.heap.size + 1) (.int .u32 x) (.int .u64 y) (.slice A' l.length c') (.bool b)
  have hb := ht.below h.bel h.bel.size (fun b hb => by rw [hb]; exact Nat.le_succ _)
  refine ⟨h.src.tn ht (fun e => by omega), Rws.below h.uns0 (ht.below (Below.refl w0.heap.size w) h.bel.size (fun b hb => by rw [hb]; exact Nat.le_succ _)) (Nat.le_refl _), (fun e => by simp [Rq.up] at e), fun _ => ⟨A', c', (h.pre hL).sets _ _ _ _ _ _, OwnR.tn ho ht fun g hg e => ?_⟩, hb, Nat.le_trans h.size ht.size⟩
  have := (OwnR.lt ho g hg).1
  omega
end
def RetOp (w : World) (x y : Int) (l : List Un) (b : Bool) (e : Ending) (w' : World) : Prop := ∃ A c, e = .returned (.agg #[.int .u32 x, .int .u64 y, .slice A l.length c, .bool b]) ∧ OwnU w' w.heap.size (.slice A l.length c) l ∧ Below w.heap.size w w'
set_option maxHeartbeats 400000 in
theorem ownOp_any (x y : Int) (A : Option Addr) (n c : Nat) (l : List Un) (b : Bool) (w : World) (h1 : Uns w w.heap.size A n c l) (hn : n * 40 ≤ 140737488355328) :
    Calls Tryz.prog 191 #[.agg #[.int .u32 x, .int .u64 y, .slice A n c, .bool b]] w (RetOp w x y l b) := by
  obtain ⟨V, hV⟩ : ∃ V, V = (w.alloc (.cells #[.int .u32 x, .int .u64 y, .slice A n c, .bool b] 45)).alloc (.cells #[.int .u32 0, .int .u64 0, .slice none 0 0, .bool false] 45) := ⟨_, rfl⟩
  have HS := Lib.hid (show OwS w x y A n c l b (fun _ => false) V.drew from by
    have hb : Below w.heap.size w V := by rw [hV]; exact below_alloc (below_box _ _) _
    refine ⟨?_, Rws.below h1 (below_drawn hb) (Nat.le_refl _), fun _ => ?_, (fun h => by cases h), below_drawn hb, ?_⟩
    · rw [hV]; exact below_old (w := w.alloc (.cells #[.int .u32 x, .int .u64 y, .slice A n c, .bool b] 45)) (below_box _ _) (heap_new rfl) (by simp)
    · rw [hV]; exact heap_new (by simp)
    · rw [hV]; simp)
  have HV := Lib.hid hV
  clear hV h1
  go_enter Tryz.func191, Tryz.ntmps191
  go_wp2_with fail
  rw [← HV.out]
  refine Rq.wp_region_inv (OwS w x y A n c l b) (OwR w) (Rq.Wd.at [.is (.pointer (some ⟨w.heap.size, 0, none⟩)), .is (.agg #[.int .u32 x, .int .u64 y]), .is (.pointer (some ⟨w.heap.size, 2, none⟩)), .is (.slice A n c), .pred (OwP (w.heap.size + 2) l), .is (.pointer (some ⟨w.heap.size, 3, none⟩)), .is (.bool b), .pred (OwQ (w.heap.size + 2) x y l b), .any]) (by kernel_rfl) (by kernel_rfl) (Rq.Wd.stays _ _ (fun i q hi => (by rcases i with _ | _ | _ | _ | _ | _ | _ | _ | _ | i <;> simp at hi <;> (subst hi; first | exact fun k v w1 w2 _ h hr => OwP.tn h hr (Nat.lt_succ_self _) | exact fun k v w1 w2 _ h hr => OwQ.tn h hr (Nat.lt_succ_self _))))) (HS.out) ⟨?_, ?_, ?_, ?_, ?_, ?_, ?_, ?_, ?_, trivial⟩ ?_
  · intro L a w1 hL hS hb hd
    have e1 := hb 1 (Rq.nw (by decide))
    simp [Act.eval] at e1
    exact Rq.does_pure (Rq.wanted_none rfl) (by simp [execOp, e1, go_sem]) rfl (hS.stay (by decide)) (Tn.refl _ _)
  · intro L a w1 hL hS hb hd
    have p3 := (hd ⟨0, .data⟩ (by simp) rfl).2 _ _ rfl rfl
    have e3 : a.tmps[3]?.getD undef = (.pointer (some ⟨w.heap.size, 0, none⟩)) := Rq.slot p3
    exact Rq.does_pure (Rq.wanted_none rfl) (by simp [execOp, e3, hS.src.cells.1, hS.src.cells.2.1, go_sem]) rfl (hS.stay (by decide)) (Tn.refl _ _)
  · intro L a w1 hL hS hb hd
    have e1 := hb 1 (Rq.nw (by decide))
    simp [Act.eval] at e1
    exact Rq.does_pure (Rq.wanted_none rfl) (by simp [execOp, e1, go_sem]) rfl (hS.stay (by decide)) (Tn.refl _ _)
  · intro L a w1 hL hS hb hd
    have p5 := (hd ⟨2, .data⟩ (by simp) rfl).2 _ _ rfl rfl
    have e5 : a.tmps[5]?.getD undef = (.pointer (some ⟨w.heap.size, 2, none⟩)) := Rq.slot p5
    exact Rq.does_pure (Rq.wanted_none rfl) (by simp [execOp, e5, hS.src.cells.2.2.1, go_sem]) rfl (hS.stay (by decide)) (Tn.refl _ _)
  · intro L a w1 hL hS hb hd
    have p6 := (hd ⟨3, .data⟩ (by simp) rfl).2 _ _ rfl rfl
    have e6 : a.tmps[6]?.getD undef = (.slice A n c) := Rq.slot p6
    refine Rq.does_call (f := 234) (args := #[.slice A n c]) (Rq.wanted_none rfl) (by simp [e6, go_sem]) ?_
    refine (own_big A n c l w1 hS.uns hn).mono ?_; rintro e w3 ⟨A', c', rfl, ho, hb⟩; exact ⟨_, rfl, ⟨A', c', rfl, OwnR.lower ho hS.size⟩, hS.next (by decide) hb, Tn.of _ hb⟩
  · intro L a w1 hL hS hb hd
    have e1 := hb 1 (Rq.nw (by decide))
    simp [Act.eval] at e1
    exact Rq.does_pure (Rq.wanted_none rfl) (by simp [execOp, e1, go_sem]) rfl (hS.stay (by decide)) (Tn.refl _ _)
  · intro L a w1 hL hS hb hd
    have p8 := (hd ⟨5, .data⟩ (by simp) rfl).2 _ _ rfl rfl
    have e8 : a.tmps[8]?.getD undef = (.pointer (some ⟨w.heap.size, 3, none⟩)) := Rq.slot p8
    exact Rq.does_pure (Rq.wanted_none rfl) (by simp [execOp, e8, hS.src.cells.2.2.2, go_sem]) rfl (hS.stay (by decide)) (Tn.refl _ _)
  · intro L a w1 hL hS hb hd
    have p4 := (hd ⟨1, .data⟩ (by simp) rfl).2 _ _ rfl rfl
    have e4 : a.tmps[4]?.getD undef = (.agg #[.int .u32 x, .int .u64 y]) := Rq.slot p4
    have p7 := (hd ⟨4, .data⟩ (by simp) rfl).2 _ _ rfl rfl
    have p9 := (hd ⟨6, .data⟩ (by simp) rfl).2 _ _ rfl rfl
    have e9 : a.tmps[9]?.getD undef = (.bool b) := Rq.slot p9
    obtain ⟨A', c', e7, ho⟩ := p7; have e8 := Rq.slot e7; exact Rq.does_pure (Rq.wanted_none rfl) (by simp [execOp, e4, e8, e9, go_sem]) ⟨A', c', rfl, ho⟩ (hS.stay (by decide)) (Tn.refl _ _)
  · intro L a w1 hL hS hb hd
    have e2 := hb 2 (Rq.nw (by decide))
    simp [Act.eval] at e2
    have p10 := (hd ⟨7, .data⟩ (by simp) rfl).2 _ _ rfl rfl
    obtain ⟨A', c', e9, ho⟩ := p10; have e8 := Rq.slot e9; obtain ⟨d0, d1, d2, d3⟩ := (hS.pre hL).cells; have f2 := fun j => (hS.pre hL).frozen j; exact Rq.does_skip rfl (Rq.wanted_none rfl) (by simp [execOp, e2, e8, go_sem, d0, d1, d2, d3, f2]) trivial (hS.laid hL ho) (tn_four _ _ _ _ _ _)
  · intro L v w3 hS hall hv
    obtain ⟨A', c', h1, h2⟩ := hS.post (hall 8 (by decide))
    have H1 := Lib.hid h1
    have H2 := Lib.hid h2
    have HB := Lib.hid hS.bel
    clear hS hall hv h1 h2
    simp only [Rq.putAll]
    simp only [Act.put, List.setIfInBounds_toArray, List.set_cons_succ, List.set_cons_zero]
    go_wp2_with fail
    exact bodyPost_ret (results_op rfl (by rfl) H1.out) rfl ⟨A', c', rfl, OwnR.lower H2.out (by omega), HB.out⟩
end Go.Proofs.YtldmnkakpmplnaaGreat
namespace Go.Proofs.YtldmnkakpmplnaaGreat
open Go.RowKit
open Pl (Un)
def RowO (w : World) (B : Nat) (v : Value) (P : List Pl.Op) : Prop := ∃ F L, OwnO 45 w B F v L ∧ (∀ b, F b → B ≤ b ∧ b < w.heap.size) ∧ L.map OpV.op = P
section
variable {w w' : World} {B n c : Nat} {A : Option Addr} {v : Value} {P : List Pl.Op}
theorem RowO.nil_ (w : World) (B : Nat) : RowO w B (.slice none 0 0) [] := ⟨fun _ => False, [], OwnO.nil_ _ _ _ _, fun _ h => h.elim, rfl⟩
theorem RowO.then_ (h : RowO w B v P) (hb : Below w.heap.size w w') : RowO w' B v P := by
  obtain ⟨F, L, h1, h2, h3⟩ := h
  exact ⟨F, L, h1.then_ hb, fun b hF => ⟨(h2 b hF).1, Nat.lt_of_lt_of_le (h2 b hF).2 hb.size⟩, h3⟩
theorem RowO.tn {T : Nat → Prop} (h : RowO w B v P) (ht : Tn T w w') (hT : ∀ b, T b → b < B) : RowO w' B v P := by
  obtain ⟨F, L, h1, h2, h3⟩ := h
  exact ⟨F, L, h1.tn ht (fun b hF hb => by have := (h2 b hF).1; have := hT b hb; omega) (fun g hg hb => by have := (h1.row.lt g hg).1; have := hT g hb; omega), fun b hF => ⟨(h2 b hF).1, Nat.lt_of_lt_of_le (h2 b hF).2 ht.size⟩, h3⟩
theorem RowO.lower {B' : Nat} (h : RowO w B v P) (hb : B' ≤ B) : RowO w B' v P := by
  obtain ⟨F, L, h1, h2, h3⟩ := h
  exact ⟨F, L, h1.lower hb, fun b hF => ⟨Nat.le_trans hb (h2 b hF).1, (h2 b hF).2⟩, h3⟩
theorem RowO.ops (h : RowO w B (.slice A n c) P) : n = P.length ∧ ∃ L, OpsF w (fun b => B ≤ b) A n c L ∧ L.map OpV.op = P := by
  obtain ⟨F, L, h1, h2, h3⟩ := h
  obtain ⟨hn, hr⟩ := h1.rws
  refine ⟨by rw [hn, ← h3, List.length_map], L, ⟨hr, fun h0 ad e => ?_, fun o ho => (h1.uns o ho).more fun b hb => (h2 b hb).1⟩, h3⟩
  subst e
  exact (h1.row.lt _ rfl).1
end
def RetO (w : World) (P : List Pl.Op) (e : Ending) (w' : World) : Prop := ∃ A c, e = .returned (.slice A P.length c) ∧ RowO w' w.heap.size (.slice A P.length c) P ∧ Below w.heap.size w w'
def BeR (w : World) (k : Nat) (P : List Pl.Op) (s i : Value) (wr : World) : Prop := ∃ (j : Nat) (A : Option Addr) (c : Nat), i = .int .i64 (j : Int) ∧ s = .slice A j c ∧ k + j ≤ P.length ∧ RowO wr w.heap.size (.slice A j c) ((P.drop k).take j) ∧ Below w.heap.size w wr
theorem lit_op (w : World) (o : OpV) : Rws encO (w.alloc (.cells #[.int .u32 o.x, .int .u64 o.y, .slice o.A o.n o.c, .bool o.b] 45)) (w.heap.size + 1) (some ⟨w.heap.size, 0, none⟩) 1 1 [o] := by
  have h := (OwnR.rws encO_len (litO w [o] (by simp [maxLen]))).2
  simpa [cellsR, encO] using h
theorem OwnO.with {tO : TypeId} {w : World} {base : Nat} {F : Nat → Prop} {v : Value} {L : List OpV} {A' : Option Addr} {B' : Nat} (h : OwnO tO w base F v L) (hB : ∀ g, v.ownBlock = some g → g < B') (hA : ∀ a, A' = some a → B' ≤ a.block) : OwnO tO w base (fun b => F b ∨ ∃ a, A' = some a ∧ a.block = b) v L :=
  h.more (fun _ hb => Or.inl hb) fun g hg e => by
    rcases e with e | ⟨a, e1, e2⟩
    · exact h.apart g hg e
    · have := hB g hg; have := hA a e1; omega
theorem run_append_op {w : World} {base : Nat} {A : Option Addr} {n c : Nat} {P : List Pl.Op} (ty : TypeId) (w1 : World) (h : RowO w1 base (.slice A n c) P) (x y : Int) (l : List Un) (b : Bool) (A' : Option Addr) (c' : Nat) (ho : OwnU w w1.heap.size (.slice A' l.length c') l) (hb : Below w1.heap.size w1 w) (hbase : base ≤ w1.heap.size) (hn : n < 1000) :
    ∃ A2 c2 w', (Builtin.append_ #[34, 34] ty #[.slice A n c, .slice (some ⟨w.heap.size, 0, none⟩) 1 1]).run Tryz.prog (w.alloc (.cells #[.int .u32 x, .int .u64 y, .slice A' l.length c', .bool b] 45)) = .ok (.slice A2 (n + 1) c2) w' ∧ RowO w' base (.slice A2 (n + 1) c2) (P ++ [⟨x, y, l, b⟩]) ∧ Below base (w.alloc (.cells #[.int .u32 x, .int .u64 y, .slice A' l.length c', .bool b] 45)) w' := by
  obtain ⟨F, L, h1, h2, h3⟩ := h
  obtain ⟨W, hW⟩ : ∃ W, W = w.alloc (.cells #[.int .u32 x, .int .u64 y, .slice A' l.length c', .bool b] 45) := ⟨_, rfl⟩
  have hbW : Below w.heap.size w W := by rw [hW]; exact below_box _ _
  have hs0 := hb.size
  have hs1 := hbW.size
  have hlt := h1.row.lt
  have hA : ∀ a, A' = some a → w1.heap.size ≤ a.block ∧ a.block < w.heap.size := fun a e => by
    subst e
    exact OwnR.lt ho _ rfl
  have hO : OwnO 45 W base (fun b => F b ∨ ∃ a, A' = some a ∧ a.block = b) (.slice A n c) L :=
    OwnO.with ((h1.then_ hb).then_ hbW) (B' := w1.heap.size) (fun g hg => (hlt g hg).2) (fun a e => (hA a e).1)
  have hsrc := lit_op w ⟨x, y, A', l.length, c', l, b⟩
  rw [← hW]
  simp only at hsrc
  rw [← hW] at hsrc
  have hU : UnsF W (fun b => F b ∨ ∃ a, A' = some a ∧ a.block = b) A' l.length c' l := ⟨Rws.then_ (OwnU.uns ho) hbW, fun _ ad e => Or.inr ⟨ad, e, rfl⟩⟩
  obtain ⟨A2, c2, w', hr, ho2, hg, hat⟩ := run_append_ops (tO := 45) (t := 34) (bytes := 48) Tryz.underlying34 infoO rfl ty hO (w.heap.size + 1) (some ⟨w.heap.size, 0, none⟩) 1 1 [⟨x, y, A', l.length, c', l, b⟩] hsrc (fun o ho => by rw [List.mem_singleton.1 ho]; exact hU) (fun b hb => by
      rcases hb with hb | ⟨a, e1, e2⟩
      · have := (h2 b hb).2; omega
      · have := (hA a e1).2; omega) (by unfold maxLen; omega) (by omega) (by omega)
  refine ⟨A2, c2, w', hr, ⟨_, _, ho2, fun b hb => ?_, by rw [List.map_append, h3]; rfl⟩, OwnR.grownBelow hO.row hg (Below.refl _ _) (by omega)⟩
  have hs2 := (grown_tn hg).size
  rcases hb with hb | ⟨a, e1, e2⟩
  · have := h2 b hb; omega
  · have := hA a e1; omega
set_option maxHeartbeats 400000 in
theorem behind_any {w : World} {p : Nat} {F : Nat → Prop} {fr : Nat} {N : Int} {P : List Pl.Op} (h : PastAt w p F fr N P) (k : Nat) (hk : k ≤ P.length) :
    Calls Tryz.prog 144 #[.pointer (some ⟨p, 0, none⟩), .int .i64 (k : Int)] w (RetO w (P.drop k)) := by
  have HLN := Lib.hid (len_past h)
  have hcnt := h.fine.cnt
  have hsml := h.fine.small
  obtain ⟨A, n, c, B, m, d, L, h⟩ := h
  have hn := h.n_len
  obtain ⟨M, hM⟩ : ∃ M, M = P.length := ⟨_, rfl⟩
  rw [← hM] at HLN hk hcnt hn
  subst hn
  have HH := Lib.hid h
  have HM := Lib.hid hM
  have HSM := Lib.hid hsml
  have hw1 : wrap64 ((n : Int) - (k : Int)) = ((n - k : Nat) : Int) := by unfold wrap64; omega
  clear h hM hsml
  go_enter Tryz.func144, Tryz.ntmps144
  go_wp2_with fail
  refine HLN.out.mono ?_
  rintro e w' ⟨rfl, rfl⟩
  obtain ⟨w, hw⟩ : ∃ z, z = w' := ⟨_, rfl⟩
  subst hw
  go_wp2_with fail
  go_loopw [5, 11] (fun s i wr => BeR w k P s i wr) (fun _ i _ => n - k - (intOf i).toNat)
  case atStart => exact ⟨0, none, 0, rfl, rfl, by rw [← HM.out]; exact hk, by rw [List.take_zero]; exact RowO.nil_ _ _, Below.refl _ _⟩
  case round =>
    obtain ⟨j, A1, c1, rfl, rfl, hj, hro, hb⟩ := hrel
    have HRO := Lib.hid hro
    have HB := Lib.hid hb
    rw [← HM.out] at hj
    clear hro
    by_cases hlt : j < n - k
    · have hkn : k + j < n := by omega
      have hw2 : wrap64 ((k : Int) + (j : Int)) = ((k + j : Nat) : Int) := by unfold wrap64; omega
      have z0 : (0 : Int) ≤ ((k + j : Nat) : Int) := by omega
      have z1 : ((k + j : Nat) : Int) < (n : Int) := by omega
      have HMS := Lib.hid (show n - k - (j + 1) < n - k - j by omega)
      have hj1 : j < 1000 := by omega
      have HJ := Lib.hid (show k + (j + 1) ≤ P.length by rw [← HM.out]; exact hkn)
      have hPW := HH.out.then_ hb
      obtain ⟨c0, c2, c3⟩ := hPW.cells
      obtain ⟨g1, o1, rfl, hg1, _, hc1⟩ := hPW.ops.at_ hkn
      obtain ⟨a0, a1, a2, a3⟩ := hc1 (k + j) hkn
      have hU := hPW.ops.getD_ hkn
      have hop := hPW.getD_ (show k + j < P.length by rw [← HM.out]; exact hkn)
      have hsm := HSM.out (P.getD (k + j) default) (by rw [List.getD_eq_getElem?_getD, List.getElem?_eq_getElem (by rw [← HM.out]; exact hkn)]; exact List.getElem_mem _)
      have HTK := Lib.hid (show (P.drop k).take (j + 1) = (P.drop k).take j ++ [P.getD (k + j) default] by
        rw [List.take_add_one, List.getElem?_drop, List.getD_eq_getElem?_getD, List.getElem?_eq_getElem (by rw [← HM.out]; exact hkn)]; rfl)
      obtain ⟨⟨x, y, A2, n2, c2', l, b⟩, ho⟩ : ∃ o, o = L.getD (k + j) default := ⟨_, rfl⟩
      rw [← ho] at a0 a1 a2 a3 hU hop
      simp only at a0 a1 a2 a3 hU
      have hop2 : (⟨x, y, l, b⟩ : Pl.Op) = P.getD (k + j) default := hop
      rw [← hop2] at HTK hsm
      have hl2 := hU.1.len
      have HOW := Lib.hid (ownOp_any x y A2 n2 c2' l b wr hU.1 (by rw [← hl2]; exact hsm))
      clear hPW hc1 hU hop hop2 hsm ho hl2 hg1 hb
      go_wp2_with fail
      refine HOW.out.mono ?_
      rintro e w2 ⟨A3, c3', rfl, ho3, hb3⟩
      obtain ⟨A4, c4, w4, hr, hro4, hb4⟩ := run_append_op 34 wr HRO.out x y l b A3 c3' ho3 hb3 HB.out.size hj1
      have HR := Lib.hid hr
      rw [← HTK.out] at hro4
      have HRO4 := Lib.hid hro4
      have HB4 := Lib.hid (show Below w.heap.size w w4 from (below_alloc (below_then HB.out hb3) _).trans hb4)
      clear ho3 hb3 hr hro4 hb4 a0 a1 a2 a3 c0 c2 c3
      go_wp2_with (at_builtin; refine Lib.wpList_append_run (w2.alloc (.cells #[.int .u32 x, .int .u64 y, .slice A3 l.length c3', .bool b] 45)) (by rfl) (.tmp 14) (.tmp 25) 34 34 (by rfl) (.slice A1 j c1) (.slice (some ⟨w2.heap.size, 0, none⟩) 1 1) (by rfl) (by rfl) _ _ HR.out ?_)
      go_wp2_with fail
      go_roundw
      case rel => exact ⟨j + 1, A4, c4, by go_num, rfl, HJ.out, HRO4.out, HB4.out⟩
      case measure => simp [intOf]; exact HMS.out
    · have hjn : j = n - k := by omega
      subst hjn
      have HE := Lib.hid (show (P.drop k).take (n - k) = P.drop k from List.take_of_length_le (by rw [List.length_drop, HM.out]; exact Nat.le_refl _))
      have HLE := Lib.hid (show (P.drop k).length = n - k by rw [List.length_drop, HM.out])
      clear hb
      go_wp2_with fail
      go_ret
      rw [← HLE.out]
      refine ⟨A1, c1, rfl, ?_, HB.out⟩
      have := HRO.out
      rw [HE.out] at this
      rw [HLE.out]
      exact this
end Go.Proofs.YtldmnkakpmplnaaGreat
namespace Go.Proofs.YtldmnkakpmplnaaGreat
open Go.RowKit
open Pl (Un)
namespace Pl
theorem place_ok {fr len least rev i : Nat} (hr : rev = fr + i) (h1 : least ≤ i) (h2 : i ≤ len) : place fr len least rev = ((i : Int), 0) := by
  unfold place
  rw [if_neg (by omega), if_neg (by omega)]
  congr 1
  omega
end Pl
variable {w : World} {p : Nat} {F : Nat → Prop} {fr : Nat} {N : Int} {P : List Pl.Op}
set_option maxHeartbeats 400000 in
theorem since_bad (h : PastAt w p F fr N P) (rev : Nat) (hv : rev ≤ 18446744073709551615) (E : Int) (hE : Pl.place fr P.length 0 rev = (0, E)) (hE0 : E ≠ 0) :
    Calls Tryz.prog 77 #[.pointer (some ⟨p, 0, none⟩), .int .u64 (rev : Int)] w fun e w' => e = .returned (.tuple #[.slice none 0 0, .int .i64 E]) ∧ Below w.heap.size w w' := by
  have HP := Lib.hid h
  have HEE := Lib.hid hE
  have HV := Lib.hid hv
  have hEb : (E != 0) = true := by simpa using hE0
  clear h hE hE0 hv
  go_enter Tryz.func77, Tryz.ntmps77
  go_wp2_with fail
  refine (places_any (some ⟨p, 0, none⟩) 0 _).mono ?_
  rintro e w1 ⟨⟨f, rfl, a, b, rfl, ha, hb⟩, hbl⟩
  have HB1 := Lib.hid (hbl)
  have HC := Lib.hid (place_past (PastAt.then_ HP.out HB1.out) 0 rev (by decide) HV.out a b ha hb)
  rw [HEE.out] at HC
  clear ha hb hbl
  go_wp2_with fail
  refine HC.out.mono ?_
  rintro e w2 ⟨rfl, hb2⟩
  have HB2 := Lib.hid (below_then HB1.out hb2)
  clear hb2
  go_wp2_with fail
  go_returns
  exact ⟨rfl, HB2.out⟩
set_option maxHeartbeats 400000 in
theorem length_ok (h : PastAt w p F fr N P) (i rev : Nat) (hr : rev = fr + i) (hi : i ≤ P.length) :
    Calls Tryz.prog 78 #[.pointer (some ⟨p, 0, none⟩), .int .u64 (rev : Int)] w fun e w' => e = .returned (.tuple #[.int .i64 (N + Pl.total (P.take i)), .int .i64 0]) ∧ Below w.heap.size w w' := by
  have hv : rev ≤ 18446744073709551615 := by have := h.fine.rev; omega
  have HP := Lib.hid h
  have HEE := Lib.hid (Pl.place_ok hr (Nat.zero_le _) hi)
  have HV := Lib.hid hv
  have HI := Lib.hid hi
  obtain ⟨z, hz⟩ : ∃ z, z = N + Pl.total (P.take i) := ⟨_, rfl⟩
  rw [← hz]
  have HZ := Lib.hid hz
  clear h hr hv hi hz
  go_enter Tryz.func78, Tryz.ntmps78
  go_wp2_with fail
  refine (places_any (some ⟨p, 0, none⟩) 0 _).mono ?_
  rintro e w1 ⟨⟨f, rfl, a, b, rfl, ha, hb⟩, hbl⟩
  have HB1 := Lib.hid hbl
  have HC := Lib.hid (place_past (PastAt.then_ HP.out HB1.out) 0 rev (by decide) HV.out a b ha hb)
  rw [HEE.out] at HC
  clear ha hb hbl
  go_wp2_with fail
  refine HC.out.mono ?_
  rintro e w2 ⟨rfl, hb2⟩
  have HB2 := Lib.hid (below_then HB1.out hb2)
  obtain ⟨A, n, c, B, m, d, L, hP⟩ := PastAt.then_ HP.out HB2.out
  obtain ⟨c0, c1, c2⟩ := hP.cells
  have him : i < m := by rw [hP.m_len]; have := HI.out; omega
  obtain ⟨g, o, rfl, hg, hc⟩ := Rws.int_at hP.len him
  have a0 := hc i him
  rw [Pl.lens_at N P HI.out, ← HZ.out] at a0
  have z0 : (0 : Int) ≤ (i : Int) := by omega
  have z1 : (i : Int) < (m : Int) := by omega
  clear hb2 hP hc
  go_wp2_with fail
  go_returns
  exact ⟨rfl, HB2.out⟩
set_option maxHeartbeats 400000 in
theorem since_ok (h : PastAt w p F fr N P) (i rev : Nat) (hr : rev = fr + i) (hi : i ≤ P.length) :
    Calls Tryz.prog 77 #[.pointer (some ⟨p, 0, none⟩), .int .u64 (rev : Int)] w fun e w' => ∃ A c, e = .returned (.tuple #[.slice A (P.drop i).length c, .int .i64 0]) ∧ RowO w' w.heap.size (.slice A (P.drop i).length c) (P.drop i) ∧ Below w.heap.size w w' := by
  have hv : rev ≤ 18446744073709551615 := by have := h.fine.rev; omega
  have HP := Lib.hid h
  have HEE := Lib.hid (Pl.place_ok hr (Nat.zero_le _) hi)
  have HV := Lib.hid hv
  have HI := Lib.hid hi
  obtain ⟨K, hK⟩ : ∃ K, K = P.drop i := ⟨_, rfl⟩
  rw [← hK]
  have HK := Lib.hid hK
  clear h hr hv hi hK
  go_enter Tryz.func77, Tryz.ntmps77
  go_wp2_with fail
  refine (places_any (some ⟨p, 0, none⟩) 0 _).mono ?_
  rintro e w1 ⟨⟨f, rfl, a, b, rfl, ha, hb⟩, hbl⟩
  have HB1 := Lib.hid hbl
  have HC := Lib.hid (place_past (PastAt.then_ HP.out HB1.out) 0 rev (by decide) HV.out a b ha hb)
  rw [HEE.out] at HC
  clear ha hb hbl
  go_wp2_with fail
  refine HC.out.mono ?_
  rintro e w2 ⟨rfl, hb2⟩
  have HB2 := Lib.hid (below_then HB1.out hb2)
  have HD := Lib.hid (behind_any (PastAt.then_ HP.out HB2.out) i HI.out)
  rw [← HK.out] at HD
  clear hb2
  go_wp2_with fail
  refine HD.out.mono ?_
  rintro e w3 ⟨A, c, rfl, ho, hb3⟩
  have HO := Lib.hid (RowO.lower ho HB2.out.size)
  have HB3 := Lib.hid (below_then HB2.out hb3)
  clear ho hb3
  go_wp2_with fail
  go_returns
  exact ⟨A, c, rfl, HO.out, HB3.out⟩
end Go.Proofs.YtldmnkakpmplnaaGreat
