/-
  past.own: an operation in new memory. Condition: its units are of at most 2^47 bytes.
-/
import Derived.Test.YtkgehgedbgogbaaPaR
import Derived.Test.YtkgehgedbgogbaaPaG
import Derived.Test.YtkgehgedbgogbaaBaseQ
namespace Go.Proofs.Ytkgehgedbgogbaa
open Go.RowKit
open Pl (Un)

/-- an operation in a block of its own -/
def OAt (w : World) (p : Nat) (x y : Int) (A : Option Addr) (n c : Nat) (b : Bool) : Prop := w.heap[p]? = some (.cells #[.int .u32 x, .int .u64 y, .slice A n c, .bool b] 38 (0, 0))
section
variable {w w' : World} {p n c B : Nat} {x y : Int} {A : Option Addr} {b : Bool}
theorem OAt.cells (h : OAt w p x y A n c b) : w.cell? ⟨p, 0, none⟩ = some (.int .u32 x) ∧ w.cell? ⟨p, 1, none⟩ = some (.int .u64 y) ∧ w.cell? ⟨p, 2, none⟩ = some (.slice A n c) ∧ w.cell? ⟨p, 3, none⟩ = some (.bool b) :=
  ⟨cell0 (r := [.int .u64 y, .slice A n c, .bool b]) h, cell1 (r := [.slice A n c, .bool b]) h, cell2 (r := [.bool b]) h, cell3 (r := []) h⟩
theorem OAt.lt (h : OAt w p x y A n c b) : p < w.heap.size := lt_of_block h
theorem OAt.frozen (h : OAt w p x y A n c b) (j : Nat) : w.frozen? ⟨p, j, none⟩ = false := frozen_of_row w p j _ _ h
theorem OAt.tn {T : Nat → Prop} (h : OAt w p x y A n c b) (ht : Tn T w w') (hT : ¬ T p) : OAt w' p x y A n c b := ht.old h hT
theorem OAt.then_ (h : OAt w p x y A n c b) (hb : Below w.heap.size w w') : OAt w' p x y A n c b := below_old hb h h.lt
theorem OAt.sets (h : OAt w p x y A n c b) (x' y' : Int) (A' : Option Addr) (n' c' : Nat) (b' : Bool) :
    OAt ((((w.setCell ⟨p, 0, none⟩ (.int .u32 x')).setCell ⟨p, 1, none⟩ (.int .u64 y')).setCell ⟨p, 2, none⟩ (.slice A' n' c')).setCell ⟨p, 3, none⟩ (.bool b')) p x' y' A' n' c' b' :=
  blk_set (i := 3) (blk_set (i := 2) (blk_set (i := 1) (blk_set (i := 0) h (.int .u32 x')) (.int .u64 y')) (.slice A' n' c')) (.bool b')
theorem OAt.mark (h : OAt w p x y A n c b) (b' : Bool) : OAt (w.setCell ⟨p, 3, none⟩ (.bool b')) p x y A n c b' := blk_set (i := 3) h (.bool b')
theorem tn_four (w : World) (p : Nat) (v0 v1 v2 v3 : Value) : Tn (fun b => b = p) w ((((w.setCell ⟨p, 0, none⟩ v0).setCell ⟨p, 1, none⟩ v1).setCell ⟨p, 2, none⟩ v2).setCell ⟨p, 3, none⟩ v3) := by
  have h0 := (Tn.refl (fun b => b = p) w).set_ (p := ⟨p, 0, none⟩) (Or.inr rfl) v0
  have h1 := h0.set_ (p := ⟨p, 1, none⟩) (Or.inr rfl) v1
  have h2 := h1.set_ (p := ⟨p, 2, none⟩) (Or.inr rfl) v2
  exact h2.set_ (p := ⟨p, 3, none⟩) (Or.inr rfl) v3
end
theorem results_op {fn : Func} {t : Tmp} {tmps : Array Value} {p : Nat} {Z : World} {x y : Int} {A : Option Addr} {n c : Nat} {b : Bool} (h : fn.results = #[.cell t 38]) (ha : tmps.getD t undef = .pointer (some ⟨p, 0, none⟩)) (hZ : OAt Z p x y A n c b) :
    (results fn tmps).run Try.prog Z = .ok (.agg #[.int .u32 x, .int .u64 y, .slice A n c, .bool b]) Z := by
  obtain ⟨c0, c1, c2, c3⟩ := hZ.cells
  have ha' : tmps[t]?.getD undef = .pointer (some ⟨p, 0, none⟩) := by simpa using ha
  simp [results, h, ha', go_sem, c0, c1, c2, c3]
/-- a slot's word: units in new memory -/
def OwP (B : Nat) (l : List Un) (v : Value) (w : World) : Prop := ∃ A c, v = .slice A l.length c ∧ OwnU w B (.slice A l.length c) l
/-- a slot's word: an operation, its units in new memory -/
def OwQ (B : Nat) (x y : Int) (l : List Un) (b : Bool) (v : Value) (w : World) : Prop := ∃ A c, v = .agg #[.int .u32 x, .int .u64 y, .slice A l.length c, .bool b] ∧ OwnU w B (.slice A l.length c) l
theorem OwP.tn {B : Nat} {l : List Un} {v : Value} {w w' : World} {s : Nat} (h : OwP B l v w) (ht : Tn (fun b => b = s) w w') (hs : s < B) : OwP B l v w' := by
  obtain ⟨A, c, e, h⟩ := h
  exact ⟨A, c, e, OwnR.tn h ht fun g hg e => by have := (h.lt g hg).1; omega⟩
theorem OwQ.tn {B : Nat} {x y : Int} {l : List Un} {b : Bool} {v : Value} {w w' : World} {s : Nat} (h : OwQ B x y l b v w) (ht : Tn (fun b => b = s) w w') (hs : s < B) : OwQ B x y l b v w' := by
  obtain ⟨A, c, e, h⟩ := h
  exact ⟨A, c, e, OwnR.tn h ht fun g hg e => by have := (h.lt g hg).1; omega⟩
/-- in own's region: the operation, its units, the answer's cells -/
structure OwS (w0 : World) (x y : Int) (A : Option Addr) (n c : Nat) (l : List Un) (b : Bool) (L : Nat → Bool) (w : World) : Prop where
  src : OAt w w0.heap.size x y A n c b
  uns0 : Uns w w0.heap.size A n c l
  pre : L 8 = false → OAt w (w0.heap.size + 1) 0 0 none 0 0 false
  post : L 8 = true → ∃ A' c', OAt w (w0.heap.size + 1) x y A' l.length c' b ∧ OwnU w (w0.heap.size + 2) (.slice A' l.length c') l
  bel : Below w0.heap.size w0 w
  size : w0.heap.size + 2 ≤ w.heap.size
def OwR (w0 : World) (_ : Nat) (w w' : World) : Prop := Tn (fun b => b = w0.heap.size + 1) w w'
section
variable {w0 w w' : World} {n c i : Nat} {x y : Int} {A : Option Addr} {l : List Un} {b : Bool} {L : Nat → Bool}
theorem OwS.uns (h : OwS w0 x y A n c l b L w) : Uns w w.heap.size A n c l := Rws.more h.uns0 h.bel.size
theorem OwS.next (h : OwS w0 x y A n c l b L w) (hi : i ≠ 8) (hb : Below w.heap.size w w') : OwS w0 x y A n c l b (Rq.up L i) w' := by
  have e : Rq.up L i 8 = L 8 := by simp [Rq.up, hi]
  refine ⟨h.src.then_ hb, Rws.below h.uns0 hb h.bel.size, ?_, ?_, h.bel.trans (hb.mono h.bel.size), Nat.le_trans h.size hb.size⟩
  · rw [e]; exact fun hL => (h.pre hL).then_ hb
  · rw [e]; exact fun hL => (h.post hL).imp fun A' ⟨c', h1, h2⟩ => ⟨c', h1.then_ hb, OwnR.then_ h2 hb⟩
theorem OwS.stay (h : OwS w0 x y A n c l b L w) (hi : i ≠ 8) : OwS w0 x y A n c l b (Rq.up L i) w := h.next hi (Below.refl _ _)
theorem OwS.laid {A' : Option Addr} {c' : Nat} (h : OwS w0 x y A n c l b L w) (hL : L 8 = false) (ho : OwnU w (w0.heap.size + 2) (.slice A' l.length c') l) :
    OwS w0 x y A n c l b (Rq.up L 8) ((((w.setCell ⟨w0.heap.size + 1, 0, none⟩ (.int .u32 x)).setCell ⟨w0.heap.size + 1, 1, none⟩ (.int .u64 y)).setCell ⟨w0.heap.size + 1, 2, none⟩ (.slice A' l.length c')).setCell ⟨w0.heap.size + 1, 3, none⟩ (.bool b)) := by
  have ht := tn_four w (w0.heap.size + 1) (.int .u32 x) (.int .u64 y) (.slice A' l.length c') (.bool b)
  have hb := ht.below h.bel h.bel.size (fun b hb => by rw [hb]; exact Nat.le_succ _)
  refine ⟨h.src.tn ht (fun e => by omega), Rws.below h.uns0 (ht.below (Below.refl w0.heap.size w) h.bel.size (fun b hb => by rw [hb]; exact Nat.le_succ _)) (Nat.le_refl _), (fun e => by simp [Rq.up] at e), fun _ => ⟨A', c', (h.pre hL).sets _ _ _ _ _ _, OwnR.tn ho ht fun g hg e => ?_⟩, hb, Nat.le_trans h.size ht.size⟩
  have := (OwnR.lt ho g hg).1
  omega
end
/-- a call's answer: an operation, its units in new memory -/
def RetOp (w : World) (x y : Int) (l : List Un) (b : Bool) (e : Ending) (w' : World) : Prop := ∃ A c, e = .returned (.agg #[.int .u32 x, .int .u64 y, .slice A l.length c, .bool b]) ∧ OwnU w' w.heap.size (.slice A l.length c) l ∧ Below w.heap.size w w'
set_option maxRecDepth 100000 in
set_option maxHeartbeats 400000 in
theorem ownOp_any (x y : Int) (A : Option Addr) (n c : Nat) (l : List Un) (b : Bool) (w : World) (h1 : Uns w w.heap.size A n c l) (hn : n * 40 ≤ 140737488355328) :
    Calls Try.prog 27 #[.agg #[.int .u32 x, .int .u64 y, .slice A n c, .bool b]] w (RetOp w x y l b) := by
  obtain ⟨V, hV⟩ : ∃ V, V = (w.alloc (.cells #[.int .u32 x, .int .u64 y, .slice A n c, .bool b] 38)).alloc (.cells #[.int .u32 0, .int .u64 0, .slice none 0 0, .bool false] 38) := ⟨_, rfl⟩
  have HS := Lib.hid (show OwS w x y A n c l b (fun _ => false) V.drew from by
    have hb : Below w.heap.size w V := by rw [hV]; exact below_alloc (below_box _ _) _
    refine ⟨?_, Rws.below h1 (below_drawn hb) (Nat.le_refl _), fun _ => ?_, (fun h => by cases h), below_drawn hb, ?_⟩
    · rw [hV]; exact below_old (w := w.alloc (.cells #[.int .u32 x, .int .u64 y, .slice A n c, .bool b] 38)) (below_box _ _) (heap_new rfl) (by simp)
    · rw [hV]; exact heap_new (by simp)
    · rw [hV]; simp)
  have HV := Lib.hid hV
  clear hV h1
  go_enter Try.func27, Try.ntmps27
  go_wp2_with fail
  rw [← HV.out]
  refine Rq.wp_region_inv (OwS w x y A n c l b) (OwR w) (Rq.Wd.at [.is (.pointer (some ⟨w.heap.size, 0, none⟩)), .is (.agg #[.int .u32 x, .int .u64 y]), .is (.pointer (some ⟨w.heap.size, 2, none⟩)), .is (.slice A n c), .pred (OwP (w.heap.size + 2) l), .is (.pointer (some ⟨w.heap.size, 3, none⟩)), .is (.bool b), .pred (OwQ (w.heap.size + 2) x y l b), .any]) (by kernel_rfl) (by kernel_rfl) (Rq.Wd.stays _ _ (fun i q hi => (by rcases i with _ | _ | _ | _ | _ | _ | _ | _ | _ | i <;> simp at hi <;> (subst hi; first | exact fun k v w1 w2 _ h hr => OwP.tn h hr (Nat.lt_succ_self _) | exact fun k v w1 w2 _ h hr => OwQ.tn h hr (Nat.lt_succ_self _))))) (HS.out) ⟨?_, ?_, ?_, ?_, ?_, ?_, ?_, ?_, ?_, trivial⟩ ?_
  · intro L a w1 hL hS hb hd
    have e1 := hb 1 (Rq.nw (by decide))
    simp [Act.eval] at e1
    exact Rq.does_pure (Rq.wanted_none rfl) (by simp [execOp, e1, go_sem]) rfl (hS.stay (by decide)) (Tn.refl _ _)
  · intro L a w1 hL hS hb hd
    have p3 := (hd ⟨0, .data⟩ (by simp) rfl).2 _ _ rfl rfl
    have e3 : a.tmps[3]?.getD undef = (.pointer (some ⟨w.heap.size, 0, none⟩)) := Rq.slot p3
    exact Rq.does_pure (Rq.wanted_none rfl) (by simp [execOp, e3, hS.src.cells.1, hS.src.cells.2.1, go_sem]) rfl (hS.stay (by decide)) (Tn.refl _ _)
  · intro L a w1 hL hS hb hd
    have e1 := hb 1 (Rq.nw (by decide))
    simp [Act.eval] at e1
    exact Rq.does_pure (Rq.wanted_none rfl) (by simp [execOp, e1, go_sem]) rfl (hS.stay (by decide)) (Tn.refl _ _)
  · intro L a w1 hL hS hb hd
    have p5 := (hd ⟨2, .data⟩ (by simp) rfl).2 _ _ rfl rfl
    have e5 : a.tmps[5]?.getD undef = (.pointer (some ⟨w.heap.size, 2, none⟩)) := Rq.slot p5
    exact Rq.does_pure (Rq.wanted_none rfl) (by simp [execOp, e5, hS.src.cells.2.2.1, go_sem]) rfl (hS.stay (by decide)) (Tn.refl _ _)
  · intro L a w1 hL hS hb hd
    have p6 := (hd ⟨3, .data⟩ (by simp) rfl).2 _ _ rfl rfl
    have e6 : a.tmps[6]?.getD undef = (.slice A n c) := Rq.slot p6
    refine Rq.does_call (f := 40) (args := #[.slice A n c]) (Rq.wanted_none rfl) (by simp [e6, go_sem]) ?_
    refine (own_big A n c l w1 hS.uns hn).mono ?_; rintro e w3 ⟨A', c', rfl, ho, hb⟩; exact ⟨_, rfl, ⟨A', c', rfl, OwnR.lower ho hS.size⟩, hS.next (by decide) hb, Tn.of _ hb⟩
  · intro L a w1 hL hS hb hd
    have e1 := hb 1 (Rq.nw (by decide))
    simp [Act.eval] at e1
    exact Rq.does_pure (Rq.wanted_none rfl) (by simp [execOp, e1, go_sem]) rfl (hS.stay (by decide)) (Tn.refl _ _)
  · intro L a w1 hL hS hb hd
    have p8 := (hd ⟨5, .data⟩ (by simp) rfl).2 _ _ rfl rfl
    have e8 : a.tmps[8]?.getD undef = (.pointer (some ⟨w.heap.size, 3, none⟩)) := Rq.slot p8
    exact Rq.does_pure (Rq.wanted_none rfl) (by simp [execOp, e8, hS.src.cells.2.2.2, go_sem]) rfl (hS.stay (by decide)) (Tn.refl _ _)
  · intro L a w1 hL hS hb hd
    have p4 := (hd ⟨1, .data⟩ (by simp) rfl).2 _ _ rfl rfl
    have e4 : a.tmps[4]?.getD undef = (.agg #[.int .u32 x, .int .u64 y]) := Rq.slot p4
    have p7 := (hd ⟨4, .data⟩ (by simp) rfl).2 _ _ rfl rfl
    have p9 := (hd ⟨6, .data⟩ (by simp) rfl).2 _ _ rfl rfl
    have e9 : a.tmps[9]?.getD undef = (.bool b) := Rq.slot p9
    obtain ⟨A', c', e7, ho⟩ := p7; have e8 := Rq.slot e7; exact Rq.does_pure (Rq.wanted_none rfl) (by simp [execOp, e4, e8, e9, go_sem]) ⟨A', c', rfl, ho⟩ (hS.stay (by decide)) (Tn.refl _ _)
  · intro L a w1 hL hS hb hd
    have e2 := hb 2 (Rq.nw (by decide))
    simp [Act.eval] at e2
    have p10 := (hd ⟨7, .data⟩ (by simp) rfl).2 _ _ rfl rfl
    obtain ⟨A', c', e9, ho⟩ := p10; have e8 := Rq.slot e9; obtain ⟨d0, d1, d2, d3⟩ := (hS.pre hL).cells; have f2 := fun j => (hS.pre hL).frozen j; exact Rq.does_skip rfl (Rq.wanted_none rfl) (by simp [execOp, e2, e8, go_sem, d0, d1, d2, d3, f2]) trivial (hS.laid hL ho) (tn_four _ _ _ _ _ _)
  · intro L v w3 hS hall hv
    obtain ⟨A', c', h1, h2⟩ := hS.post (hall 8 (by decide))
    have H1 := Lib.hid h1
    have H2 := Lib.hid h2
    have HB := Lib.hid hS.bel
    clear hS hall hv h1 h2
    simp only [Rq.putAll]
    simp only [Act.put, List.setIfInBounds_toArray, List.set_cons_succ, List.set_cons_zero]
    go_wp2_with fail
    exact bodyPost_ret (results_op rfl (by rfl) H1.out) rfl ⟨A', c', rfl, OwnR.lower H2.out (by omega), HB.out⟩
end Go.Proofs.Ytkgehgedbgogbaa
