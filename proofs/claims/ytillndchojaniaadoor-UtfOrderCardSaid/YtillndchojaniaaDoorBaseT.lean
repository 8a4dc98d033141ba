/-
  Words for memory that a call may turn in some blocks alone ('Tn'), and for blocks that hold a struct or a boxed variable. Conditions: those that each lemma states.
-/
import Derived.Test.YtillndchojaniaaDoorBaseS
import Derived.Laws.Rows
import Derived.OneCell
namespace Go.Proofs.YtillndchojaniaaDoor
open Go.RowKit

/-- of w's blocks only those of T may have turned; no block has gone -/
structure Tn (T : Nat → Prop) (w w' : World) : Prop where
  os : w'.os = w.os
  tape : w'.tape = w.tape
  output : w'.output = w.output
  size : w.heap.size ≤ w'.heap.size
  block : ∀ b, b < w.heap.size → ¬ T b → w'.heap[b]? = w.heap[b]?

section
variable {T T' : Nat → Prop} {w w' w1 w2 : World}
theorem Tn.refl (T : Nat → Prop) (w : World) : Tn T w w := ⟨rfl, rfl, rfl, Nat.le_refl _, fun _ _ _ => rfl⟩
theorem Tn.trans (h : Tn T w w1) (k : Tn T' w1 w2) (hT : ∀ b, b < w.heap.size → T' b → T b) : Tn T w w2 :=
  ⟨k.os.trans h.os, k.tape.trans h.tape, k.output.trans h.output, Nat.le_trans h.size k.size, fun b hb hn => (k.block b (Nat.lt_of_lt_of_le hb h.size) (fun ht => hn (hT b hb ht))).trans (h.block b hb hn)⟩
theorem Tn.more (h : Tn T w w') (hT : ∀ b, b < w.heap.size → T b → T' b) : Tn T' w w' := ⟨h.os, h.tape, h.output, h.size, fun b hb hn => h.block b hb (fun ht => hn (hT b hb ht))⟩
theorem Tn.of (T : Nat → Prop) (h : Below w.heap.size w w') : Tn T w w' := ⟨h.os, h.tape, h.output, h.size, fun b hb _ => h.block b hb⟩
theorem Tn.drew (h : Tn T w w') : Tn T w w'.drew := ⟨h.os, h.tape, h.output, h.size, h.block⟩
theorem Tn.drawn (h : Tn T w.drew w') : Tn T w w' := ⟨h.os, h.tape, h.output, h.size, h.block⟩
theorem Tn.alloc (h : Tn T w w') (o : Obj) : Tn T w (w'.alloc o) := h.trans (T' := T) (Tn.of T ((Below.refl _ _).alloc (Nat.le_refl _) o)) (fun _ _ x => x)
theorem Tn.set_ (h : Tn T w w') {p : Addr} (hp : w.heap.size ≤ p.block ∨ T p.block) (u : Value) : Tn T w (w'.setCell p u) :=
  ⟨h.os, h.tape, h.output, by simpa [World.setCell] using h.size, fun b hb hn => (Below.heap_setCell w' p u b (fun e => by
    rcases hp with hp | hp
    · omega
    · exact hn (e ▸ hp))).trans (h.block b hb hn)⟩
theorem Tn.grown (h : Tn T w w') {row : Option Nat} (hg : w'.grownBy w1 row) (hr : ∀ k, row = some k → w.heap.size ≤ k ∨ T k) : Tn T w w1 :=
  ⟨hg.os.trans h.os, hg.tape.trans h.tape, hg.output.trans h.output, Nat.le_trans h.size hg.size, fun b hb hn => (hg.block b (Nat.lt_of_lt_of_le hb h.size) (fun e => by
    rcases hr b e.symm with h1 | h1
    · omega
    · exact hn h1)).trans (h.block b hb hn)⟩
theorem Tn.cell (h : Tn T w w') {p : Addr} (hp : p.block < w.heap.size) (hn : ¬ T p.block) : w'.cell? p = w.cell? p := World.cell?_of_block (w := w) (h.block p.block hp hn)
theorem Tn.below (h : Tn T w w') {B : Nat} {w0 : World} (hb : Below B w0 w) (hB : B ≤ w.heap.size) (hT : ∀ b, T b → B ≤ b) : Below B w0 w' :=
  ⟨h.os.trans hb.os, h.tape.trans hb.tape, h.output.trans hb.output, Nat.le_trans hb.size h.size, fun b hbB => (h.block b (by omega) (fun ht => by have := hT b ht; omega)).trans (hb.block b hbB)⟩
theorem Tn.own (h : Tn T w w') {base g c : Nat} {X : List Nat} (hO : Own w base g c X) (hg : ¬ T g) : Own w' base g c X := by
  have hlt := hO.form.2.1
  refine ⟨⟨hO.1.1, ?_⟩, hO.2⟩
  rcases hO.1.2 with ⟨e, _⟩ | ⟨g', cap', cur, e, h0, hh, hr⟩
  · cases e
  · refine .inr ⟨g', cap', cur, e, h0, ?_, hr⟩
    simp only [Value.slice.injEq, Option.some.injEq, Addr.mk.injEq, and_true, true_and] at e
    obtain ⟨rfl, rfl⟩ := e
    rw [h.block g hlt hg]; exact hh
theorem Tn.ownV (h : Tn T w w') {base : Nat} {v : Value} {X : List Nat} (hO : OwnV w base v X) (hg : ∀ g, v.ownBlock = some g → ¬ T g) : OwnV w' base v X := by
  rcases hO.cases with ⟨rfl, rfl⟩ | ⟨g, cap, rfl, hO⟩
  · exact OwnV.nil_ _ _
  · exact h.own hO (hg g rfl)
/-- a slice's block is none of T -/
def Apart (T : Nat → Prop) (A : Option Addr) (n : Nat) : Prop := 0 < n → ∀ ad, A = some ad → ¬ T ad.block
theorem Apart.none_ (T : Nat → Prop) (n : Nat) : Apart T none n := fun _ _ h => by cases h
theorem Tn.bys (h : Tn T w w') {B n c : Nat} {A : Option Addr} {X : List Nat} (hB : Bys w B A n c X) (hA : Apart T A n) : Bys w' w'.heap.size A n c X := by
  have hl := hB.lt
  refine ⟨hl.1, hl.2.1, hl.2.2.1, hl.2.2.2.1, hl.2.2.2.2.1, fun hn => ?_⟩
  obtain ⟨g, o, e, hg, hc⟩ := hl.2.2.2.2.2 hn
  exact ⟨g, o, e, Nat.lt_of_lt_of_le hg h.size, fun i hi => (h.cell (p := ⟨g, o + i, none⟩) hg (hA hn ⟨g, o, none⟩ e)).trans (hc i hi)⟩
end

/-! ### blocks that hold a struct -/
theorem blk_set {w : World} {p i : Nat} {cs : Array Value} {t : TypeId} {fr : Nat × Nat} (h : w.heap[p]? = some (.cells cs t fr)) (u : Value) : (w.setCell ⟨p, i, none⟩ u).heap[p]? = some (.cells (cs.setIfInBounds i u) t fr) := by
  have hlt := lt_of_block h
  have h' : w.heap[p] = .cells cs t fr := by simpa [Array.getElem?_eq_getElem hlt] using h
  show (w.heap.modify p _)[p]? = _
  rw [Array.getElem?_eq_getElem (by simpa using hlt), Array.getElem_modify_self, h']
  rfl
theorem blk_keep {w : World} {p : Nat} {a : Addr} (u : Value) (h : p ≠ a.block) : (w.setCell a u).heap[p]? = w.heap[p]? := Below.heap_setCell w a u p h
theorem cell0 {w : World} {p : Nat} {a : Value} {r : List Value} {t : TypeId} (h : w.heap[p]? = some (.cells (a :: r).toArray t (0, 0))) : w.cell? ⟨p, 0, none⟩ = some a := by
  rw [cell_of_row w p 0 _ _ _ h]; simp
end Go.Proofs.YtillndchojaniaaDoor
