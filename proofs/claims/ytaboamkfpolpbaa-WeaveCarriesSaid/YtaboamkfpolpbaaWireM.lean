/-
  Words for memory that a call may turn in some blocks alone ('Tn'), for blocks that hold a struct, for a writer of records ('Wr') and a reader of records ('Rd'), and what keeps them. Conditions: those that each lemma states.
-/
import Derived.Test.YtaboamkfpolpbaaWNumC
import Derived.Test.YtaboamkfpolpbaaWNumD
import Derived.Laws.Rows
import Derived.OneCell
namespace Go.Proofs.Ytaboamkfpolpbaa.Wi
open Go.RowKit

/-- a call's answer: the bytes bs of its own, nil if there are none, nothing that was there turned -/
def RetV (w : World) (bs : List Nat) (e : Ending) (w' : World) : Prop :=
  ∃ A cap, e = .returned (.slice A bs.length cap) ∧ OwnV w' w.heap.size (.slice A bs.length cap) bs ∧ Below w.heap.size w w'
theorem RetV.row {w w' : World} {bs : List Nat} {e : Ending} (h : RetV w bs e w') (hp : 0 < bs.length) : RetRow w bs e w' := by
  obtain ⟨A, cap, rfl, hV, hb⟩ := h
  obtain ⟨g, rfl, _, hO⟩ := hV.pos_ hp
  exact ⟨g, cap, rfl, hO, hb⟩


/-- of w's blocks only those of T may have turned; no block has gone -/
structure Tn (T : Nat → Prop) (w w' : World) : Prop where
  os : w'.os = w.os
  tape : w'.tape = w.tape
  output : w'.output = w.output
  size : w.heap.size ≤ w'.heap.size
  block : ∀ b, b < w.heap.size → ¬ T b → w'.heap[b]? = w.heap[b]?

section
variable {T T' : Nat → Prop} {w w' w1 w2 : World}
set_option maxRecDepth 100000 in
theorem Tn.refl (T : Nat → Prop) (w : World) : Tn T w w := ⟨rfl, rfl, rfl, Nat.le_refl _, fun _ _ _ => rfl⟩
set_option maxRecDepth 100000 in
theorem Tn.trans (h : Tn T w w1) (k : Tn T' w1 w2) (hT : ∀ b, b < w.heap.size → T' b → T b) : Tn T w w2 :=
  ⟨k.os.trans h.os, k.tape.trans h.tape, k.output.trans h.output, Nat.le_trans h.size k.size, fun b hb hn => (k.block b (Nat.lt_of_lt_of_le hb h.size) (fun ht => hn (hT b hb ht))).trans (h.block b hb hn)⟩
set_option maxRecDepth 100000 in
theorem Tn.more (h : Tn T w w') (hT : ∀ b, b < w.heap.size → T b → T' b) : Tn T' w w' := ⟨h.os, h.tape, h.output, h.size, fun b hb hn => h.block b hb (fun ht => hn (hT b hb ht))⟩
set_option maxRecDepth 100000 in
theorem Tn.of (T : Nat → Prop) (h : Below w.heap.size w w') : Tn T w w' := ⟨h.os, h.tape, h.output, h.size, fun b hb _ => h.block b hb⟩
set_option maxRecDepth 100000 in
theorem Tn.drew (h : Tn T w w') : Tn T w w'.drew := ⟨h.os, h.tape, h.output, h.size, h.block⟩
set_option maxRecDepth 100000 in
theorem Tn.drawn (h : Tn T w.drew w') : Tn T w w' := ⟨h.os, h.tape, h.output, h.size, h.block⟩
set_option maxRecDepth 100000 in
theorem Tn.alloc (h : Tn T w w') (o : Obj) : Tn T w (w'.alloc o) := h.trans (T' := T) (Tn.of T ((Below.refl _ _).alloc (Nat.le_refl _) o)) (fun _ _ x => x)
set_option maxRecDepth 100000 in
theorem Tn.set_ (h : Tn T w w') {p : Addr} (hp : w.heap.size ≤ p.block ∨ T p.block) (u : Value) : Tn T w (w'.setCell p u) :=
  ⟨h.os, h.tape, h.output, by simpa [World.setCell] using h.size, fun b hb hn => (Below.heap_setCell w' p u b (fun e => by
    rcases hp with hp | hp
    · omega
    · exact hn (e ▸ hp))).trans (h.block b hb hn)⟩
set_option maxRecDepth 100000 in
theorem Tn.grown (h : Tn T w w') {row : Option Nat} (hg : w'.grownBy w1 row) (hr : ∀ k, row = some k → w.heap.size ≤ k ∨ T k) : Tn T w w1 :=
  ⟨hg.os.trans h.os, hg.tape.trans h.tape, hg.output.trans h.output, Nat.le_trans h.size hg.size, fun b hb hn => (hg.block b (Nat.lt_of_lt_of_le hb h.size) (fun e => by
    rcases hr b e.symm with h1 | h1
    · omega
    · exact hn h1)).trans (h.block b hb hn)⟩
set_option maxRecDepth 100000 in
theorem Tn.cell (h : Tn T w w') {p : Addr} (hp : p.block < w.heap.size) (hn : ¬ T p.block) : w'.cell? p = w.cell? p := World.cell?_of_block (w := w) (h.block p.block hp hn)
set_option maxRecDepth 100000 in
theorem Tn.below (h : Tn T w w') {B : Nat} {w0 : World} (hb : Below B w0 w) (hB : B ≤ w.heap.size) (hT : ∀ b, T b → B ≤ b) : Below B w0 w' :=
  ⟨h.os.trans hb.os, h.tape.trans hb.tape, h.output.trans hb.output, Nat.le_trans hb.size h.size, fun b hbB => (h.block b (by omega) (fun ht => by have := hT b ht; omega)).trans (hb.block b hbB)⟩
set_option maxRecDepth 100000 in
theorem Tn.own (h : Tn T w w') {base g c : Nat} {X : List Nat} (hO : Own w base g c X) (hg : ¬ T g) : Own w' base g c X := by
  have hlt := hO.form.2.1
  refine ⟨⟨hO.1.1, ?_⟩, hO.2⟩
  rcases hO.1.2 with ⟨e, _⟩ | ⟨g', cap', cur, e, h0, hh, hr⟩
  · cases e
  · refine .inr ⟨g', cap', cur, e, h0, ?_, hr⟩
    simp only [Value.slice.injEq, Option.some.injEq, Addr.mk.injEq, and_true, true_and] at e
    obtain ⟨rfl, rfl⟩ := e
    rw [h.block g hlt hg]; exact hh
set_option maxRecDepth 100000 in
theorem Tn.ownV (h : Tn T w w') {base : Nat} {v : Value} {X : List Nat} (hO : OwnV w base v X) (hg : ∀ g, v.ownBlock = some g → ¬ T g) : OwnV w' base v X := by
  rcases hO.cases with ⟨rfl, rfl⟩ | ⟨g, cap, rfl, hO⟩
  · exact OwnV.nil_ _ _
  · exact h.own hO (hg g rfl)
/-- a slice's block is none of T -/
def Apart (T : Nat → Prop) (A : Option Addr) (n : Nat) : Prop := 0 < n → ∀ ad, A = some ad → ¬ T ad.block
set_option maxRecDepth 100000 in
theorem Apart.none_ (T : Nat → Prop) (n : Nat) : Apart T none n := fun _ _ h => by cases h
set_option maxRecDepth 100000 in
theorem Tn.bys (h : Tn T w w') {B n c : Nat} {A : Option Addr} {X : List Nat} (hB : Bys w B A n c X) (hA : Apart T A n) : Bys w' w'.heap.size A n c X := by
  have hl := hB.lt
  refine ⟨hl.1, hl.2.1, hl.2.2.1, hl.2.2.2.1, hl.2.2.2.2.1, fun hn => ?_⟩
  obtain ⟨g, o, e, hg, hc⟩ := hl.2.2.2.2.2 hn
  exact ⟨g, o, e, Nat.lt_of_lt_of_le hg h.size, fun i hi => (h.cell (p := ⟨g, o + i, none⟩) hg (hA hn ⟨g, o, none⟩ e)).trans (hc i hi)⟩
end

/-! ### blocks that hold a struct -/
set_option maxRecDepth 100000 in
theorem blk_set {w : World} {p i : Nat} {cs : Array Value} {t : TypeId} {fr : Nat × Nat} (h : w.heap[p]? = some (.cells cs t fr)) (u : Value) : (w.setCell ⟨p, i, none⟩ u).heap[p]? = some (.cells (cs.setIfInBounds i u) t fr) := by
  have hlt := lt_of_block h
  have h' : w.heap[p] = .cells cs t fr := by simpa [Array.getElem?_eq_getElem hlt] using h
  show (w.heap.modify p _)[p]? = _
  rw [Array.getElem?_eq_getElem (by simpa using hlt), Array.getElem_modify_self, h']
  rfl
set_option maxRecDepth 100000 in
theorem blk_keep {w : World} {p : Nat} {a : Addr} (u : Value) (h : p ≠ a.block) : (w.setCell a u).heap[p]? = w.heap[p]? := Below.heap_setCell w a u p h
/-! ### the writer -/
/-- the writer at block p has written bs; F: its own blocks -/
def Wr (w : World) (p : Nat) (F : Nat → Prop) (bs : List Nat) : Prop :=
  F p ∧ (∀ b, F b → b < w.heap.size) ∧
    ((w.heap[p]? = some (.cells #[.pointer none, .int .i64 0] 57 (0, 0)) ∧ bs = []) ∨
     ∃ (s : Nat) (A : Option Addr) (n c : Nat), w.heap[p]? = some (.cells #[.pointer (some ⟨s, 0, none⟩), .int .i64 ((n : Nat) : Int)] 57 (0, 0)) ∧ w.heap[s]? = some (.cells #[.slice A n c] 82 (0, 0)) ∧
       OwnV w 0 (.slice A n c) bs ∧ F s ∧ s ≠ p ∧ ∀ g, Value.ownBlock (.slice A n c) = some g → F g ∧ g ≠ s ∧ g ≠ p)
section
variable {T F : Nat → Prop} {w w' : World} {p : Nat} {bs : List Nat}
set_option maxRecDepth 100000 in
theorem Wr.lt (h : Wr w p F bs) : ∀ b, F b → b < w.heap.size := h.2.1
set_option maxRecDepth 100000 in
theorem Wr.keep (h : Wr w p F bs) (ht : Tn T w w') (hT : ∀ b, F b → ¬ T b) : Wr w' p F bs := by
  obtain ⟨hp, hl, h⟩ := h
  refine ⟨hp, fun b hb => Nat.lt_of_lt_of_le (hl b hb) ht.size, ?_⟩
  rcases h with ⟨h1, h2⟩ | ⟨s, A, n, c, h1, h2, h3, h4, h5, h6⟩
  · exact Or.inl ⟨(ht.block p (hl p hp) (hT p hp)).trans h1, h2⟩
  · exact Or.inr ⟨s, A, n, c, (ht.block p (hl p hp) (hT p hp)).trans h1, (ht.block s (hl s h4) (hT s h4)).trans h2, ht.ownV h3 (fun g hg => hT g (h6 g hg).1), h4, h5, h6⟩
set_option maxRecDepth 100000 in
theorem Wr.below (h : Wr w p F bs) (hb : Below w.heap.size w w') : Wr w' p F bs := h.keep (Tn.of (fun _ => False) hb) (fun _ _ x => x)
set_option maxRecDepth 100000 in
theorem Wr.oct (h : Wr w p F bs) : Pl.Oct bs := by
  rcases h.2.2 with ⟨_, rfl⟩ | ⟨s, A, n, c, _, _, h3, _⟩
  · intro x hx; cases hx
  · exact h3.2
end
/-- what a call of a writer leaves -/
def Wrote (w : World) (p : Nat) (F : Nat → Prop) (bs : List Nat) (w' : World) : Prop := ∃ F', Wr w' p F' bs ∧ Tn F w w' ∧ (∀ b, F' b → F b ∨ w.heap.size ≤ b) ∧ ∀ b, F b → F' b

/-! ### the reader -/
/-- the reader at A (none: nil): r is left, e is its error's number; F: its own blocks -/
def Rd (w : World) (A : Option Addr) (F : Nat → Prop) (r : List Nat) (e : Int) : Prop :=
  (∀ b, F b → b < w.heap.size) ∧ Pl.I e ∧
    ((A = none ∧ e = 2 ∧ r = []) ∨
     (∃ p x y z, A = some ⟨p, 0, none⟩ ∧ F p ∧ w.heap[p]? = some (.cells #[.bool false, x, y, z] 80 (0, 0)) ∧ e = 2 ∧ r = []) ∨
     (∃ p x y, A = some ⟨p, 0, none⟩ ∧ F p ∧ w.heap[p]? = some (.cells #[.bool true, x, y, .int .i64 e] 80 (0, 0)) ∧ e ≠ 0 ∧ r = []) ∨
     (∃ p A' n c k bs, A = some ⟨p, 0, none⟩ ∧ F p ∧ w.heap[p]? = some (.cells #[.bool true, .slice A' n c, .int .i64 ((k : Nat) : Int), .int .i64 0] 80 (0, 0)) ∧
        Bys w w.heap.size A' n c bs ∧ (∀ ad, A' = some ad → F ad.block ∧ ad.block ≠ p) ∧ k ≤ n ∧ r = bs.drop k ∧ e = 0))
section
variable {T F : Nat → Prop} {w w' : World} {A : Option Addr} {r : List Nat} {e : Int}
set_option maxRecDepth 100000 in
theorem Rd.lt (h : Rd w A F r e) : ∀ b, F b → b < w.heap.size := h.1
set_option maxRecDepth 100000 in
theorem Rd.keep (h : Rd w A F r e) (ht : Tn T w w') (hT : ∀ b, F b → ¬ T b) : Rd w' A F r e := by
  obtain ⟨hl, hi, h⟩ := h
  refine ⟨fun b hb => Nat.lt_of_lt_of_le (hl b hb) ht.size, hi, ?_⟩
  rcases h with h | ⟨p, x, y, z, h1, h2, h3, h4⟩ | ⟨p, x, y, h1, h2, h3, h4⟩ | ⟨p, A', n, c, k, bs, h1, h2, h3, h4, h5, h6⟩
  · exact Or.inl h
  · exact Or.inr (Or.inl ⟨p, x, y, z, h1, h2, (ht.block p (hl p h2) (hT p h2)).trans h3, h4⟩)
  · exact Or.inr (Or.inr (Or.inl ⟨p, x, y, h1, h2, (ht.block p (hl p h2) (hT p h2)).trans h3, h4⟩))
  · exact Or.inr (Or.inr (Or.inr ⟨p, A', n, c, k, bs, h1, h2, (ht.block p (hl p h2) (hT p h2)).trans h3, ht.bys h4 (fun _ ad ha => hT _ (h5 ad ha).1), h5, h6⟩))
set_option maxRecDepth 100000 in
theorem Rd.below (h : Rd w A F r e) (hb : Below w.heap.size w w') : Rd w' A F r e := h.keep (Tn.of (fun _ => False) hb) (fun _ _ x => x)
set_option maxRecDepth 100000 in
theorem Rd.dead (h : Rd w A F r e) (he : e ≠ 0) : r = [] := by
  rcases h.2.2 with h | ⟨p, x, y, z, h1, h2, h3, h4⟩ | ⟨p, x, y, h1, h2, h3, h4⟩ | ⟨p, A', n, c, k, bs, h1, h2, h3, h4, h5, h6⟩
  · exact h.2.2
  · exact h4.2
  · exact h4.2
  · exact absurd h6.2.2 he
set_option maxRecDepth 100000 in
theorem Rd.ok (h : Rd w A F r 0) : ∃ p A' n c k bs, A = some ⟨p, 0, none⟩ ∧ F p ∧ w.heap[p]? = some (.cells #[.bool true, .slice A' n c, .int .i64 ((k : Nat) : Int), .int .i64 0] 80 (0, 0)) ∧
        Bys w w.heap.size A' n c bs ∧ (∀ ad, A' = some ad → F ad.block ∧ ad.block ≠ p) ∧ k ≤ n ∧ r = bs.drop k := by
  rcases h.2.2 with h | ⟨p, x, y, z, h1, h2, h3, h4, h5⟩ | ⟨p, x, y, h1, h2, h3, h4, h5⟩ | ⟨p, A', n, c, k, bs, h1, h2, h3, h4, h5, h6, h7, h8⟩
  · exact absurd h.2.1 (by omega)
  · exact absurd h4 (by omega)
  · exact absurd rfl h4
  · exact ⟨p, A', n, c, k, bs, h1, h2, h3, h4, h5, h6, h7⟩
end
end Go.Proofs.Ytaboamkfpolpbaa.Wi
