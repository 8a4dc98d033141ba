/-
  A range over a function whose rounds all go on: what a function that is ranged over owes (Runs), and the law of the one who ranges over it, for any function value: what stands ahead of yield (a method value's receiver), what it has captured. Conditions: those that each states.
-/
import Derived.RangeFuncSeq
import Derived.RangeFuncRecord
import Derived.RangeFuncLeaves
import Derived.Test.YtjplchajopkpcaaPceM
namespace Go.Proofs.Ytjplchajopkpcaa.Sq
open Go.RowKit
open Go.Proofs.Ytjplchajopkpcaa

/-- gf, called with yield among its arguments, hands on x after x, each as it may come next, to an end; S: where the heap ended when it first asked; it asks memory of its own to lie as it lay (all below S but O's) -/
def Runs {α : Type} (P : Program) (gf : Nat) (args : Nat → Array Value) (encs : α → Array Value) (Nx : List α → α → Prop) (End : List α → Prop) (O : Nat → Prop) (W : World) : Prop :=
  ∀ (n l : Nat) (J : Nat → List α → World → Prop),
    (∀ W1, Below W.heap.size W W1 → J W1.heap.size [] W1) →
    (∀ S pre W1 W2, W.heap.size ≤ S → J S pre W1 → Tn (fun i => W.heap.size ≤ i ∧ i < S) W1 W2 → J S pre W2) →
    (∀ S pre x W1 m, W.heap.size ≤ S → J S pre W1 → Nx pre x → YieldAt Fence.wide m P l (encs x) W1 fun e W' => e = .returned (.bool true) ∧ J S (pre ++ [x]) W' ∧ Tn (fun i => O i ∨ S ≤ i) W1 W') →
    CallsIn Fence.wide n P gf (args l) W fun e W' => (∃ v, e = .returned v) ∧ ∃ S xs, W.heap.size ≤ S ∧ End xs ∧ J S xs W'
/-- one block becomes another -/
theorem tn_put {T : Nat → Prop} (W : World) {r : Nat} (o : Obj) (hT : T r) : Tn T W (W.putObj r o) :=
  ⟨rfl, rfl, rfl, by rw [World.putObj_size]; exact Nat.le_refl _, fun b _ hb => World.putObj_heap_other (fun e => hb (e ▸ hT))⟩
theorem lt_heap {W : World} {r : Nat} {o : Obj} (h : W.heap[r]? = some o) : r < W.heap.size := (Array.getElem?_eq_some_iff.1 h).1
theorem wp_range {α : Type} {P : Program} {g : Operand} {ps : Array Tmp} {assign body : Code} {Q : Exit → Act → World → Prop} {a : Act} {w : World} {n : Nat} {gf : Nat} {la lb : Array Value}
    (hg : a.eval g = .func (.func gf) la lb) (eg : ∀ args w, (callFunc gf args).run P w = .ok (.enter gf args) w)
    {encs : α → Array Value} {Nx : List α → α → Prop} {End : List α → Prop} {O : Nat → Prop}
    (hrun : ∀ W0, Below w.heap.size w W0 → W0.heap.size = w.heap.size + 2 → Runs P gf (fun l => la ++ #[.func (.yield l) #[] #[]] ++ lb) encs Nx End (fun i => O i ∨ i = w.heap.size + 1) W0)
    (hO : ∀ i, O i → i < w.heap.size) (hps : ∀ x, (encs x).size = ps.size)
    (I : Nat → List α → World → Prop) (Ax : Nat → List α → α → Act → World → Prop)
    (h0 : ∀ W1, Below w.heap.size w W1 → w.heap.size + 2 ≤ W1.heap.size → I W1.heap.size [] W1)
    (hI : ∀ S pre W1 W2, w.heap.size + 2 ≤ S → I S pre W1 → Tn (fun i => w.heap.size ≤ i ∧ i < S) W1 W2 → I S pre W2)
    (hA : ∀ S pre x a1 W1 W2, w.heap.size + 2 ≤ S → Ax S pre x a1 W1 → Tn (fun i => w.heap.size ≤ i ∧ i < S) W1 W2 → Ax S pre x a1 W2)
    (hassign : ∀ m l S pre x W, w.heap.size + 2 ≤ S → S ≤ W.heap.size → I S pre W → Nx pre x → assign.wpIn (Fence.wide.inRound l) m P (Exit.then (fun a1 W1 => Ax S pre x a1 W1 ∧ Tn (fun i => O i ∨ S ≤ i) W W1) (fun _ _ _ => False)) { tmps := (ps.zip (encs x)).foldl (fun t (p, v) => t.setIfInBounds p v) a.tmps, defers := [] } W)
    (hbody : ∀ m l S pre x a1 W, w.heap.size + 2 ≤ S → S ≤ W.heap.size → Ax S pre x a1 W → Nx pre x → body.wpIn (Fence.wide.inRound l) m P (fun e _ W' => e = .normal ∧ I S (pre ++ [x]) W' ∧ Tn (fun i => O i ∨ S ≤ i) W W') a1 W)
    (hdone : ∀ S xs W, w.heap.size + 2 ≤ S → End xs → I S xs W → W.heap[w.heap.size]? = some (.deferred (some [])) → Q .normal { a with defers := { target := .collected w.heap.size, args := #[] } :: a.defers } W) :
    (Code.rangeFunc g ps assign body).wpIn Fence.wide n P Q a w := by
  refine wpIn_rangeFunc fun fn hfn => ?_
  obtain ⟨B, hB⟩ : ∃ B, B = w.heap.size := ⟨_, rfl⟩
  obtain ⟨rec, hrec⟩ : ∃ rec : LoopState → Loop, rec = fun st => { state := st, pending := none, fn, tmps := a.tmps, params := ps, assign, body, defers := w.heap.size } := ⟨_, rfl⟩
  obtain ⟨W0, hW0⟩ : ∃ W0, W0 = (w.alloc (.deferred (some []))).alloc (.loop (rec .ready)) := ⟨_, rfl⟩
  have hs0 : W0.heap.size = B + 2 := by rw [hW0, hB]; simp
  have hb0 : Below w.heap.size w W0 := by rw [hW0]; exact ((Below.refl _ w).alloc (Nat.le_refl _) _).alloc (by simp) _
  have hl0 : W0.heap[B + 1]? = some (.loop (rec .ready)) := by
    rw [hW0, hB]
    have := World.alloc_heap_new (w.alloc (.deferred (some []))) (.loop (rec .ready))
    rwa [World.size_alloc] at this
  have hd0 : W0.heap[B]? = some (.deferred (some [])) := by
    rw [hW0, hB]
    exact (Below.heap_alloc _ _ _ (by simp)).trans (World.alloc_heap_new w _)
  refine ⟨B + 1, [{ target := .collected B, args := #[] }], W0, { target := .fn (.func gf) lb, args := la ++ #[.func (.yield (B + 1)) #[] #[]] }, W0, gf, la ++ #[.func (.yield (B + 1)) #[] #[]] ++ lb, W0, ?_, ?_, ?_, ?_, ?_, ?_⟩
  · rw [hB, hW0, hrec]; exact run_enterLoop_outer _ _ _ _ _
  · simp only [resolve, hg]
    simp [go_sem]
  · intro f' _; trivial
  · simp [invoke, go_sem, eg]
  · intro h; cases h
  · rw [hB] at hl0 hd0 hs0 ⊢
    clear hB
    refine (hrun W0 hb0 hs0 (n - 1) (w.heap.size + 1)
      (fun S pre W => I S pre W ∧ W.heap[w.heap.size + 1]? = some (.loop (rec .ready)) ∧ W.heap[w.heap.size]? = some (.deferred (some [])) ∧ S ≤ W.heap.size)
      (fun W1 h1 => ⟨h0 W1 (hb0.trans (h1.mono (by omega))) (by have := h1.size; omega), below_old h1 hl0 (by omega), below_old h1 hd0 (by omega), Nat.le_refl _⟩)
      (fun S pre W1 W2 hS h ht => ⟨hI S pre W1 W2 (by omega) h.1 (ht.more (fun b _ hb => ⟨by omega, hb.2⟩)), ht.old h.2.1 (fun hb => by omega), ht.old h.2.2.1 (fun hb => by omega), Nat.le_trans h.2.2.2 ht.size⟩)
      ?_).mono ?_
    · rintro S pre x W m hS ⟨hi, hl, hd, hSW⟩ hx
      have hS2 : w.heap.size + 2 ≤ S := by omega
      have hy := run_yield (P := P) (args := encs x) hl (by rw [hrec]; exact hps x)
      rw [hrec] at hy
      refine ⟨fn, _, assign, body, hy, roundIn_of_wpIn hfn (wpIn_mono (hassign m (w.heap.size + 1) S pre x W hS2 hSW hi hx) ?_)⟩
      intro e a1 W1 hq
      cases e with
      | normal =>
        obtain ⟨hax, ht1⟩ := hq
        have hn1 : ¬ (O (w.heap.size + 1) ∨ S ≤ w.heap.size + 1) := fun h => by
          rcases h with h | h
          · have := hO _ h; omega
          · omega
        have hn0 : ¬ (O w.heap.size ∨ S ≤ w.heap.size) := fun h => by
          rcases h with h | h
          · have := hO _ h; omega
          · omega
        have hl1 := ht1.old hl hn1
        have hd1 := ht1.old hd hn0
        refine ⟨_, run_beginRound hl1 (by rw [hrec]), ?_⟩
        obtain ⟨W2, hW2⟩ : ∃ W2, W2 = W1.putObj (w.heap.size + 1) (.loop { rec .ready with state := .busy }) := ⟨_, rfl⟩
        rw [← hW2]
        have ht2 : Tn (fun i => w.heap.size ≤ i ∧ i < S) W1 W2 := by rw [hW2]; exact tn_put W1 _ ⟨by omega, by omega⟩
        have hl2 : W2.heap[w.heap.size + 1]? = some (.loop { rec .ready with state := .busy }) := by rw [hW2]; exact World.putObj_heap_same (lt_heap hl1)
        have hd2 : W2.heap[w.heap.size]? = some (.deferred (some [])) := by rw [hW2, World.putObj_heap_other (by omega)]; exact hd1
        have htl : Tn (fun i => i = w.heap.size + 1) W1 W2 := by rw [hW2]; exact tn_put W1 _ rfl
        have hsz : S ≤ W2.heap.size := Nat.le_trans hSW (Nat.le_trans ht1.size ht2.size)
        refine wpIn_mono (hbody m (w.heap.size + 1) S pre x a1 W2 hS2 hsz (hA S pre x a1 W1 W2 hS2 hax ht2) hx) ?_
        rintro e a3 W3 ⟨rfl, hi3, ht3⟩
        have hl3 := ht3.old hl2 hn1
        have hd3 := ht3.old hd2 hn0
        have hr := run_endRound (P := P) none hl3
        refine ⟨_, _, hr, rfl, ⟨?_, ?_, ?_, ?_⟩, ?_⟩
        · exact hI S (pre ++ [x]) W3 _ hS2 hi3 (tn_put W3 _ ⟨by omega, by omega⟩)
        · rw [World.putObj_heap_same (lt_heap hl3), hrec]; rfl
        · rw [World.putObj_heap_other (by omega)]; exact hd3
        · rw [World.putObj_size]; exact Nat.le_trans hsz ht3.size
        · have t1 : Tn (fun i => (O i ∨ i = w.heap.size + 1) ∨ S ≤ i) W W1 := ht1.more (fun b _ hb => hb.elim (fun h => .inl (.inl h)) .inr)
          have t2 : Tn (fun i => (O i ∨ i = w.heap.size + 1) ∨ S ≤ i) W1 W2 := htl.more (fun b _ hb => .inl (.inr hb))
          have t3 : Tn (fun i => (O i ∨ i = w.heap.size + 1) ∨ S ≤ i) W2 W3 := ht3.more (fun b _ hb => hb.elim (fun h => .inl (.inl h)) .inr)
          exact ((t1.trans t2 (fun _ _ h => h)).trans t3 (fun _ _ h => h)).trans (tn_put (T := fun i => (O i ∨ i = w.heap.size + 1) ∨ S ≤ i) W3 _ (.inl (.inr rfl))) (fun _ _ h => h)
      | ret => exact hq.elim
      | exit id => exact hq.elim
      | goto t => exact hq.elim
      | panic ch => exact hq.elim
      | outgrown => exact hq.elim
    · rintro e W2 ⟨⟨v, rfl⟩, S, xs, hS, hE, hi, hl, hd, _⟩
      refine ⟨none, _, by have := run_endLoop (P := P) hl (by rw [hrec]; simp); rw [hrec] at this; exact this, ?_⟩
      exact hdone S xs _ (by omega) hE (hI S xs W2 _ (by omega) hi (tn_put W2 _ ⟨by omega, by omega⟩)) (by rw [World.putObj_heap_other (by omega)]; exact hd)
end Go.Proofs.Ytjplchajopkpcaa.Sq
