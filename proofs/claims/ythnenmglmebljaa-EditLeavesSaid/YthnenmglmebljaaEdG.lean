/-
  edit.Runs in memory: a box that holds the runs, the runs, each run's own code points, all apart from each other. Conditions: those that each states.
-/
import Derived.Test.YthnenmglmebljaaEdF
namespace Go.Proofs.Ythnenmglmebljaa
open Go.RowKit
open Pl (Un)

/-- a run's chars as a value -/
def RnV.sl (r : RnV) : Value := .slice r.A r.n r.c
/-- the box, the runs and their chars; nothing older than base has turned -/
structure RI (w0 : World) (b0 : Nat) (w : World) (B : Option Addr) (d : Nat) (L : List RnV) : Prop where
  box : w.heap[b0]? = some (.cells #[.slice B L.length d] 45 (0, 0))
  own : OwnN w w0.heap.size (.slice B L.length d) L
  chars : ∀ i, i < L.length → OwnC w w0.heap.size (L.getD i default).sl (L.getD i default).cs
  nb : ∀ g, (Value.slice B L.length d).ownBlock = some g → g ≠ b0
  nc : ∀ i, i < L.length → ∀ g, (L.getD i default).sl.ownBlock = some g → g ≠ b0 ∧ (Value.slice B L.length d).ownBlock ≠ some g
  ap : ∀ i j, i < L.length → j < L.length → i ≠ j → ∀ g, (L.getD i default).sl.ownBlock = some g → (L.getD j default).sl.ownBlock ≠ some g
  hb : w0.heap.size ≤ b0
  below : Below w0.heap.size w0 w
section
variable {w0 w w1 w2 : World} {b0 : Nat} {B : Option Addr} {d : Nat} {L : List RnV}
theorem apart_of {v : Value} {row : Option Nat} (h : ∀ g, v.ownBlock = some g → row ≠ some g) : v.ownBlock = none ∨ v.ownBlock ≠ row := by
  cases hv : v.ownBlock with
  | none => exact Or.inl rfl
  | some g => exact Or.inr fun e => h g hv e.symm
theorem RI.then_ (h : RI w0 b0 w B d L) (k : Below w.heap.size w w1) : RI w0 b0 w1 B d L :=
  ⟨(k.block b0 (lt_of_block h.box)).trans h.box, OwnR.then_ h.own k, fun i hi => (h.chars i hi).then_ k, h.nb, h.nc, h.ap, h.hb, below_then h.below k⟩
theorem RI.lens (h : RI w0 b0 w B d L) : ∀ r ∈ L, r.cs.length = r.n := by
  intro r hr
  obtain ⟨i, hi, rfl⟩ := List.getElem_of_mem hr
  have := (h.chars i hi).crs.1
  rw [List.getD_eq_getElem?_getD, List.getElem?_eq_getElem hi] at this
  exact this.symm
theorem RI.rnr (h : RI w0 b0 w B d L) : Rnr w w.heap.size B L.length d L := (OwnR.rws encR_len h.own).2
theorem RI.rns (h : RI w0 b0 w B d L) : Rns w B L.length d L := by
  refine ⟨h.rnr, fun r hr => ?_⟩
  obtain ⟨i, hi, rfl⟩ := List.getElem_of_mem hr
  have := (h.chars i hi).crs.2
  rw [List.getD_eq_getElem?_getD, List.getElem?_eq_getElem hi] at this
  exact this
theorem getD_snoc_lt {L : List RnV} {r : RnV} {i : Nat} (h : i < L.length) : (L ++ [r]).getD i default = L.getD i default := by
  rw [List.getD_eq_getElem?_getD, List.getD_eq_getElem?_getD, List.getElem?_append_left h]
theorem getD_snoc_eq {L : List RnV} {r : RnV} : (L ++ [r]).getD L.length default = r := by
  rw [List.getD_eq_getElem?_getD, List.getElem?_append_right (Nat.le_refl _)]; simp
/-- one more run, that has no chars yet -/
theorem RI.push (h : RI w0 b0 w B d L) {r : RnV} {B' : Option Addr} {d' : Nat} (hr : r.sl = .slice none 0 0) (hrc : r.cs = [])
    (ho : OwnN w2 w0.heap.size (.slice B' (L.length + 1) d') (L ++ [r])) (hg : w.grownBy w2 (Value.ownBlock (.slice B L.length d)))
    (hat : Value.ownBlock (.slice B' (L.length + 1) d') = Value.ownBlock (.slice B L.length d) ∨ Value.ownBlock (.slice B' (L.length + 1) d') = some w.heap.size) :
    RI w0 b0 (w2.setCell ⟨b0, 0, none⟩ (.slice B' (L.length + 1) d')) B' d' (L ++ [r]) := by
  have hlen : (L ++ [r]).length = L.length + 1 := by simp
  have hb0 := lt_of_block h.box
  have hnb : ∀ g, (Value.slice B' (L.length + 1) d').ownBlock = some g → g ≠ b0 := fun g e => by
    rcases hat with k | k
    · exact h.nb g (k.symm.trans e)
    · rw [k] at e; injection e with e; omega
  have hcl : ∀ i, i < L.length → ∀ g, (L.getD i default).sl.ownBlock = some g → g ≠ b0 ∧ (Value.slice B' (L.length + 1) d').ownBlock ≠ some g := fun i hi g e => by
    refine ⟨(h.nc i hi g e).1, fun k => ?_⟩
    rcases hat with q | q
    · exact (h.nc i hi g e).2 (q.symm.trans k)
    · have := ((h.chars i hi).lt g e).2
      rw [q] at k; injection k with k; omega
  have hbx : w2.heap[b0]? = some (.cells #[.slice B L.length d] 45 (0, 0)) := (hg.block b0 hb0 (fun e => h.nb b0 e.symm rfl)).trans h.box
  refine ⟨?_, ?_, ?_, ?_, ?_, ?_, h.hb, ?_⟩
  · rw [hlen]; exact blk_set (i := 0) hbx _
  · rw [hlen]
    exact OwnR.same ho fun g _ _ e => blk_keep _ (hnb g e)
  · intro i hi
    rw [hlen] at hi
    rcases Nat.lt_or_ge i L.length with k | k
    · rw [getD_snoc_lt k]
      have hc := (h.chars i k).grown hg (apart_of fun g e => (h.nc i k g e).2)
      exact hc.same fun g _ _ e => blk_keep _ (h.nc i k g e).1
    · obtain rfl : i = L.length := by omega
      rw [getD_snoc_eq, hr, hrc]
      exact OwnC.nil_ _ _
  · rw [hlen]; exact hnb
  · intro i hi g e
    rw [hlen] at hi ⊢
    rcases Nat.lt_or_ge i L.length with k | k
    · rw [getD_snoc_lt k] at e; exact hcl i k g e
    · obtain rfl : i = L.length := by omega
      rw [getD_snoc_eq, hr] at e; cases e
  · intro i j hi hj hij g e
    rw [hlen] at hi hj
    rcases Nat.lt_or_ge i L.length with k | k
    · rw [getD_snoc_lt k] at e
      rcases Nat.lt_or_ge j L.length with q | q
      · rw [getD_snoc_lt q]; exact h.ap i j k q hij g e
      · obtain rfl : j = L.length := by omega
        rw [getD_snoc_eq, hr]; intro e; cases e
    · obtain rfl : i = L.length := by omega
      rw [getD_snoc_eq, hr] at e; cases e
  · exact (h.below.grown hg (Nat.le_trans h.hb (Nat.le_of_lt hb0)) (fun k e => (OwnR.lt h.own k e).1)).setCell h.hb _
theorem getD_set_eq {L : List RnV} {m : Nat} {r : RnV} (h : m < L.length) : (L.set m r).getD m default = r := by
  rw [List.getD_eq_getElem?_getD, List.getElem?_set_self h]; rfl
theorem getD_set_ne {L : List RnV} {m i : Nat} {r : RnV} (h : i ≠ m) : (L.set m r).getD i default = L.getD i default := by
  rw [List.getD_eq_getElem?_getD, List.getD_eq_getElem?_getD, List.getElem?_set_ne (Ne.symm h)]
/-- one run's chars are longer -/
theorem RI.grow {g1 m n' c' : Nat} {A' : Option Addr} {cs' : List Int} (h : RI w0 b0 w (some ⟨g1, 0, none⟩) d L) (hm : m < L.length)
    (ho : OwnC w2 w0.heap.size (.slice A' n' c') cs') (hg : w.grownBy w2 (L.getD m default).sl.ownBlock)
    (hat : Value.ownBlock (.slice A' n' c') = (L.getD m default).sl.ownBlock ∨ Value.ownBlock (.slice A' n' c') = some w.heap.size) :
    RI w0 b0 (w2.setCell ⟨g1, m * 5 + 4, none⟩ (.slice A' n' c')) (some ⟨g1, 0, none⟩) d (L.set m ⟨(L.getD m default).k, (L.getD m default).p, (L.getD m default).x, (L.getD m default).y, A', n', c', cs'⟩) := by
  have hb0 := lt_of_block h.box
  have hg1 : g1 < w.heap.size := (OwnR.lt h.own g1 rfl).2
  have hg1b : w0.heap.size ≤ g1 := (OwnR.lt h.own g1 rfl).1
  have hgb : g1 ≠ b0 := h.nb g1 rfl
  have hrow : ∀ g, (L.getD m default).sl.ownBlock = some g → g ≠ b0 ∧ g ≠ g1 := fun g e => ⟨(h.nc m hm g e).1, fun e2 => (h.nc m hm g e).2 (by rw [e2]; rfl)⟩
  have hnew : ∀ g, (Value.slice A' n' c').ownBlock = some g → g ≠ b0 ∧ g ≠ g1 := fun g e => by
    rcases hat with q | q
    · exact hrow g (q.symm.trans e)
    · rw [q] at e; injection e with e; omega
  have hbx : w2.heap[b0]? = some (.cells #[.slice (some ⟨g1, 0, none⟩) L.length d] 45 (0, 0)) := (hg.block b0 hb0 (fun e => (hrow b0 e.symm).1 rfl)).trans h.box
  have hown := OwnR.same h.own (w' := w2) fun g _ hlt e => hg.block g hlt (fun e2 => by
    injection e with e
    exact (hrow g e2.symm).2 e.symm)
  have hset := OwnR.set_ encR_len hown m 4 (.slice A' n' c') (by decide) (L.getD m default) ⟨(L.getD m default).k, (L.getD m default).p, (L.getD m default).x, (L.getD m default).y, A', n', c', cs'⟩ (by rw [List.getD_eq_getElem?_getD, List.getElem?_eq_getElem hm]; rfl) rfl
  refine ⟨?_, ?_, ?_, ?_, ?_, ?_, h.hb, ?_⟩
  · rw [List.length_set, blk_keep _ (Ne.symm hgb)]; exact hbx
  · rw [List.length_set]; exact hset.1
  · intro i hi
    rw [List.length_set] at hi
    by_cases him : i = m
    · subst him
      rw [getD_set_eq hm]
      exact ho.same fun g _ _ e => blk_keep _ (hnew g e).2
    · rw [getD_set_ne him]
      have hc := (h.chars i hi).grown hg (apart_of fun g e => h.ap i m hi hm him g e)
      exact hc.same fun g _ _ e => blk_keep _ (fun e2 => (h.nc i hi g e).2 (by simp only at e2; rw [e2]; rfl))
  · rw [List.length_set]; exact fun g e => h.nb g e
  · intro i hi g e
    rw [List.length_set] at hi ⊢
    by_cases him : i = m
    · subst him
      rw [getD_set_eq hm] at e
      exact ⟨(hnew g e).1, fun e2 => by injection e2 with e2; exact (hnew g e).2 e2.symm⟩
    · rw [getD_set_ne him] at e
      exact h.nc i hi g e
  · intro i j hi hj hij g e
    rw [List.length_set] at hi hj
    by_cases him : i = m
    · subst him
      rw [getD_set_eq hm] at e
      rw [getD_set_ne (Ne.symm hij)]
      intro e2
      rcases hat with q | q
      · exact h.ap j i hj hi (Ne.symm hij) g e2 (q.symm.trans e)
      · have := ((h.chars j hj).lt g e2).2
        rw [show (RnV.sl ⟨(L.getD i default).k, (L.getD i default).p, (L.getD i default).x, (L.getD i default).y, A', n', c', cs'⟩).ownBlock = Value.ownBlock (.slice A' n' c') from rfl, q] at e
        injection e with e; omega
    · rw [getD_set_ne him] at e
      by_cases hjm : j = m
      · subst hjm
        rw [getD_set_eq hm]
        intro e2
        rcases hat with q | q
        · exact h.ap i j hi hj hij g e (q.symm.trans e2)
        · have := ((h.chars i hi).lt g e).2
          rw [show (RnV.sl ⟨(L.getD j default).k, (L.getD j default).p, (L.getD j default).x, (L.getD j default).y, A', n', c', cs'⟩).ownBlock = Value.ownBlock (.slice A' n' c') from rfl, q] at e2
          injection e2 with e2; omega
      · rw [getD_set_ne hjm]
        exact h.ap i j hi hj hij g e
  · exact (h.below.grown hg (Nat.le_trans h.hb (Nat.le_of_lt hb0)) (fun k e => ((h.chars m hm).lt k e).1)).setCell hg1b _
/-- at the beginning -/
theorem RI.start (w : World) : RI w w.heap.size (w.alloc (.cells #[.slice none 0 0] 45)) none 0 [] :=
  ⟨heap_new rfl, OwnR.nil_ _ _ _ _ _, (fun i hi => by cases hi), (fun g e => by cases e), (fun i hi => by cases hi), (fun i j hi => by cases hi), Nat.le_refl _, below_box w _⟩
end
/-! ### in plain words -/
namespace Pl
theorem folB_eq (l : List Un) (h : ∀ u ∈ l, I u.p) (u : Un) : runs (l ++ [u]) = if folB (runs l) u = true then long (runs l) u.c else runs l ++ [one u] := by
  obtain ⟨_, _, _, _, h5, _⟩ := runs_inv l h
  rw [runs_snoc]
  unfold addR folB
  cases hl : l.getLast? with
  | none =>
    obtain rfl : l = [] := List.getLast?_eq_none_iff.1 hl
    rfl
  | some v =>
    obtain ⟨pre, r, hp, he⟩ := h5 v hl
    simp only [hp, List.getLast?_append, List.getLast?_singleton, Option.some_or]
    have := fol_ends (u := u) he
    by_cases hf : Fol v u
    · rw [if_pos hf, if_pos]
      obtain ⟨a, b, c, dd, e⟩ := this.1 hf
      simp [a, b, c, e]
      exact dd
    · rw [if_neg hf, if_neg]
      intro h
      apply hf
      apply this.2
      simp at h
      obtain ⟨h1, ⟨h2, h3, h4⟩, h5⟩ := h
      exact ⟨h2, h3, h4, by rw [← h2]; exact h1, h5⟩
end Pl
end Go.Proofs.Ythnenmglmebljaa
