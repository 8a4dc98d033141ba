/-
  A row of code points of the law's own, cell by cell: many cells stored at once; slices.Delete at it. Conditions: those that each states.
-/
import Derived.Test.YtfjnliebgndemaaPceM
import Derived.Deep.RegionLaw
import Derived.Lib.SliceRun
namespace Go.Proofs.Ytfjnliebgndemaa
open Go.RowKit

/-- vs written from o on -/
def sets (cur : Array Value) : Nat → List Value → Array Value
  | _, [] => cur
  | o, v :: r => sets (cur.setIfInBounds o v) (o + 1) r
theorem sets_size (vs : List Value) : ∀ (cur : Array Value) (o : Nat), (sets cur o vs).size = cur.size := by
  induction vs with
  | nil => intro cur o; rfl
  | cons v r ih => intro cur o; show (sets (cur.setIfInBounds o v) (o + 1) r).size = _; rw [ih]; simp
theorem sets_in (vs : List Value) : ∀ (cur : Array Value) (o i : Nat), i < vs.length → o + vs.length ≤ cur.size → (sets cur o vs)[o + i]? = vs[i]? := by
  induction vs with
  | nil => intro cur o i h; simp at h
  | cons v r ih =>
    intro cur o i h hs
    show (sets (cur.setIfInBounds o v) (o + 1) r)[o + i]? = _
    have hs' : o + (r.length + 1) ≤ cur.size := by simpa using hs
    cases i with
    | zero =>
      have : ∀ (r : List Value) (c : Array Value) (k : Nat), o < k → (sets c k r)[o]? = c[o]? := by
        intro r
        induction r with
        | nil => intro c k _; rfl
        | cons u r ih => intro c k hk; show (sets (c.setIfInBounds k u) (k + 1) r)[o]? = _; rw [ih _ _ (by omega), Array.getElem?_setIfInBounds_ne (by omega)]
      refine (this r (cur.setIfInBounds o v) (o + 1) (by omega)).trans ?_
      rw [Array.getElem?_setIfInBounds_self_of_lt (by omega)]; rfl
    | succ i =>
      have := ih (cur.setIfInBounds o v) (o + 1) i (by simpa using h) (by simp; omega)
      rw [show o + 1 + i = o + (i + 1) by omega] at this
      rw [this]; rfl
theorem sets_out (vs : List Value) : ∀ (cur : Array Value) (o i : Nat), i < o ∨ o + vs.length ≤ i → (sets cur o vs)[i]? = cur[i]? := by
  induction vs with
  | nil => intro cur o i _; rfl
  | cons v r ih =>
    intro cur o i h
    have h' : i < o ∨ o + (r.length + 1) ≤ i := by simpa using h
    show (sets (cur.setIfInBounds o v) (o + 1) r)[i]? = _
    rw [ih _ _ _ (by omega), Array.getElem?_setIfInBounds_ne (by omega)]
theorem row_sets {g : Nat} {t : TypeId} {fr : Nat × Nat} (vs : List Value) : ∀ (w : World) (o : Nat) (cur : Array Value), w.heap[g]? = some (.cells cur t fr) → (w.setCells g o vs).heap[g]? = some (.cells (sets cur o vs) t fr) := by
  induction vs with
  | nil => intro w o cur h; exact h
  | cons v r ih => intro w o cur h; exact ih (w.setCell ⟨g, o, none⟩ v) (o + 1) _ (blk_set h v)
theorem tn_sets {g : Nat} (vs : List Value) : ∀ (w0 w : World) (o : Nat), Tn (fun b => b = g) w0 w → Tn (fun b => b = g) w0 (w.setCells g o vs) := by
  induction vs with
  | nil => intro w0 w o h; exact h
  | cons v r ih => intro w0 w o h; exact ih w0 (w.setCell ⟨g, o, none⟩ v) (o + 1) (Tn.set_ (T := fun b => b = g) h (p := ⟨g, o, none⟩) (Or.inr rfl) v)
/-- an own row with its cells laid open -/
def Rowc (w : World) (g n c : Nat) (cs : List Int) (cur : Array Value) : Prop :=
  w.heap[g]? = some (.cells cur 25 (0, 0)) ∧ cur.size = c ∧ cs.length = n ∧ n ≤ c ∧ c ≤ maxLen ∧ (∀ x ∈ cs, Pl.J x) ∧ ∀ i, i < n → cur[i]? = some (.int .i32 (cs.getD i 0))
theorem Rowc.own {w : World} {g n c base : Nat} {cs : List Int} {cur : Array Value} (h : Rowc w g n c cs cur) (hb : base ≤ g) : OwnC w base (.slice (some ⟨g, 0, none⟩) n c) cs := by
  obtain ⟨h1, h2, h3, h4, h5, h6, h7⟩ := h
  refine ⟨⟨by rw [len_cellsC, Nat.mul_one], Or.inr ⟨g, c, cur, by rw [h3], hb, h1, by omega, h5, by omega, ?_⟩⟩, h6⟩
  apply List.ext_getElem?
  intro i
  rw [Nat.mul_one, List.getElem?_take]
  rcases Nat.lt_or_ge i cs.length with hi | hi
  · rw [if_pos hi, Array.getElem?_toList, h7 i (by omega), cellsC_at cs i hi]
  · rw [if_neg (by omega), List.getElem?_eq_none (by rw [len_cellsC]; exact hi)]
theorem OwnC.row {w : World} {g n c base : Nat} {cs : List Int} (h : OwnC w base (.slice (some ⟨g, 0, none⟩) n c) cs) : base ≤ g ∧ ∃ cur, Rowc w g n c cs cur := by
  obtain ⟨hn, _⟩ := h.crs
  have hJ := h.2
  rcases h.1.2 with ⟨e, _⟩ | ⟨g', cap, cur, e, hb, hg, h1, h2, h3, h4⟩
  · cases e
  · cases e
    refine ⟨hb, cur, hg, by omega, by omega, by omega, h2, hJ, fun i hi => ?_⟩
    have := cellsC_at cs i (by omega)
    rw [← h4, List.getElem?_take, Nat.mul_one, if_pos (by omega), Array.getElem?_toList] at this
    exact this
/-- other cells of the same block -/
theorem Rowc.sets_ {w : World} {g n c k : Nat} {cs ds : List Int} {cur : Array Value} (h : Rowc w g n c cs cur) (o : Nat) (vs : List Value) (ho : o + vs.length ≤ c) (hk : k ≤ c) (hd : ds.length = k) (hJ : ∀ x ∈ ds, Pl.J x)
    (h1 : ∀ i, i < k → o ≤ i → i < o + vs.length → vs[i - o]? = some (.int .i32 (ds.getD i 0))) (h2 : ∀ i, i < k → i < o ∨ o + vs.length ≤ i → cur[i]? = some (.int .i32 (ds.getD i 0))) : Rowc (w.setCells g o vs) g k c ds (sets cur o vs) := by
  obtain ⟨g1, g2, g3, g4, g5, g6, g7⟩ := h
  refine ⟨row_sets vs w o cur g1, by rw [sets_size]; exact g2, hd, hk, g5, hJ, fun i hi => ?_⟩
  rcases Nat.lt_or_ge i o with hio | hio
  · rw [sets_out vs cur o i (Or.inl hio)]; exact h2 i hi (Or.inl hio)
  · rcases Nat.lt_or_ge i (o + vs.length) with hiv | hiv
    · have := sets_in vs cur o (i - o) (by omega) (by omega)
      rw [show o + (i - o) = i by omega] at this
      rw [this]; exact h1 i hi hio hiv
    · rw [sets_out vs cur o i (Or.inr hiv)]; exact h2 i hi (Or.inr hiv)
theorem Rowc.cell {w : World} {g n c : Nat} {cs : List Int} {cur : Array Value} (h : Rowc w g n c cs cur) {j : Nat} (hj : j < c) : (w.cell? ⟨g, j, none⟩).isSome = true ∧ w.frozen? ⟨g, j, none⟩ = false := by
  refine ⟨?_, frozen_of_row w g j _ _ h.1⟩
  rw [cell_of_row w g j _ _ _ h.1, Array.getElem?_eq_getElem (by rw [h.2.1]; exact hj)]
  rfl
theorem Rowc.drew {w : World} {g n c : Nat} {cs : List Int} {cur : Array Value} (h : Rowc w g n c cs cur) : Rowc w.drew g n c cs cur := h
end Go.Proofs.Ytfjnliebgndemaa
