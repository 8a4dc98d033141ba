/-
  A row of code points of the law's own, cell by cell: many cells stored at once; slices.Delete at it. Conditions: those that each states.
-/
import Derived.Test.YtjplchajopkpcaaPceM
import Derived.Deep.RegionLaw
import Derived.Lib.SliceRun
namespace Go.Proofs.Ytjplchajopkpcaa
open Go.RowKit

/-- vs written from o on -/
def sets (cur : Array Value) : Nat → List Value → Array Value
  | _, [] => cur
  | o, v :: r => sets (cur.setIfInBounds o v) (o + 1) r
theorem sets_size (vs : List Value) : ∀ (cur : Array Value) (o : Nat), (sets cur o vs).size = cur.size := by
  induction vs with
  | nil => intro cur o; rfl
  | cons v r ih => intro cur o; show (sets (cur.setIfInBounds o v) (o + 1) r).size = _; rw [ih]; simp
theorem sets_in (vs : List Value) : ∀ (cur : Array Value) (o i : Nat), i < vs.length → o + vs.length ≤ cur.size → (sets cur o vs)[o + i]? = vs[i]? := by
  induction vs with
  | nil => intro cur o i h; simp at h
  | cons v r ih =>
    intro cur o i h hs
    show (sets (cur.setIfInBounds o v) (o + 1) r)[o + i]? = _
    have hs' : o + (r.length + 1) ≤ cur.size := by simpa using hs
    cases i with
    | zero =>
      have : ∀ (r : List Value) (c : Array Value) (k : Nat), o < k → (sets c k r)[o]? = c[o]? := by
        intro r
        induction r with
        | nil => intro c k _; rfl
        | cons u r ih => intro c k hk; show (sets (c.setIfInBounds k u) (k + 1) r)[o]? = _; rw [ih _ _ (by omega), Array.getElem?_setIfInBounds_ne (by omega)]
      refine (this r (cur.setIfInBounds o v) (o + 1) (by omega)).trans ?_
      rw [Array.getElem?_setIfInBounds_self_of_lt (by omega)]; rfl
    | succ i =>
      have := ih (cur.setIfInBounds o v) (o + 1) i (by simpa using h) (by simp; omega)
      rw [show o + 1 + i = o + (i + 1) by omega] at this
      rw [this]; rfl
theorem sets_out (vs : List Value) : ∀ (cur : Array Value) (o i : Nat), i < o ∨ o + vs.length ≤ i → (sets cur o vs)[i]? = cur[i]? := by
  induction vs with
  | nil => intro cur o i _; rfl
  | cons v r ih =>
    intro cur o i h
    have h' : i < o ∨ o + (r.length + 1) ≤ i := by simpa using h
    show (sets (cur.setIfInBounds o v) (o + 1) r)[i]? = _
    rw [ih _ _ _ (by omega), Array.getElem?_setIfInBounds_ne (by omega)]
theorem row_sets {g : Nat} {t : TypeId} {fr : Nat × Nat} (vs : List Value) : ∀ (w : World) (o : Nat) (cur : Array Value), w.heap[g]? = some (.cells cur t fr) → (w.setCells g o vs).heap[g]? = some (.cells (sets cur o vs) t fr) := by
  induction vs with
  | nil => intro w o cur h; exact h
  | cons v r ih => intro w o cur h; exact ih (w.setCell ⟨g, o, none⟩ v) (o + 1) _ (blk_set h v)
theorem tn_sets {g : Nat} (vs : List Value) : ∀ (w0 w : World) (o : Nat), Tn (fun b => b = g) w0 w → Tn (fun b => b = g) w0 (w.setCells g o vs) := by
  induction vs with
  | nil => intro w0 w o h; exact h
  | cons v r ih => intro w0 w o h; exact ih w0 (w.setCell ⟨g, o, none⟩ v) (o + 1) (Tn.set_ (T := fun b => b = g) h (p := ⟨g, o, none⟩) (Or.inr rfl) v)
end Go.Proofs.Ytjplchajopkpcaa
