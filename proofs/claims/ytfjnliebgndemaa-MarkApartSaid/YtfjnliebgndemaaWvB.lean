/-
  weave.Both's closure: one unit carried over a row that a cell holds. Conditions: the row is one of the call's own, of at most a thousand units; the cell lies in another block.
-/
import Derived.Test.YtfjnliebgndemaaWvA
import Derived.Test.YtfjnliebgndemaaWvP
import Derived.Test.YtfjnliebgndemaaBaseV
namespace Go.Proofs.Ytfjnliebgndemaa
open Go.RowKit
open Pl (Un)

theorem getD_of_get {l : List Un} {i : Nat} (h : i < l.length) : l[i]? = some (l.getD i default) := by
  rw [List.getD_eq_getElem?_getD, List.getElem?_eq_getElem h]; rfl
theorem OwnU.sets {w : World} {base g n c : Nat} {l : List Un} (h : OwnU w base (.slice (some ⟨g, 0, none⟩) n c) l) {i : Nat} (hi : i < n) (u : Un) :
    OwnU (((((w.setCell ⟨g, i * 5, none⟩ (.int .i64 u.k)).setCell ⟨g, i * 5 + 1, none⟩ (.int .i64 u.p)).setCell ⟨g, i * 5 + 2, none⟩ (.int .i32 u.c)).setCell ⟨g, i * 5 + 3, none⟩ (.int .u32 u.x)).setCell ⟨g, i * 5 + 4, none⟩ (.int .u64 u.y)) base (.slice (some ⟨g, 0, none⟩) n c) (l.set i u) := by
  have hl := h.len
  have hil : i < l.length := by omega
  have hx := getD_of_get hil
  obtain ⟨x, hxe⟩ : ∃ x, x = l.getD i default := ⟨_, rfl⟩
  rw [← hxe] at hx
  have set_at : ∀ y : Un, (l.set i y)[i]? = some y := fun y => by rw [List.getElem?_set_self hil]
  have h0 := (OwnR.set_ encU_len h i 0 (.int .i64 u.k) (by decide) x ⟨u.k, x.p, x.c, x.x, x.y⟩ hx rfl).1
  have h1 := (OwnR.set_ encU_len h0 i 1 (.int .i64 u.p) (by decide) _ ⟨u.k, u.p, x.c, x.x, x.y⟩ (set_at _) rfl).1
  rw [List.set_set] at h1
  have h2 := (OwnR.set_ encU_len h1 i 2 (.int .i32 u.c) (by decide) _ ⟨u.k, u.p, u.c, x.x, x.y⟩ (set_at _) rfl).1
  rw [List.set_set] at h2
  have h3 := (OwnR.set_ encU_len h2 i 3 (.int .u32 u.x) (by decide) _ ⟨u.k, u.p, u.c, u.x, x.y⟩ (set_at _) rfl).1
  rw [List.set_set] at h3
  have h4 := (OwnR.set_ encU_len h3 i 4 (.int .u64 u.y) (by decide) _ ⟨u.k, u.p, u.c, u.x, u.y⟩ (set_at _) rfl).1
  rw [List.set_set] at h4
  exact h4
theorem tn_five {T : Nat → Prop} {w w' : World} (h : Tn T w w') {g i : Nat} (hg : w.heap.size ≤ g ∨ T g) (v0 v1 v2 v3 v4 : Value) : Tn T w (((((w'.setCell ⟨g, i, none⟩ v0).setCell ⟨g, i + 1, none⟩ v1).setCell ⟨g, i + 2, none⟩ v2).setCell ⟨g, i + 3, none⟩ v3).setCell ⟨g, i + 4, none⟩ v4) :=
  ((((h.set_ (p := ⟨g, i, none⟩) hg v0).set_ (p := ⟨g, i + 1, none⟩) hg v1).set_ (p := ⟨g, i + 2, none⟩) hg v2).set_ (p := ⟨g, i + 3, none⟩) hg v3).set_ (p := ⟨g, i + 4, none⟩) hg v4
/-- a row at another block stays -/
theorem OwnU.far {w : World} {base g i n c : Nat} {A : Option Addr} {l : List Un} (h : OwnU w base (.slice A n c) l) (hg : ∀ k, Value.ownBlock (.slice A n c) = some k → k ≠ g) (v0 v1 v2 v3 v4 : Value) : OwnU (((((w.setCell ⟨g, i, none⟩ v0).setCell ⟨g, i + 1, none⟩ v1).setCell ⟨g, i + 2, none⟩ v2).setCell ⟨g, i + 3, none⟩ v3).setCell ⟨g, i + 4, none⟩ v4) base (.slice A n c) l :=
  OwnR.tn (T := fun b => b = g) h (tn_five (T := fun b => b = g) (Tn.refl _ w) (Or.inr rfl) v0 v1 v2 v3 v4) (fun k hk => hg k hk)
theorem UAt.far5 {w : World} {b g i : Nat} {k p c x y : Int} (h : UAt w b k p c x y) (hg : b ≠ g) (v0 v1 v2 v3 v4 : Value) : UAt (((((w.setCell ⟨g, i, none⟩ v0).setCell ⟨g, i + 1, none⟩ v1).setCell ⟨g, i + 2, none⟩ v2).setCell ⟨g, i + 3, none⟩ v3).setCell ⟨g, i + 4, none⟩ v4) b k p c x y :=
  ((((h.far (q := ⟨g, i, none⟩) hg v0).far (q := ⟨g, i + 1, none⟩) hg v1).far (q := ⟨g, i + 2, none⟩) hg v2).far (q := ⟨g, i + 3, none⟩) hg v3).far (q := ⟨g, i + 4, none⟩) hg v4
/-- a slice of units in a cell of its own -/
def InCell (w : World) (pb : Nat) (v : Value) : Prop := w.heap[pb]? = some (.cells #[v] 33 (0, 0))
theorem InCell.cell {w : World} {pb : Nat} {v : Value} (h : InCell w pb v) : w.cell? ⟨pb, 0, none⟩ = some v := cell0 (r := []) h
theorem InCell.lt {w : World} {pb : Nat} {v : Value} (h : InCell w pb v) : pb < w.heap.size := lt_of_block h
theorem InCell.tn {T : Nat → Prop} {w w' : World} {pb : Nat} {v : Value} (h : InCell w pb v) (ht : Tn T w w') (hT : ¬ T pb) : InCell w' pb v := ht.old h hT
theorem UAt.tn {T : Nat → Prop} {w w' : World} {b : Nat} {k p c x y : Int} (h : UAt w b k p c x y) (ht : Tn T w w') (hT : ¬ T b) : UAt w' b k p c x y := ht.old h hT
theorem list_at {a b : List Un} {n : Nat} (h : a.length = n) (j : Nat) (hj : n = j) : (a ++ b.drop j).getD j default = b.getD j default := by
  rw [List.getD_eq_getElem?_getD, List.getD_eq_getElem?_getD, List.getElem?_append_right (by omega), List.getElem?_drop, show j + (j - a.length) = j by omega]
theorem list_set {a b : List Un} {j : Nat} (h : a.length = j) (hj : j < b.length) (u : Un) : (a ++ b.drop j).set j u = (a ++ [u]) ++ b.drop (j + 1) := by
  rw [List.set_append_right _ _ (by omega), show j - a.length = 0 by omega, List.drop_eq_getElem_cons hj, List.set_cons_zero, List.append_assoc]
  rfl
/-- in the drawn region: x's cells, the row's, and all else -/
def CaS (wr : World) (xb base : Nat) (V : Value) (x x' : Un) (row row' : List Un) (L : Nat → Bool) (w : World) : Prop :=
  (L 8 = false → UAt w xb x.k x.p x.c x.x x.y) ∧ (L 8 = true → UAt w xb x'.k x'.p x'.c x'.x x'.y ∧ L 2 = true ∧ L 6 = true) ∧ (L 10 = false → OwnU w base V row) ∧ (L 10 = true → OwnU w base V row') ∧ Tn (fun b => b = xb ∨ V.ownBlock = some b) wr w
def PR0 (_ : Nat) (_ _ : World) : Prop := True
section
variable {wr w w' : World} {xb base i : Nat} {V : Value} {x x' : Un} {row row' : List Un} {L : Nat → Bool}
theorem CaS.tn (h : CaS wr xb base V x x' row row' L w) : Tn (fun b => b = xb ∨ V.ownBlock = some b) wr w := h.2.2.2.2
theorem CaS.next (h : CaS wr xb base V x x' row row' L w) (h8 : i ≠ 8) (h10 : i ≠ 10) (hb : Below w.heap.size w w') : CaS wr xb base V x x' row row' (Rq.up L i) w' := by
  have e8 : Rq.up L i 8 = L 8 := by simp [Rq.up, h8]
  have e10 : Rq.up L i 10 = L 10 := by simp [Rq.up, h10]
  obtain ⟨g1, g2, g3, g4, g5⟩ := h
  unfold CaS
  rw [e8, e10]
  refine ⟨fun h => (g1 h).then_ hb, fun h => ⟨(g2 h).1.then_ hb, ?_, ?_⟩, fun h => OwnR.then_ (g3 h) hb, fun h => OwnR.then_ (g4 h) hb, g5.trans (Tn.of (fun _ => False) hb) (fun _ _ h => h.elim)⟩
  · simp [Rq.up, (g2 h).2.1]
  · simp [Rq.up, (g2 h).2.2]
theorem CaS.stay (h : CaS wr xb base V x x' row row' L w) (h8 : i ≠ 8) (h10 : i ≠ 10) : CaS wr xb base V x x' row row' (Rq.up L i) w := h.next h8 h10 (Below.refl _ _)
/-- x is what it was, where one of its loads is still to come -/
theorem CaS.old2 (h : CaS wr xb base V x x' row row' L w) (hL : L 2 = false) : UAt w xb x.k x.p x.c x.x x.y := by
  refine h.1 ?_
  cases e : L 8 with
  | false => rfl
  | true => have := (h.2.1 e).2.1; rw [hL] at this; cases this
theorem CaS.old6 (h : CaS wr xb base V x x' row row' L w) (hL : L 6 = false) : UAt w xb x.k x.p x.c x.x x.y := by
  refine h.1 ?_
  cases e : L 8 with
  | false => rfl
  | true => have := (h.2.1 e).2.2; rw [hL] at this; cases this
theorem CaS.laid8 {m c : Nat} {A : Option Addr} (h : CaS wr xb base (.slice A m c) x x' row row' L w) (hL : L 8 = false) (h2 : L 2 = true) (h6 : L 6 = true) (hne : ∀ k, Value.ownBlock (.slice A m c) = some k → k ≠ xb) :
    CaS wr xb base (.slice A m c) x x' row row' (Rq.up L 8) (((((w.setCell ⟨xb, 0, none⟩ (.int .i64 x'.k)).setCell ⟨xb, 1, none⟩ (.int .i64 x'.p)).setCell ⟨xb, 2, none⟩ (.int .i32 x'.c)).setCell ⟨xb, 3, none⟩ (.int .u32 x'.x)).setCell ⟨xb, 4, none⟩ (.int .u64 x'.y)) := by
  obtain ⟨g1, g2, g3, g4, g5⟩ := h
  have e10 : Rq.up L 8 10 = L 10 := by simp [Rq.up]
  refine ⟨(fun e => by simp [Rq.up] at e), fun _ => ⟨(g1 hL).sets _ _ _ _ _, by simp [Rq.up, h2], by simp [Rq.up, h6]⟩, ?_, ?_, ?_⟩
  · rw [e10]; exact fun h => OwnU.far (i := 0) (g3 h) hne _ _ _ _ _
  · rw [e10]; exact fun h => OwnU.far (i := 0) (g4 h) hne _ _ _ _ _
  · exact tn_five (i := 0) g5 (Or.inr (Or.inl rfl)) _ _ _ _ _
theorem CaS.laid10 {m c g j : Nat} {y' : Un} (h : CaS wr xb base (.slice (some ⟨g, 0, none⟩) m c) x x' row row' L w) (hL : L 10 = false) (h8 : L 8 = true) (hne : g ≠ xb) (hj : j < m) (hr : row' = row.set j y') :
    CaS wr xb base (.slice (some ⟨g, 0, none⟩) m c) x x' row row' (Rq.up L 10) (((((w.setCell ⟨g, j * 5, none⟩ (.int .i64 y'.k)).setCell ⟨g, j * 5 + 1, none⟩ (.int .i64 y'.p)).setCell ⟨g, j * 5 + 2, none⟩ (.int .i32 y'.c)).setCell ⟨g, j * 5 + 3, none⟩ (.int .u32 y'.x)).setCell ⟨g, j * 5 + 4, none⟩ (.int .u64 y'.y)) := by
  obtain ⟨g1, g2, g3, g4, g5⟩ := h
  have e8 : Rq.up L 10 8 = L 8 := by simp [Rq.up]
  refine ⟨(fun e => by rw [e8, h8] at e; cases e), fun _ => ⟨(g2 h8).1.far5 (Ne.symm hne) _ _ _ _ _, by simp [Rq.up, (g2 h8).2.1], by simp [Rq.up, (g2 h8).2.2]⟩, (fun e => by simp [Rq.up] at e), fun _ => ?_, ?_⟩
  · rw [hr]; exact OwnU.sets (g3 hL) hj y'
  · exact tn_five g5 (Or.inr (Or.inr rfl)) _ _ _ _ _
end
/-- between one unit of the row and the next -/
def CaR (w : World) (base : Nat) (V : Value) (l : List Un) (x : Un) (i : Value) (wr : World) : Prop :=
  ∃ j : Nat, i = .int .i64 (j : Int) ∧ j ≤ l.length ∧ (∃ u, u = (Pl.thru x (l.take j)).1 ∧ UAt wr w.heap.size u.k u.p u.c u.x u.y) ∧ UAt wr (w.heap.size + 1) 0 0 0 0 0 ∧ OwnU wr base V ((Pl.thru x (l.take j)).2 ++ l.drop j) ∧ Tn (fun b => V.ownBlock = some b) w wr
theorem thru_len (x : Un) (l : List Un) : (Pl.thru x l).2.length = l.length := Pl.len_thru x l
end Go.Proofs.Ytfjnliebgndemaa
