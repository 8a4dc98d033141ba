/-
  Contracts of unit.moves and its closures, and of unit.Over: what becomes of a unit behind another. No conditions.
-/
import Derived.Test.YtfjnliebgndemaaUniA
import Derived.Test.YtfjnliebgndemaaBaseQ
import Derived.Carry
import Derived.WideMake
import Derived.Handy
namespace Go.Proofs.Ytfjnliebgndemaa
open Go.RowKit
open Pl (Un)

theorem below_three {w : World} {a b c : Obj} : Below w.heap.size w (((w.alloc a).alloc b).alloc c) := below_alloc (below_alloc (below_box w a) b) c
theorem UAt.frozen {w : World} {b : Nat} {k p c x y : Int} (h : UAt w b k p c x y) (j : Nat) : w.frozen? ⟨b, j, none⟩ = false := frozen_of_row w b j _ _ h
/-- a unit laid over one -/
theorem UAt.sets {w : World} {b : Nat} {k p c x y : Int} (h : UAt w b k p c x y) (k' p' c' x' y' : Int) :
    UAt (((((w.setCell ⟨b, 0, none⟩ (.int .i64 k')).setCell ⟨b, 1, none⟩ (.int .i64 p')).setCell ⟨b, 2, none⟩ (.int .i32 c')).setCell ⟨b, 3, none⟩ (.int .u32 x')).setCell ⟨b, 4, none⟩ (.int .u64 y')) b k' p' c' x' y' := by
  have h0 := blk_set (i := 0) h (.int .i64 k')
  have h1 := blk_set (i := 1) h0 (.int .i64 p')
  have h2 := blk_set (i := 2) h1 (.int .i32 c')
  have h3 := blk_set (i := 3) h2 (.int .u32 x')
  exact blk_set (i := 4) h3 (.int .u64 y')
theorem UAt.setPos {w : World} {b : Nat} {k p c x y : Int} (h : UAt w b k p c x y) (p' : Int) : UAt (w.setCell ⟨b, 1, none⟩ (.int .i64 p')) b k p' c x y := blk_set (i := 1) h (.int .i64 p')
/-- three units in new memory, and what stays of them behind a call -/
theorem three_new (w : World) (k p c x y k' p' c' x' y' : Int) :
    ∀ w', Below ((((w.alloc (.cells #[.int .i64 k, .int .i64 p, .int .i32 c, .int .u32 x, .int .u64 y] 57)).alloc (.cells #[.int .i64 k', .int .i64 p', .int .i32 c', .int .u32 x', .int .u64 y'] 57)).alloc (.cells #[.int .i64 0, .int .i64 0, .int .i32 0, .int .u32 0, .int .u64 0] 57))).heap.size (((w.alloc (.cells #[.int .i64 k, .int .i64 p, .int .i32 c, .int .u32 x, .int .u64 y] 57)).alloc (.cells #[.int .i64 k', .int .i64 p', .int .i32 c', .int .u32 x', .int .u64 y'] 57)).alloc (.cells #[.int .i64 0, .int .i64 0, .int .i32 0, .int .u32 0, .int .u64 0] 57)) w' →
      UAt w' w.heap.size k p c x y ∧ UAt w' (w.heap.size + 1) k' p' c' x' y' ∧ UAt w' (w.heap.size + 1 + 1) 0 0 0 0 0 ∧ Below w.heap.size w w' := by
  intro w' hb
  refine ⟨(((uat_new w k p c x y).alloc _).alloc _).then_ hb, UAt.then_ (UAt.alloc (heap_new (by simp)) _) hb, UAt.then_ (heap_new (by simp)) hb, below_three.trans (hb.mono below_three.size)⟩
theorem results_unit {fn : Func} {t : Tmp} {tmps : Array Value} {b : Nat} {Z : World} {k p c x y : Int} (h : fn.results = #[.cell t 57]) (ha : tmps.getD t undef = .pointer (some ⟨b, 0, none⟩)) (hZ : UAt Z b k p c x y) :
    (results fn tmps).run Try.prog Z = .ok (uval ⟨k, p, c, x, y⟩) Z := by
  obtain ⟨c0, c1, c2, c3, c4⟩ := hZ.cells
  have ha' : tmps[t]?.getD undef = .pointer (some ⟨b, 0, none⟩) := by simpa using ha
  simp [results, h, ha', go_sem, c0, c1, c2, c3, c4, uval]
/-- one place of another block turned -/
theorem UAt.far {w : World} {b : Nat} {k p c x y : Int} (h : UAt w b k p c x y) {q : Addr} (hq : b ≠ q.block) (u : Value) : UAt (w.setCell q u) b k p c x y := (blk_keep u hq).trans h
theorem below_sets {w w' : World} {b B : Nat} (h : Below B w w') (hb : B ≤ b) (v0 v1 v2 v3 v4 : Value) : Below B w (((((w'.setCell ⟨b, 0, none⟩ v0).setCell ⟨b, 1, none⟩ v1).setCell ⟨b, 2, none⟩ v2).setCell ⟨b, 3, none⟩ v3).setCell ⟨b, 4, none⟩ v4) :=
  ((((h.setCell (p := ⟨b, 0, none⟩) hb _).setCell (p := ⟨b, 1, none⟩) hb _).setCell (p := ⟨b, 2, none⟩) hb _).setCell (p := ⟨b, 3, none⟩) hb _).setCell (p := ⟨b, 4, none⟩) hb _
theorem ret_val {a b : Value} (h : a = b) : Ending.returned a = .returned b := by rw [h]
/-- in Over's last region: the two units' own cells, the answer's, and all that was there -/
def OvS (w0 : World) (s : Nat) (k p c x y k' p' c' x' y' k2 p2 c2 x2 y2 : Int) (L : Nat → Bool) (w : World) : Prop :=
  UAt w s k p c x y ∧ UAt w (s + 1) k' p' c' x' y' ∧ (L 7 = false → UAt w (s + 1 + 1) 0 0 0 0 0) ∧ (L 7 = true → UAt w (s + 1 + 1) k2 p2 c2 x2 y2) ∧ Below s w0 w
/-- what one operation there may turn -/
def OvR (s : Nat) (_ : Nat) (w w' : World) : Prop := ∀ b o, b ≠ s + 1 + 1 → w.heap[b]? = some o → w'.heap[b]? = some o
theorem OvR.of {s k : Nat} {w w' : World} (h : Below w.heap.size w w') : OvR s k w w' := fun _ _ _ hb => below_old h hb (lt_of_block hb)
theorem OvR.refl {s k : Nat} (w : World) : OvR s k w w := fun _ _ _ h => h
section
variable {w0 w w' : World} {s i : Nat} {k p c x y k' p' c' x' y' k2 p2 c2 x2 y2 : Int} {L : Nat → Bool}
theorem OvS.next (h : OvS w0 s k p c x y k' p' c' x' y' k2 p2 c2 x2 y2 L w) (hi : i ≠ 7) (hb : Below w.heap.size w w') : OvS w0 s k p c x y k' p' c' x' y' k2 p2 c2 x2 y2 (Rq.up L i) w' := by
  have e : Rq.up L i 7 = L 7 := by simp [Rq.up, hi]
  unfold OvS
  rw [e]
  exact ⟨h.1.then_ hb, h.2.1.then_ hb, fun hL => (h.2.2.1 hL).then_ hb, fun hL => (h.2.2.2.1 hL).then_ hb, h.2.2.2.2.trans (hb.mono (Nat.le_of_lt h.1.lt))⟩
theorem OvS.stay (h : OvS w0 s k p c x y k' p' c' x' y' k2 p2 c2 x2 y2 L w) (hi : i ≠ 7) : OvS w0 s k p c x y k' p' c' x' y' k2 p2 c2 x2 y2 (Rq.up L i) w := h.next hi (Below.refl _ _)
theorem OvS.lt (h : OvS w0 s k p c x y k' p' c' x' y' k2 p2 c2 x2 y2 L w) : s + 1 + 1 < w.heap.size := by
  cases hL : L 7 with
  | true => exact (h.2.2.2.1 hL).lt
  | false => exact (h.2.2.1 hL).lt
theorem OvS.laid (h : OvS w0 s k p c x y k' p' c' x' y' k2 p2 c2 x2 y2 L w) (hL : L 7 = false) :
    OvS w0 s k p c x y k' p' c' x' y' k2 p2 c2 x2 y2 (Rq.up L 7) (((((w.setCell ⟨s + 1 + 1, 0, none⟩ (.int .i64 k2)).setCell ⟨s + 1 + 1, 1, none⟩ (.int .i64 p2)).setCell ⟨s + 1 + 1, 2, none⟩ (.int .i32 c2)).setCell ⟨s + 1 + 1, 3, none⟩ (.int .u32 x2)).setCell ⟨s + 1 + 1, 4, none⟩ (.int .u64 y2)) := by
  have e1 : s ≠ s + 1 + 1 := by omega
  have e2 : s + 1 ≠ s + 1 + 1 := by omega
  refine ⟨((((h.1.far e1 _).far e1 _).far e1 _).far e1 _).far e1 _, ((((h.2.1.far e2 _).far e2 _).far e2 _).far e2 _).far e2 _, (fun e => by simp [Rq.up] at e), fun _ => (h.2.2.1 hL).sets _ _ _ _ _, below_sets h.2.2.2.2 (by omega) _ _ _ _ _⟩
theorem OvR.laid {k : Nat} {v0 v1 v2 v3 v4 : Value} : OvR s k w (((((w.setCell ⟨s + 1 + 1, 0, none⟩ v0).setCell ⟨s + 1 + 1, 1, none⟩ v1).setCell ⟨s + 1 + 1, 2, none⟩ v2).setCell ⟨s + 1 + 1, 3, none⟩ v3).setCell ⟨s + 1 + 1, 4, none⟩ v4) :=
  fun _ _ hb h => (blk_keep _ hb).trans ((blk_keep _ hb).trans ((blk_keep _ hb).trans ((blk_keep _ hb).trans ((blk_keep _ hb).trans h))))
end

end Go.Proofs.Ytfjnliebgndemaa
