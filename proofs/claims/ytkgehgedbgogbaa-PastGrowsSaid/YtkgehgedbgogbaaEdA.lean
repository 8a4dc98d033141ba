/-
  Words for layer 8: a unit as a value, its contracts (utf.May, unit.May, unit.Grows), comparison of units and Ids, how they come out of what can be read as data, rows of units in memory. No conditions but those that each states.
-/
import Derived.Test.YtkgehgedbgogbaaPceM
import Derived.Test.YtkgehgedbgogbaaPceU
import Derived.Test.YtkgehgedbgogbaaBaseQ
import Derived.Test.YtkgehgedbgogbaaBaseR
import Derived.Test.YtkgehgedbgogbaaBaseV
import Derived.Test.YtkgehgedbgogbaaEdQ
import Derived.Carry
import Derived.WideMake
import Derived.Handy
import Derived.Laws.StructEq
import Derived.Deep.Slices
import Derived.Deep.Fields
import Derived.ChangeSame
import Derived.WideShapes
import Derived.Deep.RegionHeld3
namespace Go.Proofs.Ytkgehgedbgogbaa
open Go.RowKit
open Pl (Un)
instance : Inhabited Un := ⟨⟨0, 0, 0, 0, 0⟩⟩

/-- a unit as a value -/
def uval (u : Un) : Value := .agg #[.int .i64 u.k, .int .i64 u.p, .int .i32 u.c, .int .u32 u.x, .int .u64 u.y]
def idval (x y : Int) : Value := .agg #[.int .u32 x, .int .u64 y]
theorem ret_int {k : IntKind} {a b : Int} (h : a = b) : Ending.returned (.int k a) = .returned (.int k b) := by rw [h]
theorem ret_bool {a b : Bool} (h : a = b) : Ending.returned (.bool a) = .returned (.bool b) := by rw [h]
theorem Pl.may_bool (c : Int) : decide (Pl.May c) = ((decide (0 ≤ c) && decide (c < 55296)) || (decide (57343 < c) && decide (c ≤ 1114111))) := by
  unfold Pl.May
  rw [Bool.eq_iff_iff]
  simp only [decide_eq_true_iff, Bool.or_eq_true, Bool.and_eq_true]
  exact decide_eq_true_iff
set_option maxRecDepth 100000 in
set_option maxHeartbeats 400000 in
theorem may_any (c : Int) (w : World) :
    Calls Try.prog 43 #[.int .i32 c] w fun e w' => e = .returned (.bool (decide (Pl.May c))) ∧ w = w' := by
  go_enter Try.func43, Try.ntmps43
  go_wp2
  all_goals
    go_ret
    refine ⟨ret_bool ?_, rfl⟩
    rw [Pl.may_bool]
    first | (simp; done) | (rw [Bool.eq_iff_iff]; simp only [decide_eq_true_iff, Bool.or_eq_true, Bool.and_eq_true, Bool.false_eq_true, true_iff, false_iff]; omega)
set_option maxRecDepth 100000 in
set_option maxHeartbeats 400000 in
theorem okay_any (u : Un) (w : World) :
    Calls Try.prog 36 #[uval u] w fun e w' => e = .returned (.bool (decide (Pl.Okay u))) ∧ Below w.heap.size w w' := by
  obtain ⟨k, p, c, x, y⟩ := u
  have HM := fun w => Lib.hid (may_any c w)
  obtain ⟨r, hr⟩ : ∃ r, r = decide (Pl.Okay ⟨k, p, c, x, y⟩) := ⟨_, rfl⟩
  rw [← hr]
  have HR := Lib.hid hr
  clear hr
  unfold uval
  simp only
  go_enter Try.func36, Try.ntmps36
  by_cases h0 : k = 0
  · subst h0
    go_wp2_with fail
    all_goals
      go_ret
      refine ⟨ret_bool ?_, (Below.refl _ w).alloc (Nat.le_refl _) _⟩
      rw [HR.out]
      unfold Pl.Okay
      rw [Bool.eq_iff_iff]
      simp [*]
  · by_cases h1 : k = 1 ∨ k = 2
    · have HK := Lib.hid h1
      by_cases hp : 0 ≤ p
      · rcases h1 with rfl | rfl
        all_goals
          go_wp2_with fail
          refine (HM _).out.mono ?_
          rintro e w' ⟨rfl, rfl⟩
          go_wp2_with fail
          go_ret
          refine ⟨ret_bool ?_, (Below.refl _ w).alloc (Nat.le_refl _) _⟩
          rw [HR.out]
          unfold Pl.Okay
          simp
          intro _
          exact hp
      · rcases h1 with rfl | rfl
        all_goals
          go_wp2_with fail
          go_ret
          refine ⟨ret_bool ?_, (Below.refl _ w).alloc (Nat.le_refl _) _⟩
          rw [HR.out]
          unfold Pl.Okay
          simp
          omega
    · have h2 : ¬ k = 2 := fun h => h1 (Or.inr h)
      have h3 : ¬ k = 1 := fun h => h1 (Or.inl h)
      clear h1
      go_wp2_with fail
      go_ret
      refine ⟨ret_bool ?_, (Below.refl _ w).alloc (Nat.le_refl _) _⟩
      rw [HR.out]
      unfold Pl.Okay
      simp [h0, h2, h3]
/-- a unit's cells at the head of a block -/
def UAt (w : World) (b : Nat) (k p c x y : Int) : Prop := w.heap[b]? = some (.cells #[.int .i64 k, .int .i64 p, .int .i32 c, .int .u32 x, .int .u64 y] 65 (0, 0))
section
variable {w w' : World} {b B : Nat} {k p c x y : Int}
theorem uat_new (w : World) (k p c x y : Int) : UAt (w.alloc (.cells #[.int .i64 k, .int .i64 p, .int .i32 c, .int .u32 x, .int .u64 y] 65)) w.heap.size k p c x y := heap_new rfl
theorem UAt.below (h : UAt w b k p c x y) (hb : Below B w w') (hB : b < B) : UAt w' b k p c x y := (hb.block b hB).trans h
theorem UAt.lt (h : UAt w b k p c x y) : b < w.heap.size := lt_of_block h
theorem UAt.then_ (h : UAt w b k p c x y) (hb : Below w.heap.size w w') : UAt w' b k p c x y := h.below hb h.lt
theorem UAt.alloc (h : UAt w b k p c x y) (o : Obj) : UAt (w.alloc o) b k p c x y := h.then_ ((Below.refl _ w).alloc (Nat.le_refl _) o)
theorem UAt.cells (h : UAt w b k p c x y) : w.cell? ⟨b, 0, none⟩ = some (.int .i64 k) ∧ w.cell? ⟨b, 1, none⟩ = some (.int .i64 p) ∧ w.cell? ⟨b, 2, none⟩ = some (.int .i32 c) ∧ w.cell? ⟨b, 3, none⟩ = some (.int .u32 x) ∧ w.cell? ⟨b, 4, none⟩ = some (.int .u64 y) := by
  unfold UAt at h
  refine ⟨?_, ?_, ?_, ?_, ?_⟩ <;> (rw [cell_of_row w b _ _ _ _ h]; rfl)
end
theorem below_box (w : World) (o : Obj) : Below w.heap.size w (w.alloc o) := (Below.refl _ w).alloc (Nat.le_refl _) o
theorem below_on {w w1 : World} {o : Obj} (h : Below (w.alloc o).heap.size (w.alloc o) w1) : Below w.heap.size w w1 := (below_box w o).trans (h.mono (below_box w o).size)
set_option maxRecDepth 100000 in
set_option maxHeartbeats 400000 in
theorem grows_any (u : Un) (w : World) :
    Calls Try.prog 29 #[uval u] w fun e w' => e = .returned (.int .i64 (Pl.grows u.k)) ∧ Below w.heap.size w w' := by
  obtain ⟨k, p, c, x, y⟩ := u
  unfold uval Pl.grows
  simp only
  go_enter Try.func29, Try.ntmps29
  by_cases h1 : k = 1
  · subst h1
    go_wp2_with fail
    go_ret
    exact ⟨rfl, below_box _ _⟩
  · by_cases h2 : k = 2
    · subst h2
      go_wp2_with fail
      go_ret
      exact ⟨rfl, below_box _ _⟩
    · go_wp2_with fail
      go_ret
      exact ⟨rfl, below_box _ _⟩
theorem below_three {w : World} {a b c : Obj} : Below w.heap.size w (((w.alloc a).alloc b).alloc c) := below_alloc (below_alloc (below_box w a) b) c
theorem UAt.frozen {w : World} {b : Nat} {k p c x y : Int} (h : UAt w b k p c x y) (j : Nat) : w.frozen? ⟨b, j, none⟩ = false := frozen_of_row w b j _ _ h
/-- a unit laid over one -/
theorem UAt.sets {w : World} {b : Nat} {k p c x y : Int} (h : UAt w b k p c x y) (k' p' c' x' y' : Int) :
    UAt (((((w.setCell ⟨b, 0, none⟩ (.int .i64 k')).setCell ⟨b, 1, none⟩ (.int .i64 p')).setCell ⟨b, 2, none⟩ (.int .i32 c')).setCell ⟨b, 3, none⟩ (.int .u32 x')).setCell ⟨b, 4, none⟩ (.int .u64 y')) b k' p' c' x' y' := by
  have h0 := blk_set (i := 0) h (.int .i64 k')
  have h1 := blk_set (i := 1) h0 (.int .i64 p')
  have h2 := blk_set (i := 2) h1 (.int .i32 c')
  have h3 := blk_set (i := 3) h2 (.int .u32 x')
  exact blk_set (i := 4) h3 (.int .u64 y')
theorem UAt.setPos {w : World} {b : Nat} {k p c x y : Int} (h : UAt w b k p c x y) (p' : Int) : UAt (w.setCell ⟨b, 1, none⟩ (.int .i64 p')) b k p' c x y := blk_set (i := 1) h (.int .i64 p')
theorem results_unit {fn : Func} {t : Tmp} {tmps : Array Value} {b : Nat} {Z : World} {k p c x y : Int} (h : fn.results = #[.cell t 65]) (ha : tmps.getD t undef = .pointer (some ⟨b, 0, none⟩)) (hZ : UAt Z b k p c x y) :
    (results fn tmps).run Try.prog Z = .ok (uval ⟨k, p, c, x, y⟩) Z := by
  obtain ⟨c0, c1, c2, c3, c4⟩ := hZ.cells
  have ha' : tmps[t]?.getD undef = .pointer (some ⟨b, 0, none⟩) := by simpa using ha
  simp [results, h, ha', go_sem, c0, c1, c2, c3, c4, uval]
/-- one place of another block turned -/
theorem UAt.far {w : World} {b : Nat} {k p c x y : Int} (h : UAt w b k p c x y) {q : Addr} (hq : b ≠ q.block) (u : Value) : UAt (w.setCell q u) b k p c x y := (blk_keep u hq).trans h
theorem below_sets {w w' : World} {b B : Nat} (h : Below B w w') (hb : B ≤ b) (v0 v1 v2 v3 v4 : Value) : Below B w (((((w'.setCell ⟨b, 0, none⟩ v0).setCell ⟨b, 1, none⟩ v1).setCell ⟨b, 2, none⟩ v2).setCell ⟨b, 3, none⟩ v3).setCell ⟨b, 4, none⟩ v4) :=
  ((((h.setCell (p := ⟨b, 0, none⟩) hb _).setCell (p := ⟨b, 1, none⟩) hb _).setCell (p := ⟨b, 2, none⟩) hb _).setCell (p := ⟨b, 3, none⟩) hb _).setCell (p := ⟨b, 4, none⟩) hb _
theorem ret_val {a b : Value} (h : a = b) : Ending.returned a = .returned b := by rw [h]
theorem field_pos (k p c x y : Int) (w : World) : (Instr.field 65 (.agg #[.int .i64 k, .int .i64 p, .int .i32 c, .int .u32 x, .int .u64 y]) 1).run Try.prog w = .ok (.int .i64 p) w := by kernel_rfl
theorem equalIn_id (n : Nat) (x y x' y' : Int) (w : World) : (Op.equalIn (n + 2) 35 (.agg #[.int .u32 x, .int .u64 y]) (.agg #[.int .u32 x', .int .u64 y'])).run Try.prog w = .ok (decide (x = x' ∧ y = y')) w := by
  have hS : Try.prog.underlying 35 = some (.struct (Try.prog.fieldsOf 35)) := by kernel_rfl
  have hp : Try.prog.stoodInHeld 35 = false := by kernel_rfl
  have u3 := Try.underlying33
  have u4 := Try.underlying22
  rw [run_equalIn_agg w (n + 1) 35 _ _ hS hp]
  simp only [Program.fieldsOf, Try.underlying35]
  go_simp
  by_cases h1 : x = x' <;> by_cases h2 : y = y' <;> simp [h1, h2]
theorem eql_id (x y x' y' : Int) (w : World) : (binOp .eql 35 (.agg #[.int .u32 x, .int .u64 y]) (.agg #[.int .u32 x', .int .u64 y'])).run Try.prog w = .ok (.bool (decide (x = x' ∧ y = y'))) w := by
  rw [run_eql_struct, show (10000 : Nat) = 9998 + 2 from rfl, equalIn_id]; rfl
theorem equalIn_unit (k p c x y k' p' c' x' y' : Int) (w : World) : (Op.equalIn 10000 65 (.agg #[.int .i64 k, .int .i64 p, .int .i32 c, .int .u32 x, .int .u64 y]) (.agg #[.int .i64 k', .int .i64 p', .int .i32 c', .int .u32 x', .int .u64 y'])).run Try.prog w = .ok (decide ((⟨k, p, c, x, y⟩ : Un) = ⟨k', p', c', x', y'⟩)) w := by
  have hS : Try.prog.underlying 65 = some (.struct (Try.prog.fieldsOf 65)) := by kernel_rfl
  have hp : Try.prog.stoodInHeld 65 = false := by kernel_rfl
  have u1 := Try.underlying3
  have u2 := Try.underlying63
  have hid := equalIn_id 9997 x y x' y'
  rw [show (10000 : Nat) = 9999 + 1 from rfl, run_equalIn_agg w 9999 65 _ _ hS hp]
  simp only [Program.fieldsOf, Try.underlying65]
  go_simp
  by_cases h1 : k = k' <;> by_cases h2 : p = p' <;> by_cases h3 : c = c' <;> by_cases h4 : x = x' <;> by_cases h5 : y = y' <;> simp [h1, h2, h3, h4, h5]
theorem eql_unit (k p c x y k' p' c' x' y' : Int) (w : World) : (binOp .eql 65 (.agg #[.int .i64 k, .int .i64 p, .int .i32 c, .int .u32 x, .int .u64 y]) (.agg #[.int .i64 k', .int .i64 p', .int .i32 c', .int .u32 x', .int .u64 y'])).run Try.prog w = .ok (.bool (decide ((⟨k, p, c, x, y⟩ : Un) = ⟨k', p', c', x', y'⟩))) w := by
  rw [run_eql_struct, equalIn_unit]; rfl
theorem neq_unit (k p c x y k' p' c' x' y' : Int) (w : World) : (binOp .neq 65 (.agg #[.int .i64 k, .int .i64 p, .int .i32 c, .int .u32 x, .int .u64 y]) (.agg #[.int .i64 k', .int .i64 p', .int .i32 c', .int .u32 x', .int .u64 y'])).run Try.prog w = .ok (.bool (!decide ((⟨k, p, c, x, y⟩ : Un) = ⟨k', p', c', x', y'⟩))) w := by
  rw [run_neq_struct, equalIn_unit]; rfl
theorem guard_unit (op : BinOp) (x y : Operand) (xs ys : Array Value) (w : World) : (eqGuard op 65 x y (.agg xs) (.agg ys)).run Try.prog w = .ok () w := run_eqGuard_agg w op _ x y xs ys (by kernel_rfl)
theorem guard_id (op : BinOp) (x y : Operand) (xs ys : Array Value) (w : World) : (eqGuard op 35 x y (.agg xs) (.agg ys)).run Try.prog w = .ok () w := run_eqGuard_agg w op _ x y xs ys (by kernel_rfl)
theorem getD_of_get {l : List Un} {i : Nat} (h : i < l.length) : l[i]? = some (l.getD i default) := by
  rw [List.getD_eq_getElem?_getD, List.getElem?_eq_getElem h]; rfl
theorem below_then' {B : Nat} {w w1 w2 : World} (h : Below B w w1) (hb : Below w1.heap.size w1 w2) (hB : B ≤ w1.heap.size) : Below B w w2 := h.trans (hb.mono hB)
theorem mem_take_getD {l : List Un} {P : Un → Prop} {j : Nat} (h : ∀ u ∈ l.take j, P u) (hj : j < l.length) (hp : P (l.getD j default)) : ∀ u ∈ l.take (j + 1), P u := by
  intro u hu
  rw [List.take_add_one, getD_of_get hj] at hu
  rcases List.mem_append.1 hu with hu | hu
  · exact h u hu
  · simp at hu; rw [hu]; exact hp
theorem mem_getD {l : List Un} {j : Nat} (hj : j < l.length) : l.getD j default ∈ l := by
  rw [List.getD_eq_getElem?_getD, List.getElem?_eq_getElem hj]; exact List.getElem_mem hj
end Go.Proofs.Ytkgehgedbgogbaa
