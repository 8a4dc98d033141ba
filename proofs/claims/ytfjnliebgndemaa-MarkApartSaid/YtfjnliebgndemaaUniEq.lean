/-
  Comparison of two units and of two Ids; a unit's fields. No conditions.
-/
import Derived.Test.YtfjnliebgndemaaUniB
import Derived.Laws.StructEq
namespace Go.Proofs.Ytfjnliebgndemaa
open Go.RowKit
open Pl (Un)

theorem field_pos (k p c x y : Int) (w : World) : (Instr.field 57 (.agg #[.int .i64 k, .int .i64 p, .int .i32 c, .int .u32 x, .int .u64 y]) 1).run Try.prog w = .ok (.int .i64 p) w := by kernel_rfl
theorem equalIn_id (n : Nat) (x y x' y' : Int) (w : World) : (Op.equalIn (n + 2) 55 (.agg #[.int .u32 x, .int .u64 y]) (.agg #[.int .u32 x', .int .u64 y'])).run Try.prog w = .ok (decide (x = x' ∧ y = y')) w := by
  have hS : Try.prog.underlying 55 = some (.struct (Try.prog.fieldsOf 55)) := by kernel_rfl
  have hp : Try.prog.stoodInHeld 55 = false := by kernel_rfl
  have u3 := Try.underlying32
  have u4 := Try.underlying53
  rw [run_equalIn_agg w (n + 1) 55 _ _ hS hp]
  simp only [Program.fieldsOf, Try.underlying55]
  go_simp
  by_cases h1 : x = x' <;> by_cases h2 : y = y' <;> simp [h1, h2]
theorem eql_id (x y x' y' : Int) (w : World) : (binOp .eql 55 (.agg #[.int .u32 x, .int .u64 y]) (.agg #[.int .u32 x', .int .u64 y'])).run Try.prog w = .ok (.bool (decide (x = x' ∧ y = y'))) w := by
  rw [run_eql_struct, show (10000 : Nat) = 9998 + 2 from rfl, equalIn_id]; rfl
theorem equalIn_unit (k p c x y k' p' c' x' y' : Int) (w : World) : (Op.equalIn 10000 57 (.agg #[.int .i64 k, .int .i64 p, .int .i32 c, .int .u32 x, .int .u64 y]) (.agg #[.int .i64 k', .int .i64 p', .int .i32 c', .int .u32 x', .int .u64 y'])).run Try.prog w = .ok (decide ((⟨k, p, c, x, y⟩ : Un) = ⟨k', p', c', x', y'⟩)) w := by
  have hS : Try.prog.underlying 57 = some (.struct (Try.prog.fieldsOf 57)) := by kernel_rfl
  have hp : Try.prog.stoodInHeld 57 = false := by kernel_rfl
  have u1 := Try.underlying3
  have u2 := Try.underlying25
  have hid := equalIn_id 9997 x y x' y'
  rw [show (10000 : Nat) = 9999 + 1 from rfl, run_equalIn_agg w 9999 57 _ _ hS hp]
  simp only [Program.fieldsOf, Try.underlying57]
  go_simp
  by_cases h1 : k = k' <;> by_cases h2 : p = p' <;> by_cases h3 : c = c' <;> by_cases h4 : x = x' <;> by_cases h5 : y = y' <;> simp [h1, h2, h3, h4, h5]
theorem eql_unit (k p c x y k' p' c' x' y' : Int) (w : World) : (binOp .eql 57 (.agg #[.int .i64 k, .int .i64 p, .int .i32 c, .int .u32 x, .int .u64 y]) (.agg #[.int .i64 k', .int .i64 p', .int .i32 c', .int .u32 x', .int .u64 y'])).run Try.prog w = .ok (.bool (decide ((⟨k, p, c, x, y⟩ : Un) = ⟨k', p', c', x', y'⟩))) w := by
  rw [run_eql_struct, equalIn_unit]; rfl
theorem neq_unit (k p c x y k' p' c' x' y' : Int) (w : World) : (binOp .neq 57 (.agg #[.int .i64 k, .int .i64 p, .int .i32 c, .int .u32 x, .int .u64 y]) (.agg #[.int .i64 k', .int .i64 p', .int .i32 c', .int .u32 x', .int .u64 y'])).run Try.prog w = .ok (.bool (!decide ((⟨k, p, c, x, y⟩ : Un) = ⟨k', p', c', x', y'⟩))) w := by
  rw [run_neq_struct, equalIn_unit]; rfl
theorem guard_unit (op : BinOp) (x y : Operand) (xs ys : Array Value) (w : World) : (eqGuard op 57 x y (.agg xs) (.agg ys)).run Try.prog w = .ok () w := run_eqGuard_agg w op _ x y xs ys (by kernel_rfl)
theorem guard_id (op : BinOp) (x y : Operand) (xs ys : Array Value) (w : World) : (eqGuard op 55 x y (.agg xs) (.agg ys)).run Try.prog w = .ok () w := run_eqGuard_agg w op _ x y xs ys (by kernel_rfl)
end Go.Proofs.Ytfjnliebgndemaa
