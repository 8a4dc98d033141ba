/-
  What the model's operations on bits come to, at the places where num and its document's answer use them: plain equations between numbers. No conditions but those that each lemma states.
-/
import Derived.Test.YtaboamkfpolpbaaNumPlain
import Derived.WalkKit
import Derived.Laws.BitsAllLaws
import Derived.Laws.Bits64
namespace Go.Proofs.Ytaboamkfpolpbaa.Wi
open Go.RowKit

set_option maxRecDepth 100000 in
theorem ret_int {k : IntKind} {a b : Int} (h : a = b) : Ending.returned (.int k a) = .returned (.int k b) := by rw [h]

namespace Pl
/-- folded -/
def fold (n : Int) : Nat := if 0 ≤ n then (2 * n).toNat else (-2 * n - 1).toNat
/-- the number whose fold is n -/
def unfold (n : Nat) : Int := if n % 2 = 0 then ((n / 2 : Nat) : Int) else -((n / 2 : Nat) : Int) - 1
/-- a number with a sign, of 64 bits -/
def I (n : Int) : Prop := -9223372036854775808 ≤ n ∧ n < 9223372036854775808
set_option maxRecDepth 100000 in
theorem I.out {n : Int} (h : I n) : -9223372036854775808 ≤ n ∧ n < 9223372036854775808 := h
set_option maxRecDepth 100000 in
theorem I.mk {n : Int} (h : -9223372036854775808 ≤ n ∧ n < 9223372036854775808) : I n := h

set_option maxRecDepth 100000 in
theorem fold_U {n : Int} (h : I n) : U (fold n) := by
  have := h.out
  apply U.mk; unfold fold; split <;> omega
set_option maxRecDepth 100000 in
theorem unfold_I {n : Nat} (h : U n) : I (Pl.unfold n) := by
  have := h.out
  apply I.mk; unfold Pl.unfold; split <;> omega
set_option maxRecDepth 100000 in
theorem unfold_fold {n : Int} (_h : I n) : Pl.unfold (fold n) = n := by
  unfold fold Pl.unfold
  split <;> split <;> omega
set_option maxRecDepth 100000 in
theorem fold_unfold (n : Nat) : fold (Pl.unfold n) = n := by
  unfold fold Pl.unfold
  split <;> split <;> omega
end Pl

set_option maxRecDepth 100000 in
theorem xor_ones (x : Nat) (h : x < 18446744073709551616) : x ^^^ 18446744073709551615 = 18446744073709551615 - x := by
  have e : (BitVec.ofNat 64 x ^^^ BitVec.allOnes 64).toNat = (~~~ BitVec.ofNat 64 x).toNat := by rw [BitVec.xor_allOnes]
  rw [BitVec.toNat_xor, BitVec.toNat_not, BitVec.toNat_ofNat, BitVec.toNat_allOnes, Nat.mod_eq_of_lt h] at e
  exact e
set_option maxRecDepth 100000 in
theorem fold_bits (n : Int) (h : Pl.I n) :
    bits BinOp.xor IntKind.u64 (IntKind.u64.wrap (IntKind.u64.wrap n * 2)) (IntKind.u64.wrap (n / 9223372036854775808)) = ((Pl.fold n : Nat) : Int) := by
  have h := h.out
  simp only [IntKind.wrap_u64]
  unfold Pl.fold
  by_cases h0 : 0 ≤ n
  · rw [if_pos h0]
    have e1 : n % 18446744073709551616 * 2 % 18446744073709551616 = ((2 * n).toNat : Int) := by omega
    have e2 : n / 9223372036854775808 % 18446744073709551616 = ((0 : Nat) : Int) := by omega
    rw [e1, e2, u64_xor_nat _ _ (by omega) (by omega), Nat.xor_zero]
  · rw [if_neg h0]
    have e1 : n % 18446744073709551616 * 2 % 18446744073709551616 = ((18446744073709551616 + 2 * n).toNat : Int) := by omega
    have e2 : n / 9223372036854775808 % 18446744073709551616 = ((18446744073709551615 : Nat) : Int) := by omega
    rw [e1, e2, u64_xor_nat _ _ (by omega) (by omega), xor_ones _ (by omega)]
    omega
set_option maxRecDepth 100000 in
theorem i64_xor_zero (a : Int) (h : Pl.I a) : bits BinOp.xor IntKind.i64 a 0 = a := by
  have h := h.out
  show IntKind.i64.wrap ((BitVec.ofInt 64 a ^^^ BitVec.ofInt 64 0).toNat : Int) = _
  have e : BitVec.ofInt 64 0 = 0#64 := by decide
  rw [e, BitVec.xor_zero, BitVec.toNat_ofInt, IntKind.wrap_i64]
  omega
set_option maxRecDepth 100000 in
theorem i64_xor_ones (a : Int) (h : Pl.I a) : bits BinOp.xor IntKind.i64 a (-1) = -a - 1 := by
  have h := h.out
  show IntKind.i64.wrap ((BitVec.ofInt 64 a ^^^ BitVec.ofInt 64 (-1)).toNat : Int) = _
  have e : BitVec.ofInt 64 (-1) = BitVec.allOnes 64 := by decide
  rw [e, BitVec.xor_allOnes, BitVec.toNat_not, BitVec.toNat_ofInt, IntKind.wrap_i64]
  omega
set_option maxRecDepth 100000 in
theorem u64_and_one (n : Nat) (h : Pl.U n) : bits BinOp.and IntKind.u64 (n : Int) 1 = ((n % 2 : Nat) : Int) := by
  have h := h.out
  have := u64_and_nat n 1 h (by omega)
  rw [nat_mask1] at this
  exact this
set_option maxRecDepth 100000 in
theorem wrap64_eq (n : Int) (h : Pl.I n) : wrap64 n = n := by
  have := h.out
  exact IntWalk.wrap64_in n ⟨by omega, by omega⟩
set_option maxRecDepth 100000 in
theorem unfold_bits (n : Nat) (h : Pl.U n) :
    bits BinOp.xor IntKind.i64 (wrap64 ((n : Int) / 2)) (wrap64 (-wrap64 (bits BinOp.and IntKind.u64 (n : Int) 1))) = Pl.unfold n := by
  have h1 := h.out
  rw [u64_and_one n h, wrap64_eq ((n : Int) / 2) (Pl.I.mk (by omega)), wrap64_eq ((n % 2 : Nat) : Int) (Pl.I.mk (by omega)), wrap64_eq _ (Pl.I.mk (by omega))]
  unfold Pl.unfold
  by_cases h2 : n % 2 = 0
  · rw [if_pos h2, h2]
    show bits BinOp.xor IntKind.i64 ((n : Int) / 2) 0 = _
    rw [i64_xor_zero _ (Pl.I.mk (by omega))]; omega
  · rw [if_neg h2, show n % 2 = 1 by omega]
    show bits BinOp.xor IntKind.i64 ((n : Int) / 2) (-1) = _
    rw [i64_xor_ones _ (Pl.I.mk (by omega))]; omega
set_option maxRecDepth 100000 in
theorem u8_or_high (m : Nat) : bits BinOp.or IntKind.u8 ((m : Int) % 256) 128 = (m : Int) % 128 + 128 := by
  have h := u8_or_nat (m % 256) 128 (by omega) (by omega)
  have e1 : ((m % 256 : Nat) : Int) = (m : Int) % 256 := by omega
  rw [e1] at h
  refine h.trans ?_
  have e2 : m % 256 ||| 128 = m % 128 + 128 := by
    have := nat_join 7 128 (m % 128) (by decide) (by omega)
    rcases Nat.lt_or_ge (m % 256) 128 with h1 | h1
    · rw [show m % 256 = m % 128 by omega, Nat.or_comm, this]; omega
    · have h2 := nat_join 7 128 (m % 128) (by decide) (by omega)
      have h3 : m % 256 = 128 ||| m % 128 := by rw [h2]; omega
      rw [h3, Nat.or_comm, ← Nat.or_assoc, Nat.or_self, h2]; omega
  rw [e2]; omega
set_option maxRecDepth 100000 in
theorem pow128 (j : Nat) : 128 ^ j = 2 ^ (7 * j) := by rw [Nat.pow_mul]
set_option maxRecDepth 100000 in
theorem pow256 (j : Nat) : 256 ^ j = 2 ^ (8 * j) := by rw [Nat.pow_mul]
set_option maxRecDepth 100000 in
/-- a row of bits laid above another one -/
theorem or_above (v x s : Nat) (hv : v < 2 ^ s) (hfit : v + x * 2 ^ s < 18446744073709551616) :
    bits BinOp.or IntKind.u64 (v : Int) (IntKind.u64.wrap ((x : Int) * 2 ^ s)) = ((v + x * 2 ^ s : Nat) : Int) := by
  have e1 : (x : Int) * 2 ^ s = ((x * 2 ^ s : Nat) : Int) := by rw [Int.natCast_mul, Int.natCast_pow]; rfl
  rw [e1, IntKind.wrap_u64]
  have e2 : ((x * 2 ^ s : Nat) : Int) % 18446744073709551616 = ((x * 2 ^ s : Nat) : Int) := by omega
  rw [e2, u64_or_nat _ _ (by omega) (by omega), Nat.or_comm, nat_join s _ _ (Nat.mul_mod_left _ _) hv, Nat.add_comm]
set_option maxRecDepth 100000 in
theorem get_step (v b j : Nat) (hv : v < 128 ^ j) (hb : b < 256) (hfit : v + 128 ^ j * (b % 128) < 18446744073709551616) :
    bits BinOp.or IntKind.u64 (v : Int) (IntKind.u64.wrap (IntKind.u64.wrap (bits BinOp.andNot IntKind.u8 (b : Int) 128) * 2 ^ (7 * j))) = ((v + 128 ^ j * (b % 128) : Nat) : Int) := by
  have e1 : bits BinOp.andNot IntKind.u8 (b : Int) 128 = ((b % 128 : Nat) : Int) := by
    have := u8_andNot_nat b 128 hb (by omega)
    rw [show 255 - 128 = 127 by decide, nat_mask7] at this
    exact this
  have e2 : IntKind.u64.wrap ((b % 128 : Nat) : Int) = ((b % 128 : Nat) : Int) := by rw [IntKind.wrap_u64]; omega
  rw [pow128, Nat.mul_comm (2 ^ (7 * j))] at hfit ⊢
  rw [pow128] at hv
  rw [e1, e2, or_above v _ _ hv hfit]
set_option maxRecDepth 100000 in
theorem get8_step (v b j : Nat) (hv : v < 256 ^ j) (hfit : v + 256 ^ j * b < 18446744073709551616) :
    bits BinOp.or IntKind.u64 (v : Int) (IntKind.u64.wrap ((b : Int) * 2 ^ (8 * j))) = ((v + 256 ^ j * b : Nat) : Int) := by
  rw [pow256, Nat.mul_comm (2 ^ (8 * j))] at hfit ⊢
  rw [pow256] at hv
  rw [or_above v _ _ hv hfit]
end Go.Proofs.Ytaboamkfpolpbaa.Wi
