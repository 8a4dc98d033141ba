/-
  What layer 12's laws are given, at its own types: rows of leases, of calls, of bytes, of small numbers. Conditions: those that each states.
-/
import Derived.Test.YtjplchajopkpcaaBaseO
import Derived.Test.YtjplchajopkpcaaLsR
namespace Go.Proofs.Ytjplchajopkpcaa
open Go.RowKit Go.ChangeShapes Go.WideShapes

/-- a call of the laws' -/
structure OpLs where
  k : Int
  x : Int
  t : Int
instance : Inhabited OpLs := ⟨⟨0, 0, 0⟩⟩
def encOp (o : OpLs) : List Value := [.int .i64 o.k, .int .u32 o.x, .int .u64 o.t]
theorem encOp_len (o : OpLs) : (encOp o).length = 3 := rfl
def encB (x : Int) : List Value := [.int .u8 x]
theorem encB_len (x : Int) : (encB x).length = 1 := rfl
def encS (x : Int) : List Value := [.int .u16 x]
theorem encS_len (x : Int) : (encS x).length = 1 := rfl
section
variable {H : Type} {enc : TypeId × Value → H} {W : World}
theorem open_leases {A0 : Option Addr} {n c : Nat} {d : DataW H} {p : List MemPlace} (h : DataW.Trod enc Try.prog W 0 (fun _ => true) true 22 (.slice A0 n c) d p) :
    ∃ L, Rws encLs W W.heap.size A0 n c L ∧ ∀ o ∈ L, (0 ≤ o.1 ∧ o.1 < 4294967296) ∧ 0 ≤ o.2 :=
  Bo.open_rows_k encLs_len (by decide) (fun o => (0 ≤ o.1 ∧ o.1 < 4294967296) ∧ 0 ≤ o.2) Try.underlying22 (by kernel_rfl) (fun fuel cs z hc hz => by
    obtain ⟨x, y, rfl, hx, hy⟩ := Bo.two_cells Try.underlying25 (by kernel_rfl) Try.underlying26 (by kernel_rfl) Try.underlying29 rfl rfl rfl rfl hc hz
    have b0 := bounds_u32 hx
    have b1 := bounds_u64 hy
    exact ⟨(x, y), rfl, by simp only; omega⟩) h
theorem open_opls {A0 : Option Addr} {n c : Nat} {d : DataW H} {p : List MemPlace} (h : DataW.Trod enc Try.prog W 0 (fun _ => true) true 23 (.slice A0 n c) d p) :
    ∃ L, Rws encOp W W.heap.size A0 n c L ∧ ∀ o ∈ L, (0 ≤ o.x ∧ o.x < 4294967296) ∧ (0 ≤ o.t ∧ (Lit.int .u64 o.t).wf = true) :=
  Bo.open_rows_k encOp_len (by decide) (fun o => (0 ≤ o.x ∧ o.x < 4294967296) ∧ (0 ≤ o.t ∧ (Lit.int .u64 o.t).wf = true)) Try.underlying23 (by kernel_rfl) (fun fuel cs z hc hz => by
    obtain ⟨k, x, t, rfl, hk, hx, ht⟩ := Bo.three_cells Try.underlying3 (by kernel_rfl) Try.underlying25 (by kernel_rfl) Try.underlying26 (by kernel_rfl) Try.underlying39 rfl rfl rfl rfl rfl rfl hc hz
    have b0 := bounds_u32 hx
    have b1 := bounds_u64 ht
    exact ⟨⟨k, x, t⟩, rfl, by simp only; omega, by simp only; omega, ht⟩) h
theorem open_u8s {A0 : Option Addr} {n c : Nat} {d : DataW H} {p : List MemPlace} (h : DataW.Trod enc Try.prog W 0 (fun _ => true) true 55 (.slice A0 n c) d p) :
    ∃ L, Rws encB W W.heap.size A0 n c L ∧ ∀ o ∈ L, 0 ≤ o ∧ o < 256 :=
  Bo.open_ints_k (q := .u8) (fun _ => rfl) (fun o => 0 ≤ o ∧ o < 256) (fun x hx => by have := bounds_u8 hx; omega) Try.underlying55 Try.underlying5 (by kernel_rfl) h
theorem open_u16s {A0 : Option Addr} {n c : Nat} {d : DataW H} {p : List MemPlace} (h : DataW.Trod enc Try.prog W 0 (fun _ => true) true 57 (.slice A0 n c) d p) :
    ∃ L, Rws encS W W.heap.size A0 n c L ∧ ∀ o ∈ L, 0 ≤ o ∧ o < 65536 :=
  Bo.open_ints_k (q := .u16) (fun _ => rfl) (fun o => 0 ≤ o ∧ o < 65536) (fun x hx => by have := bounds_u16 hx; omega) Try.underlying57 Try.underlying58 (by kernel_rfl) h
end
end Go.Proofs.Ytjplchajopkpcaa
