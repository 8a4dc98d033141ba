/-
  The text of which all code points are others (1000, 1001, ..), as WeaveSides and WeavePlaces lay it. No conditions but those that each states.
-/
import Derived.Test.YtaboamkfpolpbaaWvI
namespace Go.Proofs.Ytaboamkfpolpbaa
open Go.RowKit
open Pl (Un)

namespace Pl
def txt (n : Nat) : List Int := (List.range n).map fun i : Nat => 1000 + (i : Int)
theorem len_txt (n : Nat) : (txt n).length = n := by simp [txt]
theorem txt_succ (n : Nat) : txt (n + 1) = txt n ++ [1000 + (n : Int)] := by simp [txt, List.range_succ]
theorem txt_get {n i : Nat} {x : Int} (h : (txt n)[i]? = some x) : x = 1000 + (i : Int) ∧ i < n := by
  unfold txt at h
  rw [List.getElem?_map] at h
  rcases Nat.lt_or_ge i n with hi | hi
  · rw [List.getElem?_range hi] at h
    injection h with h
    exact ⟨h.symm, hi⟩
  · rw [List.getElem?_eq_none (by simpa using hi)] at h
    cases h
theorem cut_txt (n a : Nat) : Cut (a : Int) (txt n) a := by
  intro i x h h1 h2
  obtain ⟨rfl, hi⟩ := txt_get h
  omega
theorem az_strange (x : Int) (h : Az x) : ¬ (1000 ≤ x ∧ x < 2000) := by unfold Az at h; omega
end Pl
/-- between one code point and the next -/
def TxR (w : World) (K : Nat) (s i : Value) (wr : World) : Prop := ∃ (j : Nat) (A : Option Addr) (c : Nat), i = .int .i64 (j : Int) ∧ s = .slice A j c ∧ j ≤ K ∧ OwnC wr w.heap.size (.slice A j c) (Pl.txt j) ∧ Below w.heap.size w wr
/-- between one code point and the next, where all is right so far -/
def SeR (w : World) (n : Nat) (i : Value) (wr : World) : Prop := ∃ j : Nat, i = .int .i64 (j : Int) ∧ j ≤ n ∧ Below w.heap.size w wr
theorem get_of_getD {l : List Int} {i : Nat} (h : i < l.length) : l[i]? = some (l.getD i 0) := by
  rw [List.getD_eq_getElem?_getD, List.getElem?_eq_getElem h]; rfl
end Go.Proofs.Ytaboamkfpolpbaa
