/-
  Rows of operations out of what can be read as data; Push in one word: what is taken, what is not. Conditions: those of a past, with a place free; its first length at most a million.
-/
import Derived.Test.YtkgehgedbgogbaaPbC
namespace Go.Proofs.Ytkgehgedbgogbaa
open Go.RowKit Go.ChangeShapes Go.WideShapes
open Pl (Un)

section
variable {H : Type} {enc : TypeId × Value → H} {W : World}
theorem open_ops {A0 : Option Addr} {n c : Nat} {d : DataW H} {p : List MemPlace} (h : DataW.Trod enc Try.prog W 0 (fun _ => true) true 24 (.slice A0 n c) d p) (hs : (d.weights Try.prog 24).all (· ≤ reachBytes) = true) :
    ∃ L, OpsF W (fun b => b < W.heap.size) A0 n c L ∧ ∀ o ∈ L, (∀ u ∈ o.l, Pl.UnB u) ∧ o.c * 40 ≤ reachBytes ∧ Pl.IdB o.x o.y :=
  open_ops_of Try.underlying24 Try.underlying36 Try.underlying4 (by kernel_rfl) (by kernel_rfl) (by kernel_rfl) Try.underlying38 rfl rfl rfl rfl rfl rfl h hs
end
/-- what the laws are given: a row of operations, none of them too great -/
theorem open_row {W : World} {A : Option Addr} {n c : Nat} {L : List OpV} (h : OpsF W (fun b => b < W.heap.size) A n c L) (hs : ∀ o ∈ L, (∀ u ∈ o.l, Pl.UnB u) ∧ o.c * 40 ≤ reachBytes ∧ Pl.IdB o.x o.y) : RowP W A n c (L.map OpV.op) ∧ Pl.Small (L.map OpV.op) := by
  refine ⟨⟨L, h.more fun _ _ => trivial, rfl⟩, fun o ho => ?_⟩
  obtain ⟨v, hv, rfl⟩ := List.mem_map.1 ho
  have h1 := (h.2.2 v hv).1
  have h2 := (hs v hv).2.1
  have h3 := h1.len
  have h4 := h1.le
  unfold reachBytes at h2
  show v.l.length * 40 ≤ _
  omega
namespace Pl
/-- what is there behind a Push -/
def step (n : Int) (T : List Op) (o : Op) : List Op := if Takes T n o then T ++ [o] else T
theorem taken_step (n : Int) (a : List Op) (o : Op) : taken n (a ++ [o]) = step n (taken n a) o := taken_snoc n a o
theorem taken_take (n : Int) (P : List Op) {j : Nat} (h : j < P.length) : taken n (P.take (j + 1)) = step n (taken n (P.take j)) (P.getD j default) := by
  rw [← taken_step, List.take_succ_eq_append_getElem h, List.getD_eq_getElem?_getD, List.getElem?_eq_getElem h]
  rfl
end Pl
/-- what a Push leaves -/
structure PushR (w : World) (p fr : Nat) (N : Int) (T : List Pl.Op) (o : Pl.Op) (r E : Int) (w' : World) : Prop where
  past : PastAt w' p (fun b => b ≠ p) fr N (Pl.step N T o)
  tn : Tn (fun b => b = p) w w'
  yes : Pl.Takes T N o → r = ((fr + (T.length + 1) : Nat) : Int) ∧ E = 0
  no : ¬ Pl.Takes T N o → r = 0 ∧ (E = 1 ∨ E = 30)
theorem push_any {w : World} {p fr : Nat} {N : Int} {T : List Pl.Op} (h : PastAt w p (fun b => b ≠ p) fr N T) (x y : Int) (A : Option Addr) (n c : Nat) (l : List Un) (b : Bool) (h1 : Uns w w.heap.size A n c l) (hn : l.length * 40 ≤ 140737488355328) (hN : N ≤ 1000000) (hr : fr + T.length < 1099511627776) (hc : T.length < 256) :
    Calls Try.prog 9 #[.pointer (some ⟨p, 0, none⟩), .agg #[.int .u32 x, .int .u64 y, .slice A n c, .bool b]] w fun e w' => ∃ r E, e = .returned (.tuple #[.int .u64 r, .int .i64 E]) ∧ PushR w p fr N T ⟨x, y, l, b⟩ r E w' := by
  have hn2 : n * 40 ≤ 140737488355328 := by rw [← h1.len]; exact hn
  have hT := Pl.total_le h.fine.small
  have hN2 : N + Pl.total T ≤ 1152921504606846976 := by omega
  obtain ⟨ra, hra⟩ : ∃ r, r = (Pl.longL l (N + Pl.total T)).1 := ⟨_, rfl⟩
  obtain ⟨rb, hrb⟩ : ∃ r, r = (Pl.longL l (N + Pl.total T)).2 := ⟨_, rfl⟩
  have hl : Pl.longL l (N + Pl.total T) = (ra, rb) := by rw [hra, hrb]
  by_cases ht : rb = 0
  · have hT2 : Pl.Takes T N ⟨x, y, l, b⟩ := by unfold Pl.Takes; simp only; rw [← hrb, ht]
    rw [ht] at hl
    refine (push_ok h (past_new h) x y A n c l b h1 hn2 hN2 ra hl hr hc).mono ?_
    rintro e w' ⟨rfl, hp, htn⟩
    exact ⟨_, _, rfl, by unfold Pl.step; rw [if_pos hT2]; exact hp, htn, fun _ => ⟨rfl, rfl⟩, fun hno => absurd hT2 hno⟩
  · have hT2 : ¬ Pl.Takes T N ⟨x, y, l, b⟩ := by unfold Pl.Takes; simp only; rw [← hrb]; exact ht
    refine (push_bad h x y A n c l b h1 hn2 hN2 ra rb hl ht).mono ?_
    rintro e w' ⟨rfl, hb⟩
    refine ⟨_, _, rfl, by unfold Pl.step; rw [if_neg hT2]; exact h.then_ hb, Tn.of _ hb, fun hy => absurd hy hT2, fun _ => ⟨rfl, ?_⟩⟩
    have := Pl.longL_err l (N + Pl.total T)
    rw [← hrb] at this
    rcases this with h | h
    · exact absurd h ht
    · exact h
/-- between one Push and the next, of what the law is given -/
def PushL (W : World) (p fr : Nat) (N : Int) (P : List Pl.Op) (K : Nat) (i : Value) (wr : World) : Prop := ∃ j : Nat, i = .int .i64 (j : Int) ∧ j ≤ P.length ∧ j ≤ K ∧ PastAt wr p (fun b => b ≠ p) fr N (Pl.taken N (P.take j)) ∧ Below W.heap.size W wr
theorem taken_le (N : Int) (P : List Pl.Op) (j : Nat) : (Pl.taken N (P.take j)).length ≤ j := Nat.le_trans (Pl.taken_len _ _) (by rw [List.length_take]; omega)
theorem tmod_nat (a b : Nat) : (a : Int).tmod (b : Int) = ((a % b : Nat) : Int) := by
  rw [Int.tmod_eq_emod_of_nonneg (by omega)]; rfl
end Go.Proofs.Ytkgehgedbgogbaa
