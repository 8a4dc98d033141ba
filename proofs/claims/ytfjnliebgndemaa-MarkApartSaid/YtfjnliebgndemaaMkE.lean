/-
  Marks of the call's own under MarkApart's calls; two that live apart; pointers and marks told apart. Conditions: those that each states.
-/
import Derived.Test.YtfjnliebgndemaaMkD
import Derived.Test.YtfjnliebgndemaaMkC
import Derived.LaidEqlPtr
import Derived.Laws.StructEq
namespace Go.Proofs.Ytfjnliebgndemaa
open Go.RowKit
open Pl (Un)

theorem infoMks : (Try.prog.info? 65).map (fun i => decide (i.size = 0)) = some false := by kernel_rfl
theorem neqM_eq (w : World) (p : Nat) : (binOp .neq 26 (.pointer (some ⟨p, 0, none⟩)) (.pointer (some ⟨p, 0, none⟩))).run Try.prog w = .ok (.bool false) w := by
  obtain ⟨j, hj, _⟩ := Option.map_eq_some_iff.1 infoMks
  have h : ∀ d : Nat, (Op.equalIn (d + 1) 26 (.pointer (some ⟨p, 0, none⟩)) (.pointer (some ⟨p, 0, none⟩))).run Try.prog w = .ok true w := fun d => by
    simp [Op.equalIn, run_underlying Try.underlying26, sizeOf, typeInfo, hj, run_sameAddr_same]
  simp only [binOp]
  simp [Op.equal, Op.maxDepth, h 9999]
theorem neqM_ne {w : World} {p q b d : Nat} {N N' : Int} {M M' : Pl.Mks} (h1 : MarksW w p b N M) (h2 : MarksW w q d N' M') (hne : p ≠ q) : (binOp .neq 26 (.pointer (some ⟨q, 0, none⟩)) (.pointer (some ⟨p, 0, none⟩))).run Try.prog w = .ok (.bool true) w := by
  obtain ⟨j, hj, hsz⟩ := Option.map_eq_some_iff.1 infoMks
  have hsz : j.size ≠ 0 := of_decide_eq_false hsz
  have r1 := h1.blk
  have r2 := h2.blk
  have h : ∀ d : Nat, (Op.equalIn (d + 1) 26 (.pointer (some ⟨q, 0, none⟩)) (.pointer (some ⟨p, 0, none⟩))).run Try.prog w = .ok false w := fun d => by
    simp [Op.equalIn, run_underlying Try.underlying26, sizeOf, typeInfo, hj, hsz, run_sameAddr_other w (a := ⟨q, 0, none⟩) (b := ⟨p, 0, none⟩) (fun e => hne (by cases e; rfl)) r2 r1]
  simp only [binOp]
  simp [Op.equal, Op.maxDepth, h 9999]
theorem equalIn_mk (x v x' v' : Int) (w : World) : (Op.equalIn 10000 61 (.agg #[.int .u32 x, .int .i64 v]) (.agg #[.int .u32 x', .int .i64 v'])).run Try.prog w = .ok (decide (x = x' ∧ v = v')) w := by
  have hS : Try.prog.underlying 61 = some (.struct (Try.prog.fieldsOf 61)) := by kernel_rfl
  have hp : Try.prog.stoodInHeld 61 = false := by kernel_rfl
  have u3 := Try.underlying32
  have u4 := Try.underlying3
  rw [show (10000 : Nat) = 9999 + 1 from rfl, run_equalIn_agg w 9999 61 _ _ hS hp]
  simp only [Program.fieldsOf, Try.underlying61]
  go_simp
  by_cases h1 : x = x' <;> by_cases h2 : v = v' <;> simp [h1, h2]
theorem neq_mk (x v : Int) (w : World) : (binOp .neq 61 (.agg #[.int .u32 x, .int .i64 v]) (.agg #[.int .u32 x, .int .i64 v])).run Try.prog w = .ok (.bool false) w := by
  rw [run_neq_struct, equalIn_mk]; simp
theorem guard_mk (op : BinOp) (x y : Operand) (xs ys : Array Value) (w : World) : (eqGuard op 61 x y (.agg xs) (.agg ys)).run Try.prog w = .ok () w := run_eqGuard_agg w op _ x y xs ys (by kernel_rfl)
theorem quiet_of {P : Program} {f : FuncId} {args : Array Value} {w : World} {n : Nat} {v : Value}
    (h : Calls P f args (w.drewN n) fun e w' => e = .returned v ∧ w' = w.drewN n) : Calls P f args (w.drewN n) fun e w'' => e = .returned v ∧ ∃ m, w'' = w.drewN m :=
  h.mono fun _ _ ⟨he, hm⟩ => ⟨he, n, hm⟩
/-- marks of the call's own, turned -/
theorem MarksO.did {w0 w w' : World} {q b b' : Nat} {N N' : Int} {M M' : Pl.Mks} (h : MarksO w w0.heap.size q b N M) (hb : Below w0.heap.size w0 w) (h1 : b' = b ∨ w.heap.size ≤ b') (h2 : MarksW w' q b' N' M') (ht : Tn (fun i => i = b ∨ i = q) w w') : MarksO w' w0.heap.size q b' N' M' ∧ Below w0.heap.size w0 w' :=
  ⟨⟨h.p_, by have := h.b_; have := hb.size; omega, h2⟩, h.tn hb ht⟩
/-- what a call tells and leaves, by letters -/
def DoQ (w : World) (q b : Nat) (E N' : Int) (M' : Pl.Mks) (e : Ending) (w' : World) : Prop :=
  ∃ b', e = .returned (.int .i64 E) ∧ (b' = b ∨ w.heap.size ≤ b') ∧ MarksW w' q b' N' M' ∧ Tn (fun i => i = b ∨ i = q) w w'
theorem does_q {w : World} {q b a : Nat} {N : Int} {M : Pl.Mks} (h : MarksW w q b N M) {k x p : Int} {A : Option Addr} {n c : Nat} {l row : List Un} (ha : w.heap[a]? = some (.cells #[.int .i64 k, .int .u32 x, .int .i64 p, .slice A n c] 49 (0, 0))) (hx : 0 ≤ x ∧ x < 4294967296)
    (hu : Uns w w.heap.size A n c l) (hN : N ≤ 1000000) (hr : row = l.take (min n 20)) {E N' : Int} {M' : Pl.Mks} (hd : Pl.doL k x p row N M = (E, N', M')) :
    Calls Try.prog 17 #[.pointer (some ⟨q, 0, none⟩), .pointer (some ⟨a, 0, none⟩)] w (DoQ w q b E N' M') := by
  have := does_any h ha hx hu hN
  unfold DoR at this
  rw [← hr, hd] at this
  exact this
/-- what both are, between one call and the next -/
structure ApS (W w : World) (p b q d : Nat) (N : Int) (M : Pl.Mks) : Prop where
  m : MarksO w W.heap.size p b N M
  u : MarksO w W.heap.size q d N M
  ap : (q = p ∧ d = b) ∨ (q ≠ p ∧ q ≠ b ∧ d ≠ p ∧ d ≠ b)
  below : Below W.heap.size W w
section
variable {W w w' w'' : World} {p b q d b' d' : Nat} {N N' : Int} {M M' : Pl.Mks}
theorem ApS.then_ (h : ApS W w p b q d N M) (hb : Below w.heap.size w w') : ApS W w' p b q d N M := ⟨h.m.then_ hb, h.u.then_ hb, h.ap, below_then h.below hb⟩
theorem ApS.one (h : MarksO w W.heap.size p b N M) (hb : Below W.heap.size W w) : ApS W w p b p b N M := ⟨h, h, .inl ⟨rfl, rfl⟩, hb⟩
/-- a copy from now on -/
theorem ApS.copied (h : MarksO w W.heap.size p b N M) (hb : Below W.heap.size W w) (hq : w.heap.size ≤ q) (hd : w.heap.size ≤ d) (hu : MarksW w' q d N M) (hb2 : Below w.heap.size w w') : ApS W w' p b q d N M := by
  have := h.at_.lt
  have := h.at_.own.lt
  have := hb.size
  exact ⟨h.then_ hb2, ⟨by omega, by omega, hu⟩, .inr ⟨by omega, by omega, by omega, by omega⟩, below_then hb hb2⟩
/-- the one is both -/
theorem ApS.same (h : ApS W w p b p b N M) (h1 : b' = b ∨ w.heap.size ≤ b') (h2 : MarksW w' p b' N' M') (ht : Tn (fun i => i = b ∨ i = p) w w') : ApS W w' p b' p b' N' M' := by
  have := h.m.did h.below h1 h2 ht
  exact ApS.one this.1 this.2
/-- the one has turned, the other not yet -/
structure ApH (W w : World) (p b q d : Nat) (N : Int) (M : Pl.Mks) (N' : Int) (M' : Pl.Mks) : Prop where
  m : MarksO w W.heap.size p b N' M'
  u : MarksO w W.heap.size q d N M
  ap : q ≠ p ∧ q ≠ b ∧ d ≠ p ∧ d ≠ b
  below : Below W.heap.size W w
theorem ApS.half (h : ApS W w p b q d N M) (hp : q ≠ p) (h1 : b' = b ∨ w.heap.size ≤ b') (h2 : MarksW w' p b' N' M') (ht : Tn (fun i => i = b ∨ i = p) w w') : ApH W w' p b' q d N M N' M' := by
  rcases h.ap with ha | ha
  · exact absurd ha.1 hp
  · have h3 := h.m.did h.below h1 h2 ht
    have := h.u.at_.lt
    have := h.u.at_.own.lt
    exact ⟨h3.1, ⟨h.u.p_, h.u.b_, h.u.at_.tn ht (by omega) (by omega)⟩, ⟨ha.1, by omega, ha.2.2.1, by omega⟩, h3.2⟩
theorem ApH.full (h : ApH W w p b q d N M N' M') (h1 : d' = d ∨ w.heap.size ≤ d') (h2 : MarksW w' q d' N' M') (ht : Tn (fun i => i = d ∨ i = q) w w') : ApS W w' p b q d' N' M' := by
  have ha := h.ap
  have h3 := h.u.did h.below h1 h2 ht
  have := h.m.at_.lt
  have := h.m.at_.own.lt
  exact ⟨⟨h.m.p_, h.m.b_, h.m.at_.tn ht (by omega) (by omega)⟩, h3.1, .inr ⟨ha.1, ha.2.1, by omega, by omega⟩, h3.2⟩
end
/-- between one call and the next -/
def AmR (W : World) (p n : Nat) (u i : Value) (wr : World) : Prop := ∃ (j b q d : Nat) (N : Int) (M : Pl.Mks), i = .int .i64 (j : Int) ∧ u = .pointer (some ⟨q, 0, none⟩) ∧ j ≤ n ∧ j ≤ 40 ∧ N ≤ 60 + 20 * (j : Int) ∧ ApS W wr p b q d N M
/-- one unit ahead of all others -/
theorem first_ok (N : Int) (h : 0 ≤ N ∧ N < 1000000) : Pl.longL [⟨1, 0, 120, 0, 0⟩] N = (N + 1, 0) := by
  unfold Pl.longL
  have ho : Pl.Okay ⟨1, 0, 120, 0, 0⟩ := .inr ⟨.inl rfl, by decide, by decide⟩
  rw [if_pos ⟨h.1, fun u hu => by rw [List.mem_singleton.1 hu]; exact ho⟩]
  show (if Pl.Fit ⟨1, 0, 120, 0, 0⟩ N then (N + 1, 0) else (0, 30)) = _
  rw [if_pos ⟨ho, fun _ => h.1, fun e => by cases e⟩]
end Go.Proofs.Ytfjnliebgndemaa
