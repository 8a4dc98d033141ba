/-
  Marks in memory: their block, their map; Marks.none, New, Long, Get, Set, Drop. Conditions: those that each states.
-/
import Derived.Test.YtfjnliebgndemaaMkQ
import Derived.Test.YtfjnliebgndemaaWvF
import Derived.BigQuiet
namespace Go.Proofs.Ytfjnliebgndemaa
open Go.RowKit
open Pl (Un)

theorem keyedC : Maps.Keyed Try.prog 32 := Maps.int_keyed Try.underlying32
theorem wf_u32 {c : Int} (h : 0 ≤ c ∧ c < 4294967296) : (Lit.int .u32 c).wf = true := by
  have e1 : IntKind.u32.min = 0 := by decide
  have e2 : IntKind.u32.max = 4294967295 := by decide
  simp only [Lit.wf, e1, e2, Bool.and_eq_true, decide_eq_true_eq]
  omega
theorem wf_i64 {c : Int} (h : 0 ≤ c ∧ c < 9223372036854775808) : (Lit.int .i64 c).wf = true := by
  have e1 : IntKind.i64.min = -9223372036854775808 := by decide
  have e2 : IntKind.i64.max = 9223372036854775807 := by decide
  simp only [Lit.wf, e1, e2, Bool.and_eq_true, decide_eq_true_eq]
  omega
theorem keyC {c : Int} (h : 0 ≤ c ∧ c < 4294967296) : keyOf Try.prog 32 (.int .u32 c) = some (.int .u32 c) := Maps.keyOf_int_mk Try.underlying32 (wf_u32 h)
theorem readP {v : Int} (h : 0 ≤ v ∧ v < 9223372036854775808) : plainElem (H := Unit) Try.prog 3 (.int .i64 v) = some (.lit (.int .i64 v), []) := plainElem_int Try.underlying3 (wf_i64 h)
namespace Pl
theorem rising_len : ∀ {M : Mks} {lo hi : Int}, Rising M → (∀ p ∈ M, lo ≤ p.1 ∧ p.1 < hi) → lo ≤ hi → (M.length : Int) ≤ hi - lo
  | [], _, _, _, _, h => by simpa using h
  | x :: r, lo, hi, hr, hb, h => by
    have h1 := List.pairwise_cons.1 hr
    have hx := hb x (List.mem_cons_self ..)
    have := rising_len (M := r) (lo := x.1 + 1) (hi := hi) h1.2 (fun p hp => ⟨by have := h1.1 p hp; omega, (hb p (List.mem_cons_of_mem _ hp)).2⟩) (by omega)
    rw [List.length_cons]
    omega
/-- what holds of all marks -/
structure MkOk (N : Int) (M : Mks) : Prop where
  up : Rising M
  key : ∀ q ∈ M, 0 ≤ q.1 ∧ q.1 < 4294967296
  place : ∀ q ∈ M, 0 ≤ q.2 ∧ q.2 ≤ N
  long : 0 ≤ N ∧ N < 9223372036854775808
theorem MkOk.len {N : Int} {M : Mks} (h : MkOk N M) : M.length < maxLen := by
  have := rising_len h.up h.key (by omega)
  unfold maxLen
  omega
theorem MkOk.put {N : Int} {M : Mks} (h : MkOk N M) {c v : Int} (hc : 0 ≤ c ∧ c < 4294967296) (hv : 0 ≤ v ∧ v ≤ N) : MkOk N (putM M c v) :=
  ⟨rising_put h.up c v, fun q hq => by
    unfold putM at hq
    rcases mem_ins.1 hq with rfl | hq
    · exact hc
    · exact h.key q (mem_del.1 hq).1, fun q hq => by
    unfold putM at hq
    rcases mem_ins.1 hq with rfl | hq
    · exact hv
    · exact h.place q (mem_del.1 hq).1, h.long⟩
theorem MkOk.del {N : Int} {M : Mks} (h : MkOk N M) (c : Int) : MkOk N (delM M c) :=
  ⟨rising_del h.up c, fun q hq => h.key q (mem_del.1 hq).1, fun q hq => h.place q (mem_del.1 hq).1, h.long⟩
end Pl
theorem own_tight {w : World} {b n : Nat} {M : Pl.Mks} (h : w.ownsMap Try.prog 32 (plainElem (H := Unit) Try.prog 3) b n (dat M)) : w.ownsMap Try.prog 32 (plainElem (H := Unit) Try.prog 3) b M.length (dat M) := by
  obtain ⟨es, clock, hb, F, hs, hD⟩ := h
  refine ⟨es, clock, hb, F, ?_, hD⟩
  have e := hD
  unfold dat at e
  rw [DataW.map.injEq] at e
  have := congrArg List.length e
  rw [List.length_map, length_sorted, List.length_map] at this
  simp only [Array.length_toList] at this
  omega
/-- marks in memory -/
structure MarksW (w : World) (p b : Nat) (N : Int) (M : Pl.Mks) : Prop where
  blk : w.heap[p]? = some (.cells #[.int .i64 N, .map (some b)] 65 (0, 0))
  own : w.ownsMap Try.prog 32 (plainElem (H := Unit) Try.prog 3) b M.length (dat M)
  ok : Pl.MkOk N M
section
variable {w w' : World} {p b : Nat} {T : Nat → Prop} {N : Int} {M : Pl.Mks}
theorem MarksW.lt (h : MarksW w p b N M) : p < w.heap.size := lt_of_block h.blk
theorem MarksW.ne (h : MarksW w p b N M) : p ≠ b := by
  intro e
  obtain ⟨es, clock, hb, _⟩ := h.own
  rw [← e, h.blk] at hb
  cases hb
theorem own_tn (h : w.ownsMap Try.prog 32 (plainElem (H := Unit) Try.prog 3) b M.length (dat M)) (ht : Tn T w w') (hb : ¬ T b) : w'.ownsMap Try.prog 32 (plainElem (H := Unit) Try.prog 3) b M.length (dat M) := by
  obtain ⟨es, clock, h1, h2⟩ := h
  exact ⟨es, clock, ht.old h1 hb, h2⟩
theorem MarksW.tn (h : MarksW w p b N M) (ht : Tn T w w') (hp : ¬ T p) (hb : ¬ T b) : MarksW w' p b N M := ⟨ht.old h.blk hp, own_tn h.own ht hb, h.ok⟩
theorem MarksW.then_ (h : MarksW w p b N M) (hb : Below w.heap.size w w') : MarksW w' p b N M := h.tn (Tn.of (fun _ => False) hb) (fun h => h) (fun h => h)
theorem MarksW.cells (h : MarksW w p b N M) : w.cell? ⟨p, 0, none⟩ = some (.int .i64 N) ∧ w.cell? ⟨p, 1, none⟩ = some (.map (some b)) := ⟨cell0 (r := [.map (some b)]) h.blk, cell1 (r := []) h.blk⟩
/-- its map alone has turned -/
theorem MarksW.turned (h : MarksW w p b N M) (hm : w.mapTurned w' b) : Tn (fun i => i = b) w w' := by
  have := h.lt
  obtain ⟨es, clock, es', clock', h1, rfl⟩ := hm
  exact ⟨rfl, rfl, rfl, by simp [Go.ChangeMaps.setBlock], fun i _ hi => Go.ChangeMaps.heap_setBlock_other h1 _ hi⟩
end
theorem eql_map_some (b : Nat) (w : World) : (binOp .eql 63 (.map (some b)) (.map none)).run Try.prog w = .ok (.bool false) w := by kernel_rfl
theorem eql_map_none (w : World) : (binOp .eql 63 (.map none) (.map none)).run Try.prog w = .ok (.bool true) w := by kernel_rfl
theorem eql_ptrM (a : Addr) (w : World) : (binOp .eql 26 (.pointer (some a)) (.pointer none)).run Try.prog w = .ok (.bool false) w := by kernel_rfl
/-- none, or ones that New did not make -/
def NonM (w : World) (v : Value) : Prop := v = .pointer none ∨ ∃ p, v = .pointer (some ⟨p, 0, none⟩) ∧ w.heap[p]? = some (.cells #[.int .i64 0, .map none] 65 (0, 0))
set_option maxRecDepth 100000 in
set_option maxHeartbeats 400000 in
theorem none_marks {w : World} {p b : Nat} {N : Int} {M : Pl.Mks} (h : MarksW w p b N M) :
    Calls Try.prog 20 #[.pointer (some ⟨p, 0, none⟩)] w fun e w' => e = .returned (.bool false) ∧ w' = w := by
  obtain ⟨c0, c1⟩ := h.cells
  have q := eql_map_some b
  clear h
  go_enter Try.func20, Try.ntmps20
  go_wp2_with fail
  go_ret
  exact ⟨rfl, rfl⟩
set_option maxRecDepth 100000 in
set_option maxHeartbeats 400000 in
theorem none_nonM {w : World} {v : Value} (h : NonM w v) :
    Calls Try.prog 20 #[v] w fun e w' => e = .returned (.bool true) ∧ w' = w := by
  have q := eql_map_none
  rcases h with rfl | ⟨p, rfl, hp⟩
  · go_enter Try.func20, Try.ntmps20
    go_wp2_with fail
    go_ret
    exact ⟨rfl, rfl⟩
  · have c1 := cell1 (r := []) hp
    clear hp
    go_enter Try.func20, Try.ntmps20
    go_wp2_with fail
    go_ret
    exact ⟨rfl, rfl⟩
end Go.Proofs.Ytfjnliebgndemaa
