/-
  Marks.New, Long, Get, Set, Drop. Conditions: those that each states.
-/
import Derived.Test.YtfjnliebgndemaaMkT
namespace Go.Proofs.Ytfjnliebgndemaa
open Go.RowKit
open Pl (Un)

theorem made_map (w : World) (N : Int) (hN : 0 ≤ N ∧ N < 9223372036854775808) :
    MarksW ((w.alloc (.map #[] 0)).alloc (.cells #[.int .i64 N, .map (some w.heap.size)] 65)) (w.heap.size + 1) w.heap.size N [] :=
  ⟨heap_new (by simp), (World.ownsMap_made w _ _ _).alloc _, Pl.rising_nil, by simp, by simp, hN⟩
set_option maxRecDepth 100000 in
set_option maxHeartbeats 400000 in
theorem newM_any (N : Int) (w : World) (hN : 0 ≤ N ∧ N < 9223372036854775808) :
    Calls Try.prog 7 #[.int .i64 N] w fun e w' => e = .returned (.tuple #[.pointer (some ⟨w.heap.size + 1, 0, none⟩), .int .i64 0]) ∧ MarksW w' (w.heap.size + 1) w.heap.size N [] ∧ Below w.heap.size w w' := by
  have HM := Lib.hid (made_map w N hN)
  have hmm := @run_makeMap Try.prog
  have z2 : decide (N < 0) = false := decide_eq_false (by omega)
  clear hN
  go_enter Try.func7, Try.ntmps7
  go_wp2_with fail
  go_returns
  exact ⟨rfl, HM.out, below_alloc (below_box _ _) _⟩
set_option maxRecDepth 100000 in
set_option maxHeartbeats 400000 in
theorem newM_bad (N : Int) (w : World) (hN : N < 0) :
    Calls Try.prog 7 #[.int .i64 N] w fun e w' => e = .returned (.tuple #[.pointer none, .int .i64 1]) ∧ w' = w := by
  have z2 : decide (N < 0) = true := decide_eq_true (by omega)
  clear hN
  go_enter Try.func7, Try.ntmps7
  go_wp2_with fail
  go_returns
  exact ⟨rfl, rfl⟩
set_option maxRecDepth 100000 in
set_option maxHeartbeats 400000 in
theorem longM {w : World} {p b : Nat} {N : Int} {M : Pl.Mks} (h : MarksW w p b N M) :
    Calls Try.prog 13 #[.pointer (some ⟨p, 0, none⟩)] w fun e w' => e = .returned (.int .i64 N) ∧ w' = w := by
  have HN := Lib.hid (none_marks h)
  obtain ⟨c0, c1⟩ := h.cells
  clear h
  go_enter Try.func13, Try.ntmps13
  go_wp2_with fail
  refine HN.out.mono ?_
  rintro e w' ⟨rfl, rfl⟩
  go_wp2_with fail
  go_ret
  exact ⟨rfl, rfl⟩
set_option maxRecDepth 100000 in
set_option maxHeartbeats 400000 in
theorem longM_non {w : World} {v : Value} (h : NonM w v) :
    Calls Try.prog 13 #[v] w fun e w' => e = .returned (.int .i64 0) ∧ w' = w := by
  have HN := Lib.hid (none_nonM h)
  clear h
  go_enter Try.func13, Try.ntmps13
  go_wp2_with fail
  refine HN.out.mono ?_
  rintro e w' ⟨rfl, rfl⟩
  go_wp2_with fail
  go_ret
  exact ⟨rfl, rfl⟩
/-- what a look at a client's place finds -/
def gotM (M : Pl.Mks) (c : Int) : Value := .tuple #[.int .i64 ((Pl.getM M c).getD 0), .bool (Pl.getM M c).isSome]
theorem lookM {w : World} {p b : Nat} {N : Int} {M : Pl.Mks} (h : MarksW w p b N M) {c : Int} (hc : 0 ≤ c ∧ c < 4294967296) :
    (Instr.lookup 63 (.map (some b)) (.int .u32 c) true).run Try.prog w = .ok (gotM M c) w := by
  obtain ⟨v, ps, hrun, hv⟩ := h.own.look_ok keyedC Try.underlying63 (Try.zeroValue3 w) (plainElem_int Try.underlying3 (wf_i64 (c := 0) (by decide))) (keyC hc)
  obtain ⟨c', rfl, hc', hw⟩ := plainElem_int_inv Try.underlying3 hv
  rw [hrun, has_dat]
  rw [at_dat] at hc'
  have e := congrArg Prod.fst hc'
  simp only at e
  unfold gotM
  cases hg : Pl.getM M c with
  | none => rw [hg] at e; simp at e; rw [e]; rfl
  | some z => rw [hg] at e; simp at e; rw [e]; rfl
set_option maxRecDepth 100000 in
set_option maxHeartbeats 400000 in
theorem getM_any {w : World} {p b : Nat} {N : Int} {M : Pl.Mks} (h : MarksW w p b N M) {c : Int} (hc : 0 ≤ c ∧ c < 4294967296) :
    Calls Try.prog 12 #[.pointer (some ⟨p, 0, none⟩), .int .u32 c] w fun e w' => e = .returned (gotM M c) ∧ w' = w := by
  have HN := Lib.hid (none_marks h)
  have HL := lookM h hc
  unfold gotM at HL
  obtain ⟨c0, c1⟩ := h.cells
  clear h hc
  go_enter Try.func12, Try.ntmps12
  go_wp2_with fail
  refine HN.out.mono ?_
  rintro e w' ⟨rfl, rfl⟩
  go_wp2_with fail
  go_returns
  exact ⟨rfl, rfl⟩
set_option maxRecDepth 100000 in
set_option maxHeartbeats 400000 in
theorem getM_non {w : World} {v : Value} (h : NonM w v) (c : Int) :
    Calls Try.prog 12 #[v, .int .u32 c] w fun e w' => e = .returned (.tuple #[.int .i64 0, .bool false]) ∧ w' = w := by
  have HN := Lib.hid (none_nonM h)
  clear h
  go_enter Try.func12, Try.ntmps12
  go_wp2_with fail
  refine HN.out.mono ?_
  rintro e w' ⟨rfl, rfl⟩
  go_wp2_with fail
  go_returns
  exact ⟨rfl, rfl⟩
/-- a store of a place -/
theorem storeM {w : World} {p b : Nat} {N : Int} {M : Pl.Mks} (h : MarksW w p b N M) {c v : Int} (hc : 0 ≤ c ∧ c < 4294967296) (hv : 0 ≤ v ∧ v ≤ N) :
    ∃ w', (Instr.mapUpdate 63 (.map (some b)) (.int .u32 c) (.int .i64 v)).run Try.prog w = .ok () w' ∧ MarksW w' p b N (Pl.putM M c v) ∧ Tn (fun i => i = b) w w' := by
  have hN := h.ok.long
  obtain ⟨w', hrun, r1, r2⟩ := h.own.store keyedC Try.underlying63 h.ok.len (keyC hc) (readP (v := v) (by omega))
  have ht := h.turned r2
  rw [put_dat] at r1
  exact ⟨w', hrun, ⟨ht.old h.blk h.ne, own_tight r1, h.ok.put hc hv⟩, ht⟩
set_option maxRecDepth 100000 in
set_option maxHeartbeats 400000 in
theorem setM_any {w : World} {p b : Nat} {N : Int} {M : Pl.Mks} (h : MarksW w p b N M) {c v : Int} (hc : 0 ≤ c ∧ c < 4294967296) (hv : 0 ≤ v ∧ v ≤ N) :
    Calls Try.prog 9 #[.pointer (some ⟨p, 0, none⟩), .int .u32 c, .int .i64 v] w fun e w' => e = .returned (.int .i64 0) ∧ MarksW w' p b N (Pl.putM M c v) ∧ Tn (fun i => i = b) w w' := by
  have HN := Lib.hid (none_marks h)
  obtain ⟨w1, HS, h1, h2⟩ := storeM h hc hv
  obtain ⟨c0, c1⟩ := h.cells
  have z0 : decide (v < 0) = false := decide_eq_false (by omega)
  have z1 : decide (v > N) = false := decide_eq_false (by omega)
  have z2 : decide (N < v) = false := decide_eq_false (by omega)
  clear h hc hv
  go_enter Try.func9, Try.ntmps9
  go_wp2_with fail
  refine HN.out.mono ?_
  rintro e w' ⟨rfl, rfl⟩
  go_wp2_with fail
  go_ret
  exact ⟨rfl, h1, h2⟩
set_option maxRecDepth 100000 in
set_option maxHeartbeats 400000 in
theorem setM_bad {w : World} {p b : Nat} {N : Int} {M : Pl.Mks} (h : MarksW w p b N M) {c v : Int} (hv : ¬ (0 ≤ v ∧ v ≤ N)) :
    Calls Try.prog 9 #[.pointer (some ⟨p, 0, none⟩), .int .u32 c, .int .i64 v] w fun e w' => e = .returned (.int .i64 30) ∧ w' = w := by
  have HN := Lib.hid (none_marks h)
  obtain ⟨c0, c1⟩ := h.cells
  clear h
  by_cases z : v < 0
  · have z0 : decide (v < 0) = true := decide_eq_true z
    clear hv z
    go_enter Try.func9, Try.ntmps9
    go_wp2_with fail
    refine HN.out.mono ?_
    rintro e w' ⟨rfl, rfl⟩
    go_wp2_with fail
    go_ret
    exact ⟨rfl, rfl⟩
  · have z0 : decide (v < 0) = false := decide_eq_false z
    have z1 : decide (v > N) = true := decide_eq_true (by omega)
    have z2 : decide (N < v) = true := decide_eq_true (by omega)
    clear hv z
    go_enter Try.func9, Try.ntmps9
    go_wp2_with fail
    refine HN.out.mono ?_
    rintro e w' ⟨rfl, rfl⟩
    go_wp2_with fail
    go_ret
    exact ⟨rfl, rfl⟩
set_option maxRecDepth 100000 in
set_option maxHeartbeats 400000 in
theorem setM_non {w : World} {v : Value} (h : NonM w v) (c x : Int) :
    Calls Try.prog 9 #[v, .int .u32 c, .int .i64 x] w fun e w' => e = .returned (.int .i64 2) ∧ w' = w := by
  have HN := Lib.hid (none_nonM h)
  clear h
  go_enter Try.func9, Try.ntmps9
  go_wp2_with fail
  refine HN.out.mono ?_
  rintro e w' ⟨rfl, rfl⟩
  go_wp2_with fail
  go_ret
  exact ⟨rfl, rfl⟩
set_option maxRecDepth 100000 in
set_option maxHeartbeats 400000 in
theorem dropM_any {w : World} {p b : Nat} {N : Int} {M : Pl.Mks} (h : MarksW w p b N M) {c : Int} (hc : 0 ≤ c ∧ c < 4294967296) (hg : (Pl.getM M c).isSome = true) :
    Calls Try.prog 18 #[.pointer (some ⟨p, 0, none⟩), .int .u32 c] w fun e w' => e = .returned (.int .i64 0) ∧ MarksW w' p b N (Pl.delM M c) ∧ Tn (fun i => i = b) w w' := by
  have HN := Lib.hid (none_marks h)
  have HL := lookM h hc
  unfold gotM at HL
  rw [hg] at HL
  have HD := h.own.lt
  obtain ⟨c0, c1⟩ := h.cells
  go_enter Try.func18, Try.ntmps18
  go_wp2_with fail
  refine HN.out.mono ?_
  rintro e w' ⟨rfl, rfl⟩
  go_wp2_with (at_delete; refine wpList_delete_own _ rfl _ _ 63 32 rfl 3 keyedC Try.underlying63 _ _ _ _ rfl h.own _ _ rfl (keyC hc) ?_; intro w1 hown1 hturn1)
  go_ret
  rw [del_dat] at hown1
  have ht := h.turned hturn1
  exact ⟨rfl, ⟨ht.old h.blk h.ne, own_tight hown1, h.ok.del c⟩, ht⟩
set_option maxRecDepth 100000 in
set_option maxHeartbeats 400000 in
theorem dropM_no {w : World} {p b : Nat} {N : Int} {M : Pl.Mks} (h : MarksW w p b N M) {c : Int} (hc : 0 ≤ c ∧ c < 4294967296) (hg : (Pl.getM M c).isSome = false) :
    Calls Try.prog 18 #[.pointer (some ⟨p, 0, none⟩), .int .u32 c] w fun e w' => e = .returned (.int .i64 6) ∧ w' = w := by
  have HN := Lib.hid (none_marks h)
  have HL := lookM h hc
  unfold gotM at HL
  rw [hg] at HL
  obtain ⟨c0, c1⟩ := h.cells
  clear h
  go_enter Try.func18, Try.ntmps18
  go_wp2_with fail
  refine HN.out.mono ?_
  rintro e w' ⟨rfl, rfl⟩
  go_wp2_with fail
  go_ret
  exact ⟨rfl, rfl⟩
set_option maxRecDepth 100000 in
set_option maxHeartbeats 400000 in
theorem dropM_non {w : World} {v : Value} (h : NonM w v) (c : Int) :
    Calls Try.prog 18 #[v, .int .u32 c] w fun e w' => e = .returned (.int .i64 2) ∧ w' = w := by
  have HN := Lib.hid (none_nonM h)
  clear h
  go_enter Try.func18, Try.ntmps18
  go_wp2_with fail
  refine HN.out.mono ?_
  rintro e w' ⟨rfl, rfl⟩
  go_wp2_with fail
  go_ret
  exact ⟨rfl, rfl⟩
end Go.Proofs.Ytfjnliebgndemaa
