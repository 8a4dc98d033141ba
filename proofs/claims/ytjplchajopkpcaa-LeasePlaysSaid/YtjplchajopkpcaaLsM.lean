/-
  Leases in memory: their block, their map; none, Live, Drop, Set. Conditions: those that each states.
-/
import Derived.Test.YtjplchajopkpcaaLsR
import Derived.Lib.Hide
import Derived.BigQuiet
import Derived.Handy
namespace Go.Proofs.Ytjplchajopkpcaa
open Go.RowKit

theorem keyedC : Maps.Keyed Try.prog 25 := Maps.int_keyed Try.underlying25
theorem wf_u32 {c : Int} (h : 0 ≤ c ∧ c < 4294967296) : (Lit.int .u32 c).wf = true := by
  have e1 : IntKind.u32.min = 0 := by decide
  have e2 : IntKind.u32.max = 4294967295 := by decide
  simp only [Lit.wf, e1, e2, Bool.and_eq_true, decide_eq_true_eq]
  omega
theorem wf_u64 {c : Int} (h : 0 ≤ c ∧ c < 9223372036854775808) : (Lit.int .u64 c).wf = true := by
  have e1 : IntKind.u64.min = 0 := by decide
  have e2 : IntKind.u64.max = 18446744073709551615 := by decide
  simp only [Lit.wf, e1, e2, Bool.and_eq_true, decide_eq_true_eq]
  omega
theorem keyC {c : Int} (h : 0 ≤ c ∧ c < 4294967296) : keyOf Try.prog 25 (.int .u32 c) = some (.int .u32 c) := Maps.keyOf_int_mk Try.underlying25 (wf_u32 h)
theorem readT {v : Int} (h : 0 ≤ v ∧ v < 9223372036854775808) : plainElem (H := Unit) Try.prog 26 (.int .u64 v) = some (.lit (.int .u64 v), []) := plainElem_int Try.underlying26 (wf_u64 h)
namespace Pl
theorem rising_len : ∀ {M : Mks} {lo hi : Int}, Rising M → (∀ p ∈ M, lo ≤ p.1 ∧ p.1 < hi) → lo ≤ hi → (M.length : Int) ≤ hi - lo
  | [], _, _, _, _, h => by simpa using h
  | x :: r, lo, hi, hr, hb, h => by
    have h1 := List.pairwise_cons.1 hr
    have hx := hb x (List.mem_cons_self ..)
    have := rising_len (M := r) (lo := x.1 + 1) (hi := hi) h1.2 (fun p hp => ⟨by have := h1.1 p hp; omega, (hb p (List.mem_cons_of_mem _ hp)).2⟩) (by omega)
    rw [List.length_cons]
    omega
theorem len_put_old {M : Mks} {c v u : Int} (h : Rising M) (hg : getM M c = some u) : (putM M c v).length ≤ M.length := by
  have h1 : (delM M c).length < M.length := List.length_filter_lt_length_iff_exists.2 ⟨(c, u), (get_iff h).1 hg, by simp⟩
  unfold putM
  rw [len_ins]
  omega
/-- what holds of all leases -/
structure LsOk (M : Mks) : Prop where
  up : Rising M
  key : ∀ q ∈ M, 0 ≤ q.1 ∧ q.1 < 4294967296
  tick : ∀ q ∈ M, 0 ≤ q.2 ∧ q.2 ≤ 1099511627840
theorem LsOk.len {M : Mks} (h : LsOk M) : M.length < maxLen := by
  have := rising_len h.up h.key (by omega)
  unfold maxLen
  omega
theorem LsOk.nil : LsOk [] := ⟨rising_nil, by simp, by simp⟩
theorem LsOk.put {M : Mks} (h : LsOk M) {c v : Int} (hc : 0 ≤ c ∧ c < 4294967296) (hv : 0 ≤ v ∧ v ≤ 1099511627840) : LsOk (putM M c v) :=
  ⟨rising_put h.up c v, fun q hq => by
    unfold putM at hq
    rcases mem_ins.1 hq with rfl | hq
    · exact hc
    · exact h.key q (mem_del.1 hq).1, fun q hq => by
    unfold putM at hq
    rcases mem_ins.1 hq with rfl | hq
    · exact hv
    · exact h.tick q (mem_del.1 hq).1⟩
theorem LsOk.del {M : Mks} (h : LsOk M) (c : Int) : LsOk (delM M c) :=
  ⟨rising_del h.up c, fun q hq => h.key q (mem_del.1 hq).1, fun q hq => h.tick q (mem_del.1 hq).1⟩
theorem LsOk.there {M : Mks} (h : LsOk M) (now : Int) : LsOk (thereM now M) :=
  ⟨rising_there h.up now, fun q hq => h.key q (List.mem_filter.1 hq).1, fun q hq => h.tick q (List.mem_filter.1 hq).1⟩
end Pl
theorem own_tight {w : World} {b n : Nat} {M : Pl.Mks} (h : w.ownsMap Try.prog 25 (plainElem (H := Unit) Try.prog 26) b n (datL M)) : w.ownsMap Try.prog 25 (plainElem (H := Unit) Try.prog 26) b M.length (datL M) := by
  obtain ⟨es, clock, hb, F, hs, hD⟩ := h
  refine ⟨es, clock, hb, F, ?_, hD⟩
  have e := hD
  unfold datL at e
  rw [DataW.map.injEq] at e
  have := congrArg List.length e
  rw [List.length_map, length_sorted, List.length_map] at this
  simp only [Array.length_toList] at this
  omega
theorem own_tn {w w' : World} {b : Nat} {T : Nat → Prop} {M : Pl.Mks} (h : w.ownsMap Try.prog 25 (plainElem (H := Unit) Try.prog 26) b M.length (datL M)) (ht : Tn T w w') (hb : ¬ T b) : w'.ownsMap Try.prog 25 (plainElem (H := Unit) Try.prog 26) b M.length (datL M) := by
  obtain ⟨es, clock, h1, h2⟩ := h
  exact ⟨es, clock, ht.old h1 hb, h2⟩
theorem turned_tn {w w' : World} {b : Nat} (hm : w.mapTurned w' b) : Tn (fun i => i = b) w w' := by
  obtain ⟨es, clock, es', clock', h1, rfl⟩ := hm
  exact ⟨rfl, rfl, rfl, by simp [Go.ChangeMaps.setBlock], fun i _ hi => Go.ChangeMaps.heap_setBlock_other h1 _ hi⟩
/-- leases in memory -/
structure LeasesW (w : World) (p b : Nat) (M : Pl.Mks) : Prop where
  blk : w.heap[p]? = some (.cells #[.map (some b)] 63 (0, 0))
  own : w.ownsMap Try.prog 25 (plainElem (H := Unit) Try.prog 26) b M.length (datL M)
  ok : Pl.LsOk M
  few : M.length ≤ 16
section
variable {w w' : World} {p b : Nat} {T : Nat → Prop} {M : Pl.Mks}
theorem LeasesW.lt (h : LeasesW w p b M) : p < w.heap.size := lt_of_block h.blk
theorem LeasesW.ne (h : LeasesW w p b M) : p ≠ b := by
  intro e
  obtain ⟨es, clock, hb, _⟩ := h.own
  rw [← e, h.blk] at hb
  cases hb
theorem LeasesW.tn (h : LeasesW w p b M) (ht : Tn T w w') (hp : ¬ T p) (hb : ¬ T b) : LeasesW w' p b M := ⟨ht.old h.blk hp, own_tn h.own ht hb, h.ok, h.few⟩
theorem LeasesW.then_ (h : LeasesW w p b M) (hb : Below w.heap.size w w') : LeasesW w' p b M := h.tn (Tn.of (fun _ => False) hb) (fun h => h) (fun h => h)
theorem LeasesW.cell (h : LeasesW w p b M) : w.cell? ⟨p, 0, none⟩ = some (.map (some b)) := cell0 (r := []) h.blk
end
theorem eql_mapL_some (b : Nat) (w : World) : (binOp .eql 61 (.map (some b)) (.map none)).run Try.prog w = .ok (.bool false) w := by kernel_rfl
theorem eql_mapL_none (w : World) : (binOp .eql 61 (.map none) (.map none)).run Try.prog w = .ok (.bool true) w := by kernel_rfl
/-- none, or ones that New did not make -/
def NonL (w : World) (v : Value) : Prop := v = .pointer none ∨ ∃ p, v = .pointer (some ⟨p, 0, none⟩) ∧ w.heap[p]? = some (.cells #[.map none] 63 (0, 0))
set_option maxRecDepth 100000 in
set_option maxHeartbeats 400000 in
theorem none_leases {w : World} {p b : Nat} {M : Pl.Mks} (h : LeasesW w p b M) :
    Calls Try.prog 27 #[.pointer (some ⟨p, 0, none⟩)] w fun e w' => e = .returned (.bool false) ∧ w' = w := by
  have c0 := h.cell
  have q := eql_mapL_some b
  clear h
  go_enter Try.func27, Try.ntmps27
  go_wp2_with fail
  go_ret
  exact ⟨rfl, rfl⟩
set_option maxRecDepth 100000 in
set_option maxHeartbeats 400000 in
theorem none_nonL {w : World} {v : Value} (h : NonL w v) :
    Calls Try.prog 27 #[v] w fun e w' => e = .returned (.bool true) ∧ w' = w := by
  have q := eql_mapL_none
  rcases h with rfl | ⟨p, rfl, hp⟩
  · go_enter Try.func27, Try.ntmps27
    go_wp2_with fail
    go_ret
    exact ⟨rfl, rfl⟩
  · have c1 := cell0 (r := []) hp
    clear hp
    go_enter Try.func27, Try.ntmps27
    go_wp2_with fail
    go_ret
    exact ⟨rfl, rfl⟩
/-- what a look at a client's tick finds -/
theorem look_ok {w : World} {b : Nat} {M : Pl.Mks} (h : w.ownsMap Try.prog 25 (plainElem (H := Unit) Try.prog 26) b M.length (datL M)) {c : Int} (hc : 0 ≤ c ∧ c < 4294967296) :
    (Instr.lookup 61 (.map (some b)) (.int .u32 c) true).run Try.prog w = .ok (.tuple #[.int .u64 ((Pl.getM M c).getD 0), .bool (Pl.getM M c).isSome]) w := by
  obtain ⟨v, ps, hrun, hv⟩ := h.look_ok keyedC Try.underlying61 (Try.zeroValue26 w) (plainElem_int Try.underlying26 (wf_u64 (c := 0) (by decide))) (keyC hc)
  obtain ⟨c', rfl, hc', hw⟩ := plainElem_int_inv Try.underlying26 hv
  rw [hrun, hasL_dat]
  rw [atL_dat] at hc'
  have e := congrArg Prod.fst hc'
  simp only at e
  cases hg : Pl.getM M c with
  | none => rw [hg] at e; simp at e; rw [e]; rfl
  | some z => rw [hg] at e; simp at e; rw [e]; rfl
theorem look_one {w : World} {b : Nat} {M : Pl.Mks} (h : w.ownsMap Try.prog 25 (plainElem (H := Unit) Try.prog 26) b M.length (datL M)) {c : Int} (hc : 0 ≤ c ∧ c < 4294967296) :
    (Instr.lookup 61 (.map (some b)) (.int .u32 c) false).run Try.prog w = .ok (.int .u64 ((Pl.getM M c).getD 0)) w := by
  obtain ⟨v, hrun, hv, _⟩ := h.lookup_int keyedC Try.underlying61 Try.underlying26 (Try.zeroValue26 w) (keyC hc)
  rw [hrun]
  rw [atL_dat] at hv
  cases hg : Pl.getM M c with
  | none => rw [hg] at hv; simp at hv; rw [hv]; rfl
  | some z => rw [hg] at hv; simp at hv; rw [hv]; rfl
/-- a store of a tick -/
theorem storeL {w : World} {b : Nat} {M : Pl.Mks} (h : w.ownsMap Try.prog 25 (plainElem (H := Unit) Try.prog 26) b M.length (datL M)) (hl : M.length < maxLen) {c v : Int} (hc : 0 ≤ c ∧ c < 4294967296) (hv : 0 ≤ v ∧ v < 9223372036854775808) :
    ∃ w', (Instr.mapUpdate 61 (.map (some b)) (.int .u32 c) (.int .u64 v)).run Try.prog w = .ok () w' ∧ w'.ownsMap Try.prog 25 (plainElem (H := Unit) Try.prog 26) b (Pl.putM M c v).length (datL (Pl.putM M c v)) ∧ Tn (fun i => i = b) w w' := by
  obtain ⟨w', hrun, r1, r2⟩ := h.store keyedC Try.underlying61 hl (keyC hc) (readT hv)
  rw [putL_dat] at r1
  exact ⟨w', hrun, own_tight r1, turned_tn r2⟩
set_option maxRecDepth 100000 in
set_option maxHeartbeats 400000 in
theorem live_any {w : World} {p b : Nat} {M : Pl.Mks} (h : LeasesW w p b M) {c : Int} (hc : 0 ≤ c ∧ c < 4294967296) (now : Int) (h0 : 0 ≤ now) :
    Calls Try.prog 21 #[.pointer (some ⟨p, 0, none⟩), .int .u32 c, .int .u64 now] w fun e w' => e = .returned (.bool (Pl.liveM M c now)) ∧ w' = w := by
  have HN := Lib.hid (none_leases h)
  have HL := look_one h.own hc
  have c0 := h.cell
  have HE := Lib.hid (show Pl.liveM M c now = decide (now < (Pl.getM M c).getD 0) by
    cases hg : Pl.getM M c with
    | none => rw [Pl.live_none hg]; exact (decide_eq_false (by simpa using h0)).symm
    | some v => rw [Pl.live_some hg]; rfl)
  obtain ⟨g, hg⟩ : ∃ g, g = (Pl.getM M c).getD 0 := ⟨_, rfl⟩
  rw [← hg] at HL HE
  clear h hc hg h0
  go_enter Try.func21, Try.ntmps21
  go_wp2_with fail
  refine HN.out.mono ?_
  rintro e w' ⟨rfl, hw⟩
  rw [hw]
  clear hw w'
  go_wp2_with fail
  go_ret
  exact ⟨by rw [HE.out]; rfl, rfl⟩
set_option maxRecDepth 100000 in
set_option maxHeartbeats 400000 in
theorem live_non {w : World} {v : Value} (h : NonL w v) (c now : Int) :
    Calls Try.prog 21 #[v, .int .u32 c, .int .u64 now] w fun e w' => e = .returned (.bool false) ∧ w' = w := by
  have HN := Lib.hid (none_nonL h)
  clear h
  go_enter Try.func21, Try.ntmps21
  go_wp2_with fail
  refine HN.out.mono ?_
  rintro e w' ⟨rfl, hw⟩
  rw [hw]
  clear hw w'
  go_wp2_with fail
  go_ret
  exact ⟨rfl, rfl⟩
set_option maxRecDepth 100000 in
set_option maxHeartbeats 400000 in
theorem drop_any {w : World} {p b : Nat} {M : Pl.Mks} (h : LeasesW w p b M) {c : Int} (hc : 0 ≤ c ∧ c < 4294967296) :
    Calls Try.prog 13 #[.pointer (some ⟨p, 0, none⟩), .int .u32 c] w fun e w' => e = .returned (.int .i64 (Pl.dropL M c).1) ∧ LeasesW w' p b (Pl.dropL M c).2 ∧ Tn (fun i => i = b) w w' := by
  have HN := Lib.hid (none_leases h)
  have HL := look_ok h.own hc
  have c0 := h.cell
  cases hg : Pl.getM M c with
  | none =>
    have HE := Lib.hid (show Pl.dropL M c = (6, M) from if_pos hg)
    have HH := Lib.hid h
    rw [hg] at HL
    clear h hc hg
    go_enter Try.func13, Try.ntmps13
    go_wp2_with fail
    refine HN.out.mono ?_
    rintro e w' ⟨rfl, hw⟩
    rw [hw]
    clear hw w'
    go_wp2_with fail
    go_ret
    rw [HE.out]
    exact ⟨rfl, HH.out, Tn.refl _ _⟩
  | some v =>
    have HE := Lib.hid (show Pl.dropL M c = (0, Pl.delM M c) from if_neg (by rw [hg]; simp))
    have HH := Lib.hid h
    have hown := h.own
    have hkey := keyC hc
    rw [hg] at HL
    clear h hc hg
    go_enter Try.func13, Try.ntmps13
    go_wp2_with fail
    refine HN.out.mono ?_
    rintro e w' ⟨rfl, hw⟩
    rw [hw]
    clear hw w'
    go_wp2_with (at_delete; refine wpList_delete_own _ rfl _ _ 61 25 rfl 26 keyedC Try.underlying61 _ _ _ _ rfl hown _ _ rfl hkey ?_; intro w1 hown1 hturn1)
    go_ret
    rw [delL_dat] at hown1
    have ht := turned_tn hturn1
    rw [HE.out]
    exact ⟨rfl, ⟨ht.old HH.out.blk HH.out.ne, own_tight hown1, HH.out.ok.del c, Nat.le_trans (Pl.len_del_le _ _) HH.out.few⟩, ht⟩
end Go.Proofs.Ytjplchajopkpcaa
