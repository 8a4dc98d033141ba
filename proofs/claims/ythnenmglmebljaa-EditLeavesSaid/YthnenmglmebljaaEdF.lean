/-
  edit.Runs' closure: does a unit follow the last run? Conditions: those that each states.
-/
import Derived.Test.YthnenmglmebljaaEdE
namespace Go.Proofs.Ythnenmglmebljaa
open Go.RowKit
open Pl (Un)

/-- does a unit follow the last run? -/
def Pl.folB (rs : List Pl.Rn) (u : Un) : Bool := match rs.getLast? with
  | some r => !(u.k == 0) && (((u.k == r.k) && decide (u.x = r.x ∧ u.y = r.y)) && (u.p == Pl.posAt r r.cs.length))
  | none => false
theorem getLast_getD {L : List RnV} {m : Nat} (h : L.length = m + 1) : (L.map RnV.rn).getLast? = some (L.getD m default).rn := by
  rw [List.getLast?_eq_getElem?, List.length_map, h, Nat.add_sub_cancel, List.getElem?_map, List.getElem?_eq_getElem (by omega), List.getD_eq_getElem?_getD, List.getElem?_eq_getElem (by omega)]
  rfl
set_option maxRecDepth 100000 in
set_option maxHeartbeats 1000000 in
theorem follows_any (u : Un) (b0 : Nat) (B : Option Addr) (m d : Nat) (L : List RnV) (w : World) (hbox : w.heap[b0]? = some (.cells #[.slice B m d] 45 (0, 0))) (hR : Rnr w w.heap.size B m d L) (hn : ∀ r ∈ L, r.cs.length = r.n) :
    Calls Try.prog 31 #[uval u, .pointer (some ⟨b0, 0, none⟩)] w fun e w' => e = .returned (.bool (Pl.folB (L.map RnV.rn) u)) ∧ Below w.heap.size w w' := by
  have hcap := hR.cap
  have hle := hR.le
  unfold maxLen at hcap
  have hlen := hR.len
  obtain ⟨k, p, ch, x, y⟩ := u
  have hb1 := below_box w (.cells #[.int .i64 k, .int .i64 p, .int .i32 ch, .int .u32 x, .int .u64 y] 44)
  have hx : (w.alloc (.cells #[.int .i64 k, .int .i64 p, .int .i32 ch, .int .u32 x, .int .u64 y] 44)).cell? ⟨b0, 0, none⟩ = some (.slice B m d) := by
    rw [cell_of_row _ b0 0 _ _ _ (below_old hb1 hbox (lt_of_block hbox))]; rfl
  have HU1 := uat_new w k p ch x y
  obtain ⟨u0, u1, u2, u3, u4⟩ := HU1.cells
  have HB1 := Lib.hid hb1
  obtain ⟨Q, hQ⟩ : ∃ Q, Q = Pl.folB (L.map RnV.rn) ⟨k, p, ch, x, y⟩ := ⟨_, rfl⟩
  rw [← hQ]
  unfold uval
  simp only
  cases m with
  | zero =>
    obtain rfl : L = [] := List.eq_nil_of_length_eq_zero hlen
    have HQ := Lib.hid (show Q = false by rw [hQ]; rfl)
    clear hQ hR hn hbox hb1 HU1
    go_enter Try.func31, Try.ntmps31
    go_wp2_with fail
    go_ret
    exact ⟨ret_bool HQ.out.symm, HB1.out⟩
  | succ m =>
    have hL := getLast_getD hlen
    obtain ⟨g1, o1, rfl, hg1, hc1⟩ := Rnr.at_ (Rws.then_ hR hb1) (Nat.lt_succ_self m)
    obtain ⟨a0, a1, a2, a3, a4⟩ := hc1 m (Nat.lt_succ_self m)
    have hnr := hn (L.getD m default) (by rw [List.getD_eq_getElem?_getD, List.getElem?_eq_getElem (by omega)]; exact List.getElem_mem (by omega))
    obtain ⟨r, hr⟩ : ∃ r, r = L.getD m default := ⟨_, rfl⟩
    rw [← hr] at a0 a1 a2 a3 a4 hL hnr
    obtain ⟨lk, lp, lx, ly, la, ln, lc, lcs⟩ := r
    simp only at a0 a1 a2 a3 a4 hnr
    have HP := fun w => Lib.hid (place_any ⟨lk, lp, lx, ly, la, ln, lc, lcs⟩ ln w)
    have hQ2 : Q = (!(k == 0) && (((k == lk) && decide (x = lx ∧ y = ly)) && (p == Pl.posAt (RnV.rn ⟨lk, lp, lx, ly, la, ln, lc, lcs⟩) ln))) := by
      rw [hQ]; unfold Pl.folB; rw [hL, ← hnr]; rfl
    obtain ⟨q, hq⟩ : ∃ q, q = Pl.posAt (RnV.rn ⟨lk, lp, lx, ly, la, ln, lc, lcs⟩) ln := ⟨_, rfl⟩
    rw [← hq] at hQ2
    simp only [← hq] at HP
    obtain ⟨L1, hL1⟩ : ∃ L1, L1 = (k == lk) := ⟨_, rfl⟩
    obtain ⟨L2, hL2⟩ : ∃ L2, L2 = decide (x = lx ∧ y = ly) := ⟨_, rfl⟩
    obtain ⟨L3, hL3⟩ : ∃ L3, L3 = (L1 && L2) := ⟨_, rfl⟩
    obtain ⟨L5, hL5⟩ : ∃ L5, L5 = (p == q) := ⟨_, rfl⟩
    obtain ⟨L6, hL6⟩ : ∃ L6, L6 = (L3 && L5) := ⟨_, rfl⟩
    rw [← hL1, ← hL2, ← hL3, ← hL5, ← hL6] at hQ2
    have HQ := Lib.hid hQ2
    have HL1 := Lib.hid hL1.symm
    have HL2 := Lib.hid hL2.symm
    have HL3 := Lib.hid hL3
    have HL5 := Lib.hid hL5.symm
    have HL6 := Lib.hid hL6
    obtain ⟨V, hV⟩ : ∃ V, V = (w.alloc (.cells #[.int .i64 k, .int .i64 p, .int .i32 ch, .int .u32 x, .int .u64 y] 44)).alloc (.cells #[.int .i64 lk, .int .i64 lp, .int .u32 lx, .int .u64 ly, .slice la ln lc] 49) := ⟨_, rfl⟩
    have HBV := Lib.hid (show Below w.heap.size w V by rw [hV]; exact below_alloc hb1 _)
    have HUV := Lib.hid (show ∀ w1, Below V.heap.size V w1 → w1.cell? ⟨w.heap.size, 0, none⟩ = some (.int .i64 k) ∧ w1.cell? ⟨w.heap.size, 1, none⟩ = some (.int .i64 p) ∧ w1.cell? ⟨w.heap.size, 2, none⟩ = some (.int .i32 ch) ∧ w1.cell? ⟨w.heap.size, 3, none⟩ = some (.int .u32 x) ∧ w1.cell? ⟨w.heap.size, 4, none⟩ = some (.int .u64 y) from fun w1 h => by
      have h2 : UAt V w.heap.size k p ch x y := by rw [hV]; exact HU1.then_ (below_box _ _)
      exact (h2.then_ h).cells)
    have HRV := Lib.hid (show ∀ w1, Below V.heap.size V w1 → w1.cell? ⟨w.heap.size + 1, 0, none⟩ = some (.int .i64 lk) ∧ w1.cell? ⟨w.heap.size + 1, 1, none⟩ = some (.int .i64 lp) ∧ w1.cell? ⟨w.heap.size + 1, 2, none⟩ = some (.int .u32 lx) ∧ w1.cell? ⟨w.heap.size + 1, 3, none⟩ = some (.int .u64 ly) ∧ w1.cell? ⟨w.heap.size + 1, 4, none⟩ = some (.slice la ln lc) from fun w1 h => by
      have h2 : RAt V (w.heap.size + 1) ⟨lk, lp, lx, ly, la, ln, lc, lcs⟩ := by rw [hV]; exact heap_new (by simp)
      exact (h2.then_ h).cells)
    have HV := Lib.hid hV
    have z0 : (0 : Int) ≤ (m : Int) := Int.natCast_nonneg m
    have z1 : (m : Int) < ((m + 1 : Nat) : Int) := Int.ofNat_lt.2 (Nat.lt_succ_self m)
    have zm : (((m + 1 : Nat) : Int) == 0) = false := by simp; omega
    have zw : wrap64 (((m + 1 : Nat) : Int) - 1) = (m : Int) := by unfold wrap64; omega
    have zi : IntKind.i64.wrap (((m + 1 : Nat) : Int) - 1) = (m : Int) := by rw [IntKind.wrap_i64]; omega
    obtain ⟨M, hM⟩ : ∃ M, M = m + 1 := ⟨_, rfl⟩
    rw [← hM] at hx z1 zm zw zi
    clear hM hc1 hr hnr hL hQ hQ2 hL1 hL2 hL3 hL5 hL6 hq hV hR hn hbox hb1 HU1 hlen
    by_cases hk : k = 0
    · subst hk
      have HQF := Lib.hid (show Q = false by rw [HQ.out]; rfl)
      go_enter Try.func31, Try.ntmps31
      go_wp2_with fail
      go_ret
      exact ⟨ret_bool HQF.out.symm, HB1.out⟩
    · have hk0 : (k == 0) = false := by simpa using hk
      have HQF := Lib.hid (show Q = L6 by rw [HQ.out, hk0]; rfl)
      go_enter Try.func31, Try.ntmps31
      go_wp2_with fail
      rw [← HV.out]
      refine Rg.wp_region_inv ((fun w' => Below V.heap.size V w')) (Rg.Wd.at [.is (.pointer (some ⟨w.heap.size, 0, none⟩)), .is (.int .i64 k), .is (.pointer (some ⟨w.heap.size + 1, 0, none⟩)), .is (.int .i64 lk), .is (.bool L1), .is (.bool L1), .pred (fun v _ => L1 = true → v = (.pointer (some ⟨w.heap.size, 3, none⟩))) (fun _ _ _ h _ => h), .pred (fun v _ => L1 = true → v = (.agg #[.int .u32 x, .int .u64 y])) (fun _ _ _ h _ => h), .pred (fun v _ => L1 = true → v = (.pointer (some ⟨w.heap.size + 1, 2, none⟩))) (fun _ _ _ h _ => h), .pred (fun v _ => L1 = true → v = (.agg #[.int .u32 lx, .int .u64 ly])) (fun _ _ _ h _ => h), .pred (fun v _ => L1 = true → v = (.bool L2)) (fun _ _ _ h _ => h), .is (.bool L3), .is (.bool L3), .pred (fun v _ => L3 = true → v = (.pointer (some ⟨w.heap.size, 1, none⟩))) (fun _ _ _ h _ => h), .pred (fun v _ => L3 = true → v = (.int .i64 p)) (fun _ _ _ h _ => h), .pred (fun v _ => L3 = true → v = (.agg #[.int .i64 lk, .int .i64 lp, .int .u32 lx, .int .u64 ly, .slice la ln lc])) (fun _ _ _ h _ => h), .pred (fun v _ => L3 = true → v = (.pointer (some ⟨w.heap.size + 1, 4, none⟩))) (fun _ _ _ h _ => h), .pred (fun v _ => L3 = true → v = (.slice la ln lc)) (fun _ _ _ h _ => h), .pred (fun v _ => L3 = true → v = (.int .i64 (ln : Int))) (fun _ _ _ h _ => h), .pred (fun v _ => L3 = true → v = (.int .i64 q)) (fun _ _ _ h _ => h), .pred (fun v _ => L3 = true → v = (.bool L5)) (fun _ _ _ h _ => h), .is (.bool L6), .is (.bool L6)]) (by kernel_rfl) (by kernel_rfl) (Rg.Wd.stays _ _) ((below_drawn (Below.refl _ _))) ⟨?_, ?_, ?_, ?_, ?_, ?_, ?_, ?_, ?_, ?_, ?_, ?_, ?_, ?_, ?_, ?_, ?_, ?_, ?_, ?_, ?_, ?_, ?_, trivial⟩ ?_
      · intro a w1 hS hb hd
        have e2 := hb 2 (Rg.nw (by decide))
        simp [Act.eval] at e2
        exact Rg.does_pure (Rg.wanted_none rfl) (by simp [execOp, e2, go_sem]) hS rfl
      · intro a w1 hS hb hd
        have e19 := hd ⟨0, .data⟩ (by simp) rfl _ _ rfl rfl
        have e19 : a.tmps[19]?.getD undef = (.pointer (some ⟨w.heap.size, 0, none⟩)) := Rg.slot e19
        exact Rg.does_pure (Rg.wanted_none rfl) (by simp [execOp, e19, (HUV.out w1 hS).1, go_sem]) hS rfl
      · intro a w1 hS hb hd
        have e4 := hb 4 (Rg.nw (by decide))
        simp [Act.eval] at e4
        exact Rg.does_pure (Rg.wanted_none rfl) (by simp [execOp, e4, go_sem]) hS rfl
      · intro a w1 hS hb hd
        have e21 := hd ⟨2, .data⟩ (by simp) rfl _ _ rfl rfl
        have e21 : a.tmps[21]?.getD undef = (.pointer (some ⟨w.heap.size + 1, 0, none⟩)) := Rg.slot e21
        exact Rg.does_pure (Rg.wanted_none rfl) (by simp [execOp, e21, (HRV.out w1 hS).1, go_sem]) hS rfl
      · intro a w1 hS hb hd
        have e20 := hd ⟨1, .data⟩ (by simp) rfl _ _ rfl rfl
        have e20 : a.tmps[20]?.getD undef = (.int .i64 k) := Rg.slot e20
        have e22 := hd ⟨3, .data⟩ (by simp) rfl _ _ rfl rfl
        have e22 : a.tmps[22]?.getD undef = (.int .i64 lk) := Rg.slot e22
        exact Rg.does_pure (Rg.wanted_none rfl) (by simp [execOp, e20, e22, HL1.out, go_sem]) hS rfl
      · intro a w1 hS hb hd
        have e23 := hd ⟨4, .data⟩ (by simp) rfl _ _ rfl rfl
        have e23 : a.tmps[23]?.getD undef = (.bool L1) := Rg.slot e23
        exact Rg.does_pure (Rg.wanted_none rfl) (by simp [execOp, e23, go_sem]) hS rfl
      · intro a w1 hS hb hd
        have e2 := hb 2 (Rg.nw (by decide))
        simp [Act.eval] at e2
        have e24 := hd ⟨5, .guard⟩ (by simp) rfl _ _ rfl rfl
        cases L1 with
        | true =>
          exact Rg.does_pure (Rg.wanted_some rfl rfl rfl e24) (by simp [execOp, e2, go_sem]) hS (fun _ => rfl)
        | false => exact Or.inr ⟨Rg.unwanted rfl rfl rfl e24, fun h => by cases h⟩
      · intro a w1 hS hb hd
        have e25 := hd ⟨6, .data⟩ (by simp) rfl _ _ rfl rfl
        have e24 := hd ⟨5, .guard⟩ (by simp) rfl _ _ rfl rfl
        cases L1 with
        | true =>
          have e25 : a.tmps[25]?.getD undef = (.pointer (some ⟨w.heap.size, 3, none⟩)) := Rg.slot (e25 rfl)
          exact Rg.does_pure (Rg.wanted_some rfl rfl rfl e24) (by simp [execOp, e25, (HUV.out w1 hS).2.2.2.1, (HUV.out w1 hS).2.2.2.2, go_sem]) hS (fun _ => rfl)
        | false => exact Or.inr ⟨Rg.unwanted rfl rfl rfl e24, fun h => by cases h⟩
      · intro a w1 hS hb hd
        have e4 := hb 4 (Rg.nw (by decide))
        simp [Act.eval] at e4
        have e24 := hd ⟨5, .guard⟩ (by simp) rfl _ _ rfl rfl
        cases L1 with
        | true =>
          exact Rg.does_pure (Rg.wanted_some rfl rfl rfl e24) (by simp [execOp, e4, go_sem]) hS (fun _ => rfl)
        | false => exact Or.inr ⟨Rg.unwanted rfl rfl rfl e24, fun h => by cases h⟩
      · intro a w1 hS hb hd
        have e27 := hd ⟨8, .data⟩ (by simp) rfl _ _ rfl rfl
        have e24 := hd ⟨5, .guard⟩ (by simp) rfl _ _ rfl rfl
        cases L1 with
        | true =>
          have e27 : a.tmps[27]?.getD undef = (.pointer (some ⟨w.heap.size + 1, 2, none⟩)) := Rg.slot (e27 rfl)
          exact Rg.does_pure (Rg.wanted_some rfl rfl rfl e24) (by simp [execOp, e27, (HRV.out w1 hS).2.2.1, (HRV.out w1 hS).2.2.2.1, go_sem]) hS (fun _ => rfl)
        | false => exact Or.inr ⟨Rg.unwanted rfl rfl rfl e24, fun h => by cases h⟩
      · intro a w1 hS hb hd
        have e26 := hd ⟨7, .data⟩ (by simp) rfl _ _ rfl rfl
        have e28 := hd ⟨9, .data⟩ (by simp) rfl _ _ rfl rfl
        have e24 := hd ⟨5, .guard⟩ (by simp) rfl _ _ rfl rfl
        cases L1 with
        | true =>
          have e26 : a.tmps[26]?.getD undef = (.agg #[.int .u32 x, .int .u64 y]) := Rg.slot (e26 rfl)
          have e28 : a.tmps[28]?.getD undef = (.agg #[.int .u32 lx, .int .u64 ly]) := Rg.slot (e28 rfl)
          exact Rg.does_pure (Rg.wanted_some rfl rfl rfl e24) (by simp [execOp, e26, e28, eql_id, HL2.out, guard_id, go_sem]) hS (fun _ => rfl)
        | false => exact Or.inr ⟨Rg.unwanted rfl rfl rfl e24, fun h => by cases h⟩
      · intro a w1 hS hb hd
        have e24 := hd ⟨5, .data⟩ (by simp) rfl _ _ rfl rfl
        have e24 : a.tmps[24]?.getD undef = (.bool L1) := Rg.slot e24
        have e29 := hd ⟨10, .data⟩ (by simp) rfl _ _ rfl rfl
        cases L1 with
        | true =>
          have e29 : a.tmps[29]?.getD undef = (.bool L2) := Rg.slot (e29 rfl)
          exact Rg.does_pure (Rg.wanted_none rfl) (by simp [execOp, e24, e29, go_sem]) hS (show Value.bool L2 = .bool L3 by rw [HL3.out]; rfl)
        | false => exact Rg.does_pure (Rg.wanted_none rfl) (by simp [execOp, e24, go_sem]) hS (show Value.bool false = .bool L3 by rw [HL3.out]; rfl)
      · intro a w1 hS hb hd
        have e30 := hd ⟨11, .data⟩ (by simp) rfl _ _ rfl rfl
        have e30 : a.tmps[30]?.getD undef = (.bool L3) := Rg.slot e30
        exact Rg.does_pure (Rg.wanted_none rfl) (by simp [execOp, e30, go_sem]) hS rfl
      · intro a w1 hS hb hd
        have e2 := hb 2 (Rg.nw (by decide))
        simp [Act.eval] at e2
        have e31 := hd ⟨12, .guard⟩ (by simp) rfl _ _ rfl rfl
        cases L3 with
        | true =>
          exact Rg.does_pure (Rg.wanted_some rfl rfl rfl e31) (by simp [execOp, e2, go_sem]) hS (fun _ => rfl)
        | false => exact Or.inr ⟨Rg.unwanted rfl rfl rfl e31, fun h => by cases h⟩
      · intro a w1 hS hb hd
        have e32 := hd ⟨13, .data⟩ (by simp) rfl _ _ rfl rfl
        have e31 := hd ⟨12, .guard⟩ (by simp) rfl _ _ rfl rfl
        cases L3 with
        | true =>
          have e32 : a.tmps[32]?.getD undef = (.pointer (some ⟨w.heap.size, 1, none⟩)) := Rg.slot (e32 rfl)
          exact Rg.does_pure (Rg.wanted_some rfl rfl rfl e31) (by simp [execOp, e32, (HUV.out w1 hS).2.1, go_sem]) hS (fun _ => rfl)
        | false => exact Or.inr ⟨Rg.unwanted rfl rfl rfl e31, fun h => by cases h⟩
      · intro a w1 hS hb hd
        have e4 := hb 4 (Rg.nw (by decide))
        simp [Act.eval] at e4
        have e31 := hd ⟨12, .guard⟩ (by simp) rfl _ _ rfl rfl
        cases L3 with
        | true =>
          exact Rg.does_pure (Rg.wanted_some rfl rfl rfl e31) (by simp [execOp, e4, (HRV.out w1 hS).1, (HRV.out w1 hS).2.1, (HRV.out w1 hS).2.2.1, (HRV.out w1 hS).2.2.2.1, (HRV.out w1 hS).2.2.2.2, go_sem]) hS (fun _ => rfl)
        | false => exact Or.inr ⟨Rg.unwanted rfl rfl rfl e31, fun h => by cases h⟩
      · intro a w1 hS hb hd
        have e4 := hb 4 (Rg.nw (by decide))
        simp [Act.eval] at e4
        have e31 := hd ⟨12, .guard⟩ (by simp) rfl _ _ rfl rfl
        cases L3 with
        | true =>
          exact Rg.does_pure (Rg.wanted_some rfl rfl rfl e31) (by simp [execOp, e4, go_sem]) hS (fun _ => rfl)
        | false => exact Or.inr ⟨Rg.unwanted rfl rfl rfl e31, fun h => by cases h⟩
      · intro a w1 hS hb hd
        have e35 := hd ⟨16, .data⟩ (by simp) rfl _ _ rfl rfl
        have e31 := hd ⟨12, .guard⟩ (by simp) rfl _ _ rfl rfl
        cases L3 with
        | true =>
          have e35 : a.tmps[35]?.getD undef = (.pointer (some ⟨w.heap.size + 1, 4, none⟩)) := Rg.slot (e35 rfl)
          exact Rg.does_pure (Rg.wanted_some rfl rfl rfl e31) (by simp [execOp, e35, (HRV.out w1 hS).2.2.2.2, go_sem]) hS (fun _ => rfl)
        | false => exact Or.inr ⟨Rg.unwanted rfl rfl rfl e31, fun h => by cases h⟩
      · intro a w1 hS hb hd
        have e36 := hd ⟨17, .data⟩ (by simp) rfl _ _ rfl rfl
        have e31 := hd ⟨12, .guard⟩ (by simp) rfl _ _ rfl rfl
        cases L3 with
        | true =>
          have e36 : a.tmps[36]?.getD undef = (.slice la ln lc) := Rg.slot (e36 rfl)
          exact Rg.does_pure (Rg.wanted_some rfl rfl rfl e31) (by simp [e36, go_sem]) hS (fun _ => rfl)
        | false => exact Or.inr ⟨Rg.unwanted rfl rfl rfl e31, fun h => by cases h⟩
      · intro a w1 hS hb hd
        have e34 := hd ⟨15, .data⟩ (by simp) rfl _ _ rfl rfl
        have e37 := hd ⟨18, .data⟩ (by simp) rfl _ _ rfl rfl
        have e31 := hd ⟨12, .guard⟩ (by simp) rfl _ _ rfl rfl
        cases L3 with
        | true =>
          have e34 : a.tmps[34]?.getD undef = (.agg #[.int .i64 lk, .int .i64 lp, .int .u32 lx, .int .u64 ly, .slice la ln lc]) := Rg.slot (e34 rfl)
          have e37 : a.tmps[37]?.getD undef = (.int .i64 (ln : Int)) := Rg.slot (e37 rfl)
          refine Rg.does_call (f := 32) (args := #[.agg #[.int .i64 lk, .int .i64 lp, .int .u32 lx, .int .u64 ly, .slice la ln lc], .int .i64 (ln : Int)]) (Rg.wanted_some rfl rfl rfl e31) (by simp [e34, e37, go_sem]) ?_
          exact (HP w1).out.mono fun e w' ⟨h1, h2⟩ => ⟨_, h1, fun _ => rfl, below_then hS h2, h2⟩
        | false => exact Or.inr ⟨Rg.unwanted rfl rfl rfl e31, fun h => by cases h⟩
      · intro a w1 hS hb hd
        have e33 := hd ⟨14, .data⟩ (by simp) rfl _ _ rfl rfl
        have e38 := hd ⟨19, .data⟩ (by simp) rfl _ _ rfl rfl
        have e31 := hd ⟨12, .guard⟩ (by simp) rfl _ _ rfl rfl
        cases L3 with
        | true =>
          have e33 : a.tmps[33]?.getD undef = (.int .i64 p) := Rg.slot (e33 rfl)
          have e38 : a.tmps[38]?.getD undef = (.int .i64 q) := Rg.slot (e38 rfl)
          exact Rg.does_pure (Rg.wanted_some rfl rfl rfl e31) (by simp [execOp, e33, e38, HL5.out, go_sem]) hS (fun _ => rfl)
        | false => exact Or.inr ⟨Rg.unwanted rfl rfl rfl e31, fun h => by cases h⟩
      · intro a w1 hS hb hd
        have e31 := hd ⟨12, .data⟩ (by simp) rfl _ _ rfl rfl
        have e31 : a.tmps[31]?.getD undef = (.bool L3) := Rg.slot e31
        have e39 := hd ⟨20, .data⟩ (by simp) rfl _ _ rfl rfl
        cases L3 with
        | true =>
          have e39 : a.tmps[39]?.getD undef = (.bool L5) := Rg.slot (e39 rfl)
          exact Rg.does_pure (Rg.wanted_none rfl) (by simp [execOp, e31, e39, go_sem]) hS (show Value.bool L5 = .bool L6 by rw [HL6.out]; rfl)
        | false => exact Rg.does_pure (Rg.wanted_none rfl) (by simp [execOp, e31, go_sem]) hS (show Value.bool false = .bool L6 by rw [HL6.out]; rfl)
      · intro a w1 hS hb hd
        have e40 := hd ⟨21, .data⟩ (by simp) rfl _ _ rfl rfl
        have e40 : a.tmps[40]?.getD undef = (.bool L6) := Rg.slot e40
        exact Rg.does_pure (Rg.wanted_none rfl) (by simp [execOp, e40, go_sem]) hS rfl
      · intro v w3 hS hv
        have h22 := hv 22 _ _ rfl rfl
        replace h22 : v 22 = .bool L6 := h22
        have HB := Lib.hid (below_then HBV.out hS)
        clear hS hv
        simp only [Rg.putAll, h22]
        simp only [Act.put, List.setIfInBounds_toArray, List.set_cons_succ, List.set_cons_zero]
        go_wp2_with fail
        go_ret
        exact ⟨ret_bool HQF.out.symm, HB.out⟩
end Go.Proofs.Ythnenmglmebljaa
