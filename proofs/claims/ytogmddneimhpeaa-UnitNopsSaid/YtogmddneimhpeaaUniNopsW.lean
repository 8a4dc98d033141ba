/-
  The walk of copybooklaw06.UnitNops: it returns true; nothing that was there turned. No conditions.
-/
import Derived.Test.YtogmddneimhpeaaUniF
import Derived.Test.YtogmddneimhpeaaBaseR
import Derived.Deep.DeepCutAuto
import Derived.Deep.CutRange
namespace Go.Proofs.Ytogmddneimhpeaa.unitNops
open Go.RowKit
open Pl (Un)

theorem over_nop (a : Un) (x y : Int) : Pl.over a ⟨0, 0, 0, x, y⟩ = a := by
  unfold Pl.over
  split
  · rfl
  · rfl
theorem nop_over (a : Un) (x y : Int) : Pl.over ⟨0, 0, 0, x, y⟩ a = ⟨0, 0, 0, x, y⟩ := by
  unfold Pl.over
  rw [if_neg]
  simp
theorem over_self (a : Un) (hk : a.k = 2) (ho : Pl.Okay a) : Pl.over a a = ⟨0, 0, 0, a.x, a.y⟩ := by
  unfold Pl.over
  rw [if_pos ⟨ho, ho, by rw [hk]; decide⟩, if_neg (by rw [hk]; decide), if_pos hk]
  unfold Pl.pastDel
  rw [if_neg (by omega), if_pos ⟨rfl, hk⟩]
/-- what becomes of a unit behind another -/
theorem over_cases (a b : Un) (ha : Pl.UnB a) : (∃ P, Pl.over a b = ⟨a.k, P, a.c, a.x, a.y⟩ ∧ (wrap64 (P - a.p) = 0 ∨ (wrap64 (P - a.p) = 1 ∨ wrap64 (P - a.p) = -1) ∧ Pl.Okay a ∧ Pl.Okay b ∧ Pl.grows b.k = wrap64 (P - a.p))) ∨
    a.k = 2 ∧ b.k = 2 ∧ a.p = b.p ∧ Pl.over a b = ⟨0, 0, 0, a.x, a.y⟩ := by
  have hp := ha.2.1.out
  have same : ∃ P, a = ⟨a.k, P, a.c, a.x, a.y⟩ ∧ (wrap64 (P - a.p) = 0 ∨ (wrap64 (P - a.p) = 1 ∨ wrap64 (P - a.p) = -1) ∧ Pl.Okay a ∧ Pl.Okay b ∧ Pl.grows b.k = wrap64 (P - a.p)) := ⟨a.p, rfl, Or.inl (by unfold wrap64; omega)⟩
  by_cases h : Pl.Okay a ∧ Pl.Okay b ∧ a.k ≠ 0
  · rw [show Pl.over a b = (if b.k = 1 then Pl.pastIns a b else if b.k = 2 then Pl.pastDel a b else a) from if_pos h]
    by_cases h1 : b.k = 1
    · left
      rw [if_pos h1]
      unfold Pl.pastIns
      split
      · exact ⟨_, rfl, Or.inr ⟨Or.inl (by unfold wrap64; omega), h.1, h.2.1, by rw [h1]; unfold Pl.grows wrap64; simp only [if_true]; omega⟩⟩
      · exact same
    · rw [if_neg h1]
      by_cases h2 : b.k = 2
      · rw [if_pos h2]
        unfold Pl.pastDel
        split
        · left
          exact ⟨_, rfl, Or.inr ⟨Or.inr (by unfold wrap64; omega), h.1, h.2.1, by rw [h2]; unfold Pl.grows wrap64; simp only [show ((2 : Int) = 1) = False by decide, if_false, if_true]; omega⟩⟩
        · split
          · rename_i h3
            exact Or.inr ⟨h3.2, h2, h3.1, rfl⟩
          · exact Or.inl same
      · rw [if_neg h2]; exact Or.inl same
  · rw [show Pl.over a b = a from if_neg h]; exact Or.inl same

set_option maxRecDepth 100000 in
set_option maxHeartbeats 2000000 in
theorem walk (w : World) (u : Un) (hu : Pl.UnB u) (v : Un) (_ : Pl.UnB v) :
    Calls Try.prog 6 #[uval u, uval v] w fun e w' => e = .returned (.bool true) ∧ Below w.heap.size w w' := by
  have HC := Lib.hid (over_cases u v hu)
  have HO := fun w => Lib.hid (over_any u v w)
  have HMa := fun w => Lib.hid (okay_any u w)
  have HMb := fun w => Lib.hid (okay_any v w)
  have HGb := fun w => Lib.hid (grows_any v w)
  have H1 := fun w => Lib.hid (over_any u ⟨0, 0, 0, v.x, v.y⟩ w)
  have H2 := fun w => Lib.hid (over_any ⟨0, 0, 0, v.x, v.y⟩ u w)
  have H3 := fun w => Lib.hid (okay_any ⟨0, 0, 0, v.x, v.y⟩ w)
  have H4 := fun w => Lib.hid (grows_any ⟨0, 0, 0, v.x, v.y⟩ w)
  rw [over_nop] at H1
  rw [nop_over] at H2
  rw [decide_eq_true (show Pl.Okay ⟨0, 0, 0, v.x, v.y⟩ from Or.inl ⟨rfl, rfl, rfl⟩)] at H3
  obtain ⟨q, hq⟩ : ∃ q, q = (u.k == 2) := ⟨_, rfl⟩
  obtain ⟨o, ho⟩ : ∃ o, o = decide (Pl.Okay u) := ⟨_, rfl⟩
  obtain ⟨r, hr⟩ : ∃ r, r = (q && o) := ⟨_, rfl⟩
  have H5 := fun w => Lib.hid (okay_any u w)
  rw [← ho] at H5
  have H6 := fun (h : r = true) w => Lib.hid (show Calls Try.prog 37 #[uval u, uval u] w fun e w' => e = .returned (uval ⟨0, 0, 0, u.x, u.y⟩) ∧ Below w.heap.size w w' from by
    rw [hr, Bool.and_eq_true, hq, ho] at h
    have := over_any u u w
    rwa [over_self u (by simpa using h.1) (of_decide_eq_true h.2)] at this)
  replace hq := hq.symm
  clear ho hu
  obtain ⟨k, p, c, x, y⟩ := u
  obtain ⟨k', p', c', x', y'⟩ := v
  have neqA := fun w => neq_unit k p c x y k p c x y w
  have neqN := fun w => neq_unit 0 0 0 x' y' 0 0 0 x' y' w
  have neqZ := fun w => neq_unit 0 0 0 x y 0 0 0 x y w
  have eqlZ := fun w => eql_unit 0 0 0 x y 0 0 0 x y w
  have grdA := fun o1 o2 w => guard_unit .neq o1 o2 #[.int .i64 k, .int .i64 p, .int .i32 c, .int .u32 x, .int .u64 y] #[.int .i64 k, .int .i64 p, .int .i32 c, .int .u32 x, .int .u64 y] w
  have grdN := fun o1 o2 w => guard_unit .neq o1 o2 #[.int .i64 0, .int .i64 0, .int .i32 0, .int .u32 x', .int .u64 y'] #[.int .i64 0, .int .i64 0, .int .i32 0, .int .u32 x', .int .u64 y'] w
  have grdZ := fun o1 o2 w => guard_unit .neq o1 o2 #[.int .i64 0, .int .i64 0, .int .i32 0, .int .u32 x, .int .u64 y] #[.int .i64 0, .int .i64 0, .int .i32 0, .int .u32 x, .int .u64 y] w
  have grdE := fun o1 o2 w => guard_unit .eql o1 o2 #[.int .i64 0, .int .i64 0, .int .i32 0, .int .u32 x, .int .u64 y] #[.int .i64 0, .int .i64 0, .int .i32 0, .int .u32 x, .int .u64 y] w
  simp only [decide_true, Bool.not_true] at neqA neqN neqZ eqlZ
  unfold uval at *
  simp only [Pl.grows, show ((0 : Int) = 1) = False by decide, show ((0 : Int) = 2) = False by decide, if_false] at H1 H2 H3 H4 H5 H6 HO HMa HMb HGb hq HC
  obtain ⟨W0, hW0⟩ : ∃ W0, W0 = ((w.alloc (.cells #[.int .i64 k, .int .i64 p, .int .i32 c, .int .u32 x, .int .u64 y] 65)).alloc (.cells #[.int .i64 k', .int .i64 p', .int .i32 c', .int .u32 x', .int .u64 y'] 65)).alloc (.cells #[.int .i64 0, .int .i64 0, .int .i32 0, .int .u32 x', .int .u64 y'] 65) := ⟨_, rfl⟩
  have HU := Lib.hid (show UAt W0 w.heap.size k p c x y ∧ UAt W0 (w.heap.size + 1) k' p' c' x' y' ∧ UAt W0 (w.heap.size + 1 + 1) 0 0 0 x' y' from by
    rw [hW0]
    refine ⟨?_, ?_, heap_new (by simp)⟩
    · exact ((uat_new w k p c x y).alloc _).alloc _
    · exact UAt.alloc (heap_new (by simp)) _)
  have HB0 := Lib.hid (show Below w.heap.size w W0 by rw [hW0]; exact below_three)
  have HW0 := Lib.hid hW0
  clear hW0
  go_enter Try.func6, Try.ntmps6
  go_wp2_with fail
  rw [← HW0.out]
  clear HW0
  refine Rg.wp_region_inv (fun w'' => Below W0.heap.size W0 w'') (Rg.Wd.at [.is (.agg #[.int .i64 k, .int .i64 p, .int .i32 c, .int .u32 x, .int .u64 y]), .is (.agg #[.int .i64 0, .int .i64 0, .int .i32 0, .int .u32 x', .int .u64 y']), .is (.agg #[.int .i64 k, .int .i64 p, .int .i32 c, .int .u32 x, .int .u64 y]), .is (.agg #[.int .i64 k, .int .i64 p, .int .i32 c, .int .u32 x, .int .u64 y]), .is (.bool false), .is (.bool false), .is (.agg #[.int .i64 0, .int .i64 0, .int .i32 0, .int .u32 x', .int .u64 y']), .is (.agg #[.int .i64 k, .int .i64 p, .int .i32 c, .int .u32 x, .int .u64 y]), .is (.agg #[.int .i64 0, .int .i64 0, .int .i32 0, .int .u32 x', .int .u64 y']), .is (.agg #[.int .i64 0, .int .i64 0, .int .i32 0, .int .u32 x', .int .u64 y']), .is (.bool false), .is (.bool false), .is (.bool false), .is (.agg #[.int .i64 0, .int .i64 0, .int .i32 0, .int .u32 x', .int .u64 y']), .is (.bool true), .is (.bool false), .is (.bool false), .is (.bool false), .is (.agg #[.int .i64 0, .int .i64 0, .int .i32 0, .int .u32 x', .int .u64 y']), .is (.int .i64 0), .is (.bool false), .is (.bool false)]) (by kernel_rfl) (by kernel_rfl) (Rg.Wd.stays _ _) (below_drawn (Below.refl _ _)) ⟨?_, ?_, ?_, ?_, ?_, ?_, ?_, ?_, ?_, ?_, ?_, ?_, ?_, ?_, ?_, ?_, ?_, ?_, ?_, ?_, ?_, ?_, trivial⟩ ?_
  · intro a w1 hS hb hd
    have e2 := hb 2 (Rg.nw (by decide))
    simp [Act.eval] at e2
    exact Rg.does_pure (Rg.wanted_none rfl) (by simp [execOp, e2, (HU.out.1.then_ hS).cells, go_sem]) hS rfl
  · intro a w1 hS hb hd
    have e5 := hb 5 (Rg.nw (by decide))
    simp [Act.eval] at e5
    exact Rg.does_pure (Rg.wanted_none rfl) (by simp [execOp, e5, (HU.out.2.2.then_ hS).cells, go_sem]) hS rfl
  · intro a w1 hS hb hd
    have e12 := hd ⟨0, .data⟩ (by simp) rfl _ _ rfl rfl
    have e12 : a.tmps[12]?.getD undef = (.agg #[.int .i64 k, .int .i64 p, .int .i32 c, .int .u32 x, .int .u64 y]) := Rg.slot e12
    have e13 := hd ⟨1, .data⟩ (by simp) rfl _ _ rfl rfl
    have e13 : a.tmps[13]?.getD undef = (.agg #[.int .i64 0, .int .i64 0, .int .i32 0, .int .u32 x', .int .u64 y']) := Rg.slot e13
    refine Rg.does_call (f := 37) (args := #[.agg #[.int .i64 k, .int .i64 p, .int .i32 c, .int .u32 x, .int .u64 y], .agg #[.int .i64 0, .int .i64 0, .int .i32 0, .int .u32 x', .int .u64 y']]) (Rg.wanted_none rfl) (by simp [e12, e13, go_sem]) ?_
    exact (H1 w1).out.mono fun e w' ⟨h1, h2⟩ => ⟨_, h1, rfl, below_then hS h2, h2⟩
  · intro a w1 hS hb hd
    have e2 := hb 2 (Rg.nw (by decide))
    simp [Act.eval] at e2
    exact Rg.does_pure (Rg.wanted_none rfl) (by simp [execOp, e2, (HU.out.1.then_ hS).cells, go_sem]) hS rfl
  · intro a w1 hS hb hd
    have e14 := hd ⟨2, .data⟩ (by simp) rfl _ _ rfl rfl
    have e14 : a.tmps[14]?.getD undef = (.agg #[.int .i64 k, .int .i64 p, .int .i32 c, .int .u32 x, .int .u64 y]) := Rg.slot e14
    have e15 := hd ⟨3, .data⟩ (by simp) rfl _ _ rfl rfl
    have e15 : a.tmps[15]?.getD undef = (.agg #[.int .i64 k, .int .i64 p, .int .i32 c, .int .u32 x, .int .u64 y]) := Rg.slot e15
    exact Rg.does_pure (Rg.wanted_none rfl) (by simp [execOp, e14, e15, neqA, grdA, go_sem]) hS rfl
  · intro a w1 hS hb hd
    have e16 := hd ⟨4, .data⟩ (by simp) rfl _ _ rfl rfl
    have e16 : a.tmps[16]?.getD undef = (.bool false) := Rg.slot e16
    exact Rg.does_pure (Rg.wanted_none rfl) (by simp [execOp, e16, go_sem]) hS rfl
  · intro a w1 hS hb hd
    have e5 := hb 5 (Rg.nw (by decide))
    simp [Act.eval] at e5
    have e17 := hd ⟨5, .guard⟩ (by simp) rfl _ _ rfl rfl
    exact Rg.does_pure (Rg.wanted_some rfl rfl rfl e17) (by simp [execOp, e5, (HU.out.2.2.then_ hS).cells, go_sem]) hS rfl
  · intro a w1 hS hb hd
    have e2 := hb 2 (Rg.nw (by decide))
    simp [Act.eval] at e2
    have e17 := hd ⟨5, .guard⟩ (by simp) rfl _ _ rfl rfl
    exact Rg.does_pure (Rg.wanted_some rfl rfl rfl e17) (by simp [execOp, e2, (HU.out.1.then_ hS).cells, go_sem]) hS rfl
  · intro a w1 hS hb hd
    have e18 := hd ⟨6, .data⟩ (by simp) rfl _ _ rfl rfl
    have e18 : a.tmps[18]?.getD undef = (.agg #[.int .i64 0, .int .i64 0, .int .i32 0, .int .u32 x', .int .u64 y']) := Rg.slot e18
    have e19 := hd ⟨7, .data⟩ (by simp) rfl _ _ rfl rfl
    have e19 : a.tmps[19]?.getD undef = (.agg #[.int .i64 k, .int .i64 p, .int .i32 c, .int .u32 x, .int .u64 y]) := Rg.slot e19
    have e17 := hd ⟨5, .guard⟩ (by simp) rfl _ _ rfl rfl
    refine Rg.does_call (f := 37) (args := #[.agg #[.int .i64 0, .int .i64 0, .int .i32 0, .int .u32 x', .int .u64 y'], .agg #[.int .i64 k, .int .i64 p, .int .i32 c, .int .u32 x, .int .u64 y]]) (Rg.wanted_some rfl rfl rfl e17) (by simp [e18, e19, go_sem]) ?_
    exact (H2 w1).out.mono fun e w' ⟨h1, h2⟩ => ⟨_, h1, rfl, below_then hS h2, h2⟩
  · intro a w1 hS hb hd
    have e5 := hb 5 (Rg.nw (by decide))
    simp [Act.eval] at e5
    have e17 := hd ⟨5, .guard⟩ (by simp) rfl _ _ rfl rfl
    exact Rg.does_pure (Rg.wanted_some rfl rfl rfl e17) (by simp [execOp, e5, (HU.out.2.2.then_ hS).cells, go_sem]) hS rfl
  · intro a w1 hS hb hd
    have e20 := hd ⟨8, .data⟩ (by simp) rfl _ _ rfl rfl
    have e20 : a.tmps[20]?.getD undef = (.agg #[.int .i64 0, .int .i64 0, .int .i32 0, .int .u32 x', .int .u64 y']) := Rg.slot e20
    have e21 := hd ⟨9, .data⟩ (by simp) rfl _ _ rfl rfl
    have e21 : a.tmps[21]?.getD undef = (.agg #[.int .i64 0, .int .i64 0, .int .i32 0, .int .u32 x', .int .u64 y']) := Rg.slot e21
    have e17 := hd ⟨5, .guard⟩ (by simp) rfl _ _ rfl rfl
    exact Rg.does_pure (Rg.wanted_some rfl rfl rfl e17) (by simp [execOp, e20, e21, neqN, grdN, go_sem]) hS rfl
  · intro a w1 hS hb hd
    have e17 := hd ⟨5, .data⟩ (by simp) rfl _ _ rfl rfl
    have e17 : a.tmps[17]?.getD undef = (.bool false) := Rg.slot e17
    have e22 := hd ⟨10, .data⟩ (by simp) rfl _ _ rfl rfl
    have e22 : a.tmps[22]?.getD undef = (.bool false) := Rg.slot e22
    exact Rg.does_pure (Rg.wanted_none rfl) (by simp [execOp, e17, e22, go_sem]) hS rfl
  · intro a w1 hS hb hd
    have e23 := hd ⟨11, .data⟩ (by simp) rfl _ _ rfl rfl
    have e23 : a.tmps[23]?.getD undef = (.bool false) := Rg.slot e23
    exact Rg.does_pure (Rg.wanted_none rfl) (by simp [execOp, e23, go_sem]) hS rfl
  · intro a w1 hS hb hd
    have e5 := hb 5 (Rg.nw (by decide))
    simp [Act.eval] at e5
    have e24 := hd ⟨12, .guard⟩ (by simp) rfl _ _ rfl rfl
    exact Rg.does_pure (Rg.wanted_some rfl rfl rfl e24) (by simp [execOp, e5, (HU.out.2.2.then_ hS).cells, go_sem]) hS rfl
  · intro a w1 hS hb hd
    have e25 := hd ⟨13, .data⟩ (by simp) rfl _ _ rfl rfl
    have e25 : a.tmps[25]?.getD undef = (.agg #[.int .i64 0, .int .i64 0, .int .i32 0, .int .u32 x', .int .u64 y']) := Rg.slot e25
    have e24 := hd ⟨12, .guard⟩ (by simp) rfl _ _ rfl rfl
    refine Rg.does_call (f := 40) (args := #[.agg #[.int .i64 0, .int .i64 0, .int .i32 0, .int .u32 x', .int .u64 y']]) (Rg.wanted_some rfl rfl rfl e24) (by simp [e25, go_sem]) ?_
    exact (H3 w1).out.mono fun e w' ⟨h1, h2⟩ => ⟨_, h1, rfl, below_then hS h2, h2⟩
  · intro a w1 hS hb hd
    have e26 := hd ⟨14, .data⟩ (by simp) rfl _ _ rfl rfl
    have e26 : a.tmps[26]?.getD undef = (.bool true) := Rg.slot e26
    have e24 := hd ⟨12, .guard⟩ (by simp) rfl _ _ rfl rfl
    exact Rg.does_pure (Rg.wanted_some rfl rfl rfl e24) (by simp [execOp, e26, go_sem]) hS rfl
  · intro a w1 hS hb hd
    have e24 := hd ⟨12, .data⟩ (by simp) rfl _ _ rfl rfl
    have e24 : a.tmps[24]?.getD undef = (.bool false) := Rg.slot e24
    have e27 := hd ⟨15, .data⟩ (by simp) rfl _ _ rfl rfl
    have e27 : a.tmps[27]?.getD undef = (.bool false) := Rg.slot e27
    exact Rg.does_pure (Rg.wanted_none rfl) (by simp [execOp, e24, e27, go_sem]) hS rfl
  · intro a w1 hS hb hd
    have e28 := hd ⟨16, .data⟩ (by simp) rfl _ _ rfl rfl
    have e28 : a.tmps[28]?.getD undef = (.bool false) := Rg.slot e28
    exact Rg.does_pure (Rg.wanted_none rfl) (by simp [execOp, e28, go_sem]) hS rfl
  · intro a w1 hS hb hd
    have e5 := hb 5 (Rg.nw (by decide))
    simp [Act.eval] at e5
    have e29 := hd ⟨17, .guard⟩ (by simp) rfl _ _ rfl rfl
    exact Rg.does_pure (Rg.wanted_some rfl rfl rfl e29) (by simp [execOp, e5, (HU.out.2.2.then_ hS).cells, go_sem]) hS rfl
  · intro a w1 hS hb hd
    have e30 := hd ⟨18, .data⟩ (by simp) rfl _ _ rfl rfl
    have e30 : a.tmps[30]?.getD undef = (.agg #[.int .i64 0, .int .i64 0, .int .i32 0, .int .u32 x', .int .u64 y']) := Rg.slot e30
    have e29 := hd ⟨17, .guard⟩ (by simp) rfl _ _ rfl rfl
    refine Rg.does_call (f := 39) (args := #[.agg #[.int .i64 0, .int .i64 0, .int .i32 0, .int .u32 x', .int .u64 y']]) (Rg.wanted_some rfl rfl rfl e29) (by simp [e30, go_sem]) ?_
    exact (H4 w1).out.mono fun e w' ⟨h1, h2⟩ => ⟨_, h1, rfl, below_then hS h2, h2⟩
  · intro a w1 hS hb hd
    have e31 := hd ⟨19, .data⟩ (by simp) rfl _ _ rfl rfl
    have e31 : a.tmps[31]?.getD undef = (.int .i64 0) := Rg.slot e31
    have e29 := hd ⟨17, .guard⟩ (by simp) rfl _ _ rfl rfl
    exact Rg.does_pure (Rg.wanted_some rfl rfl rfl e29) (by simp [execOp, e31, go_sem]) hS rfl
  · intro a w1 hS hb hd
    have e29 := hd ⟨17, .data⟩ (by simp) rfl _ _ rfl rfl
    have e29 : a.tmps[29]?.getD undef = (.bool false) := Rg.slot e29
    have e32 := hd ⟨20, .data⟩ (by simp) rfl _ _ rfl rfl
    have e32 : a.tmps[32]?.getD undef = (.bool false) := Rg.slot e32
    exact Rg.does_pure (Rg.wanted_none rfl) (by simp [execOp, e29, e32, go_sem]) hS rfl
  intro v w5 hS hv
  have h21 : v 21 = .bool false := hv 21 _ _ rfl rfl
  have HB5 := Lib.hid (HB0.out.trans (hS.mono HB0.out.size))
  have HU5 := Lib.hid (And.intro (HU.out.1.then_ hS) (And.intro (HU.out.2.1.then_ hS) (HU.out.2.2.then_ hS)))
  simp only [Rg.putAll, Nat.zero_add, Nat.reduceAdd]
  simp only [Act.put, List.setIfInBounds_toArray, List.set_cons_succ, List.set_cons_zero]
  rw [h21]
  clear h21 hv hS HU HB0 H1 H2 H3 H4 neqA grdA neqN grdN
  go_wp2_with fail
  refine Rg.wp_region_inv (fun w'' => Below w5.heap.size w5 w'') (Rg.Wd.at [.is (.pointer (some ⟨w.heap.size, 0, none⟩)), .is (.int .i64 k), .is (.bool q), .is (.bool q), .pred (fun v _ => q = true → v = (.agg #[.int .i64 k, .int .i64 p, .int .i32 c, .int .u32 x, .int .u64 y])) (fun _ _ _ h _ => h), .pred (fun v _ => q = true → v = (.bool o)) (fun _ _ _ h _ => h), .is (.bool r), .is (.bool r), .pred (fun v _ => r = true → v = (.agg #[.int .i64 k, .int .i64 p, .int .i32 c, .int .u32 x, .int .u64 y])) (fun _ _ _ h _ => h), .pred (fun v _ => r = true → v = (.agg #[.int .i64 k, .int .i64 p, .int .i32 c, .int .u32 x, .int .u64 y])) (fun _ _ _ h _ => h), .pred (fun v _ => r = true → v = (.agg #[.int .i64 0, .int .i64 0, .int .i32 0, .int .u32 x, .int .u64 y])) (fun _ _ _ h _ => h), .pred (fun v _ => r = true → v = (.pointer (some ⟨w.heap.size, 3, none⟩))) (fun _ _ _ h _ => h), .pred (fun v _ => r = true → v = (.agg #[.int .u32 x, .int .u64 y])) (fun _ _ _ h _ => h), .pred (fun v _ => r = true → v = (.agg #[.int .i64 0, .int .i64 0, .int .i32 0, .int .u32 x, .int .u64 y])) (fun _ _ _ h _ => h), .pred (fun v _ => r = true → v = (.bool false)) (fun _ _ _ h _ => h), .is (.bool false)]) (by kernel_rfl) (by kernel_rfl) (Rg.Wd.stays _ _) (below_drawn (Below.refl _ _)) ⟨?_, ?_, ?_, ?_, ?_, ?_, ?_, ?_, ?_, ?_, ?_, ?_, ?_, ?_, ?_, ?_, trivial⟩ ?_
  · intro a w1 hS hb hd
    have e2 := hb 2 (Rg.nw (by decide))
    simp [Act.eval] at e2
    exact Rg.does_pure (Rg.wanted_none rfl) (by simp [execOp, e2, go_sem]) hS rfl
  · intro a w1 hS hb hd
    have e34 := hd ⟨0, .data⟩ (by simp) rfl _ _ rfl rfl
    have e34 : a.tmps[34]?.getD undef = (.pointer (some ⟨w.heap.size, 0, none⟩)) := Rg.slot e34
    exact Rg.does_pure (Rg.wanted_none rfl) (by simp [execOp, e34, (HU5.out.1.then_ hS).cells, go_sem]) hS rfl
  · intro a w1 hS hb hd
    have e35 := hd ⟨1, .data⟩ (by simp) rfl _ _ rfl rfl
    have e35 : a.tmps[35]?.getD undef = (.int .i64 k) := Rg.slot e35
    exact Rg.does_pure (Rg.wanted_none rfl) (by simp [execOp, e35, hq, go_sem]) hS rfl
  · intro a w1 hS hb hd
    have e36 := hd ⟨2, .data⟩ (by simp) rfl _ _ rfl rfl
    have e36 : a.tmps[36]?.getD undef = (.bool q) := Rg.slot e36
    exact Rg.does_pure (Rg.wanted_none rfl) (by simp [execOp, e36, go_sem]) hS rfl
  · intro a w1 hS hb hd
    have e2 := hb 2 (Rg.nw (by decide))
    simp [Act.eval] at e2
    have e37 := hd ⟨3, .guard⟩ (by simp) rfl _ _ rfl rfl
    cases q with
    | true =>
      exact Rg.does_pure (Rg.wanted_some rfl rfl rfl e37) (by simp [execOp, e2, (HU5.out.1.then_ hS).cells, go_sem]) hS (fun _ => rfl)
    | false => exact Or.inr ⟨Rg.unwanted rfl rfl rfl e37, fun h => by cases h⟩
  · intro a w1 hS hb hd
    have e38 := hd ⟨4, .data⟩ (by simp) rfl _ _ rfl rfl
    have e37 := hd ⟨3, .guard⟩ (by simp) rfl _ _ rfl rfl
    cases q with
    | true =>
      have e38 : a.tmps[38]?.getD undef = (.agg #[.int .i64 k, .int .i64 p, .int .i32 c, .int .u32 x, .int .u64 y]) := Rg.slot (e38 rfl)
      refine Rg.does_call (f := 40) (args := #[.agg #[.int .i64 k, .int .i64 p, .int .i32 c, .int .u32 x, .int .u64 y]]) (Rg.wanted_some rfl rfl rfl e37) (by simp [e38, go_sem]) ?_
      exact (H5 w1).out.mono fun e w' ⟨h1, h2⟩ => ⟨_, h1, fun _ => rfl, below_then hS h2, h2⟩
    | false => exact Or.inr ⟨Rg.unwanted rfl rfl rfl e37, fun h => by cases h⟩
  · intro a w1 hS hb hd
    have e37 := hd ⟨3, .data⟩ (by simp) rfl _ _ rfl rfl
    have e37 : a.tmps[37]?.getD undef = (.bool q) := Rg.slot e37
    have e39 := hd ⟨5, .data⟩ (by simp) rfl _ _ rfl rfl
    cases q with
    | true =>
      have e39 : a.tmps[39]?.getD undef = (.bool o) := Rg.slot (e39 rfl)
      exact Rg.does_pure (Rg.wanted_none rfl) (by simp [execOp, e37, e39, go_sem]) hS (show Value.bool o = .bool r by rw [hr]; rfl)
    | false => exact Rg.does_pure (Rg.wanted_none rfl) (by simp [execOp, e37, go_sem]) hS (show Value.bool false = .bool r by rw [hr]; rfl)
  · intro a w1 hS hb hd
    have e40 := hd ⟨6, .data⟩ (by simp) rfl _ _ rfl rfl
    have e40 : a.tmps[40]?.getD undef = (.bool r) := Rg.slot e40
    exact Rg.does_pure (Rg.wanted_none rfl) (by simp [execOp, e40, go_sem]) hS rfl
  · intro a w1 hS hb hd
    have e2 := hb 2 (Rg.nw (by decide))
    simp [Act.eval] at e2
    have e41 := hd ⟨7, .guard⟩ (by simp) rfl _ _ rfl rfl
    cases r with
    | true =>
      exact Rg.does_pure (Rg.wanted_some rfl rfl rfl e41) (by simp [execOp, e2, (HU5.out.1.then_ hS).cells, go_sem]) hS (fun _ => rfl)
    | false => exact Or.inr ⟨Rg.unwanted rfl rfl rfl e41, fun h => by cases h⟩
  · intro a w1 hS hb hd
    have e2 := hb 2 (Rg.nw (by decide))
    simp [Act.eval] at e2
    have e41 := hd ⟨7, .guard⟩ (by simp) rfl _ _ rfl rfl
    cases r with
    | true =>
      exact Rg.does_pure (Rg.wanted_some rfl rfl rfl e41) (by simp [execOp, e2, (HU5.out.1.then_ hS).cells, go_sem]) hS (fun _ => rfl)
    | false => exact Or.inr ⟨Rg.unwanted rfl rfl rfl e41, fun h => by cases h⟩
  · intro a w1 hS hb hd
    have e42 := hd ⟨8, .data⟩ (by simp) rfl _ _ rfl rfl
    have e43 := hd ⟨9, .data⟩ (by simp) rfl _ _ rfl rfl
    have e41 := hd ⟨7, .guard⟩ (by simp) rfl _ _ rfl rfl
    cases r with
    | true =>
      have e42 : a.tmps[42]?.getD undef = (.agg #[.int .i64 k, .int .i64 p, .int .i32 c, .int .u32 x, .int .u64 y]) := Rg.slot (e42 rfl)
      have e43 : a.tmps[43]?.getD undef = (.agg #[.int .i64 k, .int .i64 p, .int .i32 c, .int .u32 x, .int .u64 y]) := Rg.slot (e43 rfl)
      refine Rg.does_call (f := 37) (args := #[.agg #[.int .i64 k, .int .i64 p, .int .i32 c, .int .u32 x, .int .u64 y], .agg #[.int .i64 k, .int .i64 p, .int .i32 c, .int .u32 x, .int .u64 y]]) (Rg.wanted_some rfl rfl rfl e41) (by simp [e42, e43, go_sem]) ?_
      exact ((H6 rfl w1).out).mono fun e w' ⟨h1, h2⟩ => ⟨_, h1, fun _ => rfl, below_then hS h2, h2⟩
    | false => exact Or.inr ⟨Rg.unwanted rfl rfl rfl e41, fun h => by cases h⟩
  · intro a w1 hS hb hd
    have e2 := hb 2 (Rg.nw (by decide))
    simp [Act.eval] at e2
    have e41 := hd ⟨7, .guard⟩ (by simp) rfl _ _ rfl rfl
    cases r with
    | true =>
      exact Rg.does_pure (Rg.wanted_some rfl rfl rfl e41) (by simp [execOp, e2, go_sem]) hS (fun _ => rfl)
    | false => exact Or.inr ⟨Rg.unwanted rfl rfl rfl e41, fun h => by cases h⟩
  · intro a w1 hS hb hd
    have e45 := hd ⟨11, .data⟩ (by simp) rfl _ _ rfl rfl
    have e41 := hd ⟨7, .guard⟩ (by simp) rfl _ _ rfl rfl
    cases r with
    | true =>
      have e45 : a.tmps[45]?.getD undef = (.pointer (some ⟨w.heap.size, 3, none⟩)) := Rg.slot (e45 rfl)
      exact Rg.does_pure (Rg.wanted_some rfl rfl rfl e41) (by simp [execOp, e45, (HU5.out.1.then_ hS).cells, go_sem]) hS (fun _ => rfl)
    | false => exact Or.inr ⟨Rg.unwanted rfl rfl rfl e41, fun h => by cases h⟩
  · intro a w1 hS hb hd
    have e46 := hd ⟨12, .data⟩ (by simp) rfl _ _ rfl rfl
    have e41 := hd ⟨7, .guard⟩ (by simp) rfl _ _ rfl rfl
    cases r with
    | true =>
      have e46 : a.tmps[46]?.getD undef = (.agg #[.int .u32 x, .int .u64 y]) := Rg.slot (e46 rfl)
      exact Rg.does_pure (Rg.wanted_some rfl rfl rfl e41) (by simp [execOp, e46, go_sem]) hS (fun _ => rfl)
    | false => exact Or.inr ⟨Rg.unwanted rfl rfl rfl e41, fun h => by cases h⟩
  · intro a w1 hS hb hd
    have e44 := hd ⟨10, .data⟩ (by simp) rfl _ _ rfl rfl
    have e47 := hd ⟨13, .data⟩ (by simp) rfl _ _ rfl rfl
    have e41 := hd ⟨7, .guard⟩ (by simp) rfl _ _ rfl rfl
    cases r with
    | true =>
      have e44 : a.tmps[44]?.getD undef = (.agg #[.int .i64 0, .int .i64 0, .int .i32 0, .int .u32 x, .int .u64 y]) := Rg.slot (e44 rfl)
      have e47 : a.tmps[47]?.getD undef = (.agg #[.int .i64 0, .int .i64 0, .int .i32 0, .int .u32 x, .int .u64 y]) := Rg.slot (e47 rfl)
      exact Rg.does_pure (Rg.wanted_some rfl rfl rfl e41) (by simp [execOp, e44, e47, neqZ, grdZ, go_sem]) hS (fun _ => rfl)
    | false => exact Or.inr ⟨Rg.unwanted rfl rfl rfl e41, fun h => by cases h⟩
  · intro a w1 hS hb hd
    have e41 := hd ⟨7, .data⟩ (by simp) rfl _ _ rfl rfl
    have e41 : a.tmps[41]?.getD undef = (.bool r) := Rg.slot e41
    have e48 := hd ⟨14, .data⟩ (by simp) rfl _ _ rfl rfl
    cases r with
    | true =>
      have e48 : a.tmps[48]?.getD undef = (.bool false) := Rg.slot (e48 rfl)
      exact Rg.does_pure (Rg.wanted_none rfl) (by simp [execOp, e41, e48, go_sem]) hS rfl
    | false => exact Rg.does_pure (Rg.wanted_none rfl) (by simp [execOp, e41, go_sem]) hS rfl
  intro v w6 hS hv
  have h15 : v 15 = .bool false := hv 15 _ _ rfl rfl
  have HB6 := Lib.hid (HB5.out.trans (hS.mono HB5.out.size))
  have HU6 := Lib.hid (And.intro (HU5.out.1.then_ hS) (HU5.out.2.1.then_ hS))
  simp only [Rg.putAll, Nat.zero_add, Nat.reduceAdd]
  simp only [Act.put, List.setIfInBounds_toArray, List.set_cons_succ, List.set_cons_zero]
  rw [h15]
  obtain ⟨a0, a1, a2, a3, a4⟩ := HU6.out.1.cells
  obtain ⟨b0, b1, b2, b3, b4⟩ := HU6.out.2.cells
  clear h15 hv hS HU5 HB5 H5 H6 neqZ grdZ hr hq
  go_wp2_with fail
  refine (HO _).out.mono ?_
  rintro e w7 ⟨rfl, hb7⟩
  have HB7 := Lib.hid (HB6.out.trans (hb7.mono HB6.out.size))
  have HU7 := Lib.hid (And.intro (HU6.out.1.then_ hb7) (HU6.out.2.then_ hb7))
  clear hb7 a0 a1 a2 a3 a4 b0 b1 b2 b3 b4 HU6 HB6 HO
  obtain ⟨a0, a1, a2, a3, a4⟩ := HU7.out.1.cells
  obtain ⟨b0, b1, b2, b3, b4⟩ := HU7.out.2.cells
  rcases HC.out with ⟨P, hP, hst⟩ | ⟨hk, hk', hp, hP⟩
  · rw [hP]
    simp only at hst ⊢
    obtain ⟨st, hs⟩ : ∃ st, st = wrap64 (P - p) := ⟨_, rfl⟩
    rw [← hs] at hst
    have HST := Lib.hid hst
    replace hs := hs.symm
    clear hP hst
    obtain ⟨W8, hW8⟩ : ∃ W8, W8 = w7.alloc (.cells #[.int .i64 k, .int .i64 P, .int .i32 c, .int .u32 x, .int .u64 y] 65) := ⟨_, rfl⟩
    have HB8 := Lib.hid (show Below w.heap.size w W8 by rw [hW8]; exact below_alloc HB7.out _)
    have HU8 := Lib.hid (show UAt W8 w.heap.size k p c x y ∧ UAt W8 (w.heap.size + 1) k' p' c' x' y' ∧ UAt W8 w7.heap.size k P c x y from by
      rw [hW8]; exact ⟨HU7.out.1.alloc _, HU7.out.2.alloc _, heap_new rfl⟩)
    go_upto_region 7 with fail
    rw [← hW8]
    clear hW8 a0 a1 a2 a3 a4 b0 b1 b2 b3 b4 HB7
    obtain ⟨W9, hW9⟩ : ∃ W9, W9 = W8.alloc (.cells #[.int .i64 k, .int .i64 p, .int .i32 c, .int .u32 x, .int .u64 y] 65) := ⟨_, rfl⟩
    have HB9 := Lib.hid (show Below w.heap.size w W9 by rw [hW9]; exact below_alloc HB8.out _)
    have HU9 := Lib.hid (show UAt W9 w.heap.size k p c x y ∧ UAt W9 (w.heap.size + 1) k' p' c' x' y' ∧ UAt W9 w7.heap.size k P c x y ∧ UAt W9 W8.heap.size k p c x y from by
      rw [hW9]; exact ⟨HU8.out.1.alloc _, HU8.out.2.1.alloc _, HU8.out.2.2.alloc _, heap_new rfl⟩)
    obtain ⟨a0, a1, a2, a3, a4⟩ := HU8.out.1.cells
    obtain ⟨c0, c1, c2, c3, c4⟩ := HU8.out.2.2.cells
    obtain ⟨d0, d1, d2, d3, d4⟩ := (HU8.out.1.alloc (.cells #[.int .i64 k, .int .i64 P, .int .i32 c, .int .u32 x, .int .u64 y] 65)).cells
    go_upto_region 11 with fail
    rw [← hW9]
    clear hW9 a0 a1 a2 a3 a4 c0 c1 c2 c3 c4 d0 d1 d2 d3 d4 HB8 HU8
    obtain ⟨a0, a1, a2, a3, a4⟩ := HU9.out.1.cells
    obtain ⟨b0, b1, b2, b3, b4⟩ := HU9.out.2.1.cells
    obtain ⟨c0, c1, c2, c3, c4⟩ := HU9.out.2.2.1.cells
    obtain ⟨d0, d1, d2, d3, d4⟩ := HU9.out.2.2.2.cells
    have neqA := fun w => neq_unit k p c x y k p c x y w
    have grdA := fun o1 o2 w => guard_unit .neq o1 o2 #[.int .i64 k, .int .i64 p, .int .i32 c, .int .u32 x, .int .u64 y] #[.int .i64 k, .int .i64 p, .int .i32 c, .int .u32 x, .int .u64 y] w
    simp only [decide_true, Bool.not_true] at neqA
    rcases HST.out with h0 | ⟨h1 | h1, h2, h3, h4⟩
    · subst h0
      go_wp2_with fail
      refine (wakes_any _).mono ?_
      rintro e w9 ⟨rfl, hb9⟩
      have HB9 := Lib.hid (HB9.out.trans (hb9.mono HB9.out.size))
      clear hb9
      go_wp2_with fail
      go_ret
      exact ⟨rfl, HB9.out⟩
    · rw [decide_eq_true h2] at HMa
      rw [decide_eq_true h3] at HMb
      rw [show (if k' = 1 then (1 : Int) else if k' = 2 then -1 else 0) = 1 from h4.trans h1] at HGb
      subst h1
      clear h2 h3 h4
      go_wp2_with fail
      refine (HMa _).out.mono ?_
      rintro e w10 ⟨rfl, hb10⟩
      have HB10 := Lib.hid (HB9.out.trans (hb10.mono HB9.out.size))
      obtain ⟨e0, e1, e2, e3, e4⟩ := (HU9.out.2.1.then_ hb10).cells
      have HU10 := Lib.hid (HU9.out.2.1.then_ hb10)
      clear hb10 a0 a1 a2 a3 a4 b0 b1 b2 b3 b4 c0 c1 c2 c3 c4 d0 d1 d2 d3 d4
      go_wp2_with fail
      refine (HMb _).out.mono ?_
      rintro e w11 ⟨rfl, hb11⟩
      have HB11 := Lib.hid (HB10.out.trans (hb11.mono HB10.out.size))
      obtain ⟨f0, f1, f2, f3, f4⟩ := (HU10.out.then_ hb11).cells
      clear hb11 e0 e1 e2 e3 e4
      go_wp2_with fail
      refine (HGb _).out.mono ?_
      rintro e w12 ⟨rfl, hb12⟩
      have HB12 := Lib.hid (HB11.out.trans (hb12.mono HB11.out.size))
      clear hb12 f0 f1 f2 f3 f4
      go_wp2_with fail
      refine (wakes_any _).mono ?_
      rintro e w9 ⟨rfl, hb9⟩
      have HB9 := Lib.hid (HB12.out.trans (hb9.mono HB12.out.size))
      clear hb9
      go_wp2_with fail
      go_ret
      exact ⟨rfl, HB9.out⟩
    · rw [decide_eq_true h2] at HMa
      rw [decide_eq_true h3] at HMb
      rw [show (if k' = 1 then (1 : Int) else if k' = 2 then -1 else 0) = -1 from h4.trans h1] at HGb
      subst h1
      clear h2 h3 h4
      go_wp2_with fail
      refine (HMa _).out.mono ?_
      rintro e w10 ⟨rfl, hb10⟩
      have HB10 := Lib.hid (HB9.out.trans (hb10.mono HB9.out.size))
      obtain ⟨e0, e1, e2, e3, e4⟩ := (HU9.out.2.1.then_ hb10).cells
      have HU10 := Lib.hid (HU9.out.2.1.then_ hb10)
      clear hb10 a0 a1 a2 a3 a4 b0 b1 b2 b3 b4 c0 c1 c2 c3 c4 d0 d1 d2 d3 d4
      go_wp2_with fail
      refine (HMb _).out.mono ?_
      rintro e w11 ⟨rfl, hb11⟩
      have HB11 := Lib.hid (HB10.out.trans (hb11.mono HB10.out.size))
      obtain ⟨f0, f1, f2, f3, f4⟩ := (HU10.out.then_ hb11).cells
      clear hb11 e0 e1 e2 e3 e4
      go_wp2_with fail
      refine (HGb _).out.mono ?_
      rintro e w12 ⟨rfl, hb12⟩
      have HB12 := Lib.hid (HB11.out.trans (hb12.mono HB11.out.size))
      clear hb12 f0 f1 f2 f3 f4
      go_wp2_with fail
      refine (wakes_any _).mono ?_
      rintro e w9 ⟨rfl, hb9⟩
      have HB9 := Lib.hid (HB12.out.trans (hb9.mono HB12.out.size))
      clear hb9
      go_wp2_with fail
      go_ret
      exact ⟨rfl, HB9.out⟩
  · subst hk hk' hp
    rw [hP]
    obtain ⟨W8, hW8⟩ : ∃ W8, W8 = w7.alloc (.cells #[.int .i64 0, .int .i64 0, .int .i32 0, .int .u32 x, .int .u64 y] 65) := ⟨_, rfl⟩
    have HB8 := Lib.hid (show Below w.heap.size w W8 by rw [hW8]; exact below_alloc HB7.out _)
    have HU8 := Lib.hid (show UAt W8 w.heap.size 2 p c x y ∧ UAt W8 (w.heap.size + 1) 2 p c' x' y' ∧ UAt W8 w7.heap.size 0 0 0 x y from by
      rw [hW8]; exact ⟨HU7.out.1.alloc _, HU7.out.2.alloc _, heap_new rfl⟩)
    go_upto_region 7 with fail
    rw [← hW8]
    clear hW8 a0 a1 a2 a3 a4 b0 b1 b2 b3 b4 HB7
    obtain ⟨a0, a1, a2, a3, a4⟩ := HU8.out.1.cells
    obtain ⟨b0, b1, b2, b3, b4⟩ := HU8.out.2.1.cells
    obtain ⟨c0, c1, c2, c3, c4⟩ := HU8.out.2.2.cells
    go_wp2_with fail
    refine (wakes_any _).mono ?_
    rintro e w9 ⟨rfl, hb9⟩
    have HB9 := Lib.hid (HB8.out.trans (hb9.mono HB8.out.size))
    clear hb9
    go_wp2_with fail
    go_ret
    exact ⟨rfl, HB9.out⟩
end Go.Proofs.Ytogmddneimhpeaa.unitNops
