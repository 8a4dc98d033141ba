/-
  The walk of UndoKnown: it returns true; nothing that was there turned. No conditions.
-/
import Derived.Test.YtlnekhkdncccgaaUnH
namespace Go.Proofs.Ytlnekhkdncccgaa
open Go.RowKit
open Pl (Un)

namespace undoKnown
theorem k1 : Pl.longL [⟨2, 0, 0, 0, 0⟩] ((0 : Nat) : Int) = (0, 30) := by decide +kernel
theorem k2 : Pl.longL [⟨7, 0, 0, 0, 0⟩] ((0 : Nat) : Int) = (0, 1) := by decide +kernel
theorem k3 : Pl.invR 1 7 [⟨0, 0, 0, 2, 1⟩] = [⟨0, 0, 0, 1, 7⟩] := by decide +kernel
theorem k4 : Pl.cleanL [⟨0, 0, 0, 1, 7⟩] = [] := by decide +kernel
theorem k5 : Pl.cleanL (Pl.pastR (Pl.invR 1 7 []) [[], []]) = [] := by decide +kernel
/-- an empty row -/
def Em (v : Value) (_ : World) : Prop := ∃ A c, v = .slice A 0 c
theorem Em.stb : Rg.Stb Em := fun _ _ _ h _ => h
set_option maxRecDepth 100000 in
set_option maxHeartbeats 4000000 in
theorem walk (w : World) : Calls Try.prog 8 #[] w fun e w' => e = .returned (.bool true) ∧ Below w.heap.size w w' := by
  go_enter Try.func8, Try.ntmps8
  obtain ⟨w_1, hw⟩ : ∃ x, x = w.alloc (.cells #[.int .i64 2, .int .i64 0, .int .i32 0, .int .u32 0, .int .u64 0] 42) := ⟨_, rfl⟩
  have hx : OwnU (w.alloc (.cells #[.int .i64 2, .int .i64 0, .int .i32 0, .int .u32 0, .int .u64 0] 42)) w.heap.size (.slice (some ⟨w.heap.size, 0, none⟩) 1 1) [⟨2, 0, 0, 0, 0⟩] := units_lit w [⟨2, 0, 0, 0, 0⟩] (by simp [maxLen])
  have hb : Below w.heap.size w w_1 := by rw [hw]; exact below_box _ _
  rw [← hw] at hx
  have HWw_1 := Lib.hid hw
  have HSw_1 := Lib.hid (show w_1.heap.size = w.heap.size + 1 by rw [hw]; simp)
  have HB_2 := Lib.hid (hb)
  have R_3 := Lib.hid (hx)
  clear hw hx hb
  go_wp2_with fail
  rw [← HWw_1.out]
  refine ((fill_bad _ 1 1 _ none 0 0 w_1 (OwnU.uns R_3.out) (by decide) (by decide) 30 0 k1 (by decide))).mono ?_
  rintro e w_4 ⟨rfl, hb⟩
  clear R_3
  have HB_5 := Lib.hid (below_then' HB_2.out hb HB_2.out.size)
  clear HB_2
  clear hb
  obtain ⟨w_6, hw⟩ : ∃ x, x = w_4.alloc (.cells #[.int .i64 7, .int .i64 0, .int .i32 0, .int .u32 0, .int .u64 0] 42) := ⟨_, rfl⟩
  have hx : OwnU (w_4.alloc (.cells #[.int .i64 7, .int .i64 0, .int .i32 0, .int .u32 0, .int .u64 0] 42)) w_4.heap.size (.slice (some ⟨w_4.heap.size, 0, none⟩) 1 1) [⟨7, 0, 0, 0, 0⟩] := units_lit w_4 [⟨7, 0, 0, 0, 0⟩] (by simp [maxLen])
  have hb : Below w_4.heap.size w_4 w_6 := by rw [hw]; exact below_box _ _
  rw [← hw] at hx
  have HWw_6 := Lib.hid hw
  have HSw_6 := Lib.hid (show w_6.heap.size = w_4.heap.size + 1 by rw [hw]; simp)
  have HB_7 := Lib.hid (below_then' HB_5.out hb HB_5.out.size)
  clear HB_5
  have R_8 := Lib.hid (hx)
  clear hw hx hb
  go_wp2_with fail
  rw [← HWw_6.out]
  refine ((fill_bad _ 1 1 _ none 0 0 w_6 (OwnU.uns R_8.out) (by decide) (by decide) 1 0 k2 (by decide))).mono ?_
  rintro e w_9 ⟨rfl, hb⟩
  clear R_8
  have HB_10 := Lib.hid (below_then' HB_7.out hb HB_7.out.size)
  clear HB_7
  clear hb
  go_wp2_with fail
  refine ((fill_any none 0 0 [] none 0 0 [] w_9 (Rws.none_ _ _ _) (Crs.none_ _ _) (by decide) (by decide) trivial)).mono ?_
  rintro e w_11 ⟨A1, c1, rfl, ho, hb⟩
  have HB_12 := Lib.hid (below_then' HB_10.out hb HB_10.out.size)
  clear HB_10
  clear hb ho
  simp only [List.length_nil]
  go_wp2_with fail
  refine ((you_any w_11)).mono ?_
  rintro e w_13 ⟨rfl, hb⟩
  have HB_14 := Lib.hid (below_then' HB_12.out hb HB_12.out.size)
  clear HB_12
  clear hb
  obtain ⟨w_15, hw⟩ : ∃ x, x = w_13.alloc (.cells #[.int .i64 0, .int .i64 0, .int .i32 0, .int .u32 2, .int .u64 1] 42) := ⟨_, rfl⟩
  have hx : OwnU (w_13.alloc (.cells #[.int .i64 0, .int .i64 0, .int .i32 0, .int .u32 2, .int .u64 1] 42)) w_13.heap.size (.slice (some ⟨w_13.heap.size, 0, none⟩) 1 1) [⟨0, 0, 0, 2, 1⟩] := units_lit w_13 [⟨0, 0, 0, 2, 1⟩] (by simp [maxLen])
  have hb : Below w_13.heap.size w_13 w_15 := by rw [hw]; exact below_box _ _
  rw [← hw] at hx
  have HWw_15 := Lib.hid hw
  have HSw_15 := Lib.hid (show w_15.heap.size = w_13.heap.size + 1 by rw [hw]; simp)
  have HB_16 := Lib.hid (below_then' HB_14.out hb HB_14.out.size)
  clear HB_14
  have R_17 := Lib.hid (hx)
  clear hw hx hb
  go_wp2_with fail
  rw [← HWw_15.out]
  refine ((me_any w_15)).mono ?_
  rintro e w_18 ⟨rfl, hb⟩
  have R_19 := Lib.hid (OwnR.then_ R_17.out hb)
  have HB_20 := Lib.hid (below_then' HB_16.out hb HB_16.out.size)
  clear R_17 HB_16
  clear hb
  go_wp2_with fail
  refine ((inverse_any _ 1 1 _ 1 7 w_18 (OwnU.uns R_19.out) (by decide))).mono ?_
  rintro e w_21 ⟨A2, c2, rfl, ho, hb⟩
  rw [k3] at ho ⊢
  simp only [List.length_cons, List.length_nil, Nat.zero_add] at ho ⊢
  obtain ⟨g2, rfl⟩ := ho.block (by decide)
  clear R_19
  have HB_22 := Lib.hid (below_then' HB_20.out hb HB_20.out.size)
  clear HB_20
  have I_23 := Lib.hid (ho)
  clear hb ho
  go_wp2_with fail
  have I0 := I_23
  have HBW := HB_22
  obtain ⟨W9, hW9⟩ : ∃ x, x = w_21 := ⟨_, rfl⟩
  rw [← hW9] at I0 HBW ⊢
  clear hW9 I_23 HB_22
  refine Rg.wp_region_inv (fun w' => Below W9.heap.size W9 w') (Rg.Wd.at [.is (.bool true), .is (.bool true), .is (.int .i64 30), .is (.bool true), .is (.bool true), .is (.bool true), .is (.int .i64 1), .is (.bool true), .is (.bool true), .is (.bool true), .is (.int .i64 0), .is (.bool true), .is (.bool true), .is (.bool true), .is (.slice A1 0 c1), .is (.int .i64 (0 : Int)), .is (.bool true), .is (.bool true), .is (.bool true), .is (.slice (some ⟨g2, 0, none⟩) 1 c2), .is (.int .i64 (1 : Int)), .is (.bool true), .is (.bool true), .is (.bool true), .is (.slice (some ⟨g2, 0, none⟩) 1 c2), .is (.pointer (some ⟨g2, 0, none⟩)), .is (.agg #[.int .i64 0, .int .i64 0, .int .i32 0, .int .u32 1, .int .u64 7]), .is (.agg #[.int .u32 1, .int .u64 7]), .is (.agg #[.int .i64 0, .int .i64 0, .int .i32 0, .int .u32 1, .int .u64 7]), .is (.bool true), .is (.bool true), .is (.bool true), .is (.slice (some ⟨g2, 0, none⟩) 1 c2), .pred Em Em.stb, .is (.int .i64 0), .is (.bool true), .is (.bool true), .is (.bool true), .is (.agg #[.int .u32 1, .int .u64 7]), .pred Em Em.stb, .is (.int .i64 0), .is (.bool true), .is (.bool true), .is (.bool true), .is (.agg #[.int .u32 1, .int .u64 7]), .pred (RowsU [⟨none, 0, 0, []⟩, ⟨none, 0, 0, []⟩]) RowsU.stb, .pred Em Em.stb, .is (.int .i64 0), .is (.bool true), .is (.bool true), .is (.bool true)]) (by kernel_rfl) (by kernel_rfl) (Rg.Wd.stays _ _) (below_drawn (Below.refl _ _)) ⟨?_, ?_, ?_, ?_, ?_, ?_, ?_, ?_, ?_, ?_, ?_, ?_, ?_, ?_, ?_, ?_, ?_, ?_, ?_, ?_, ?_, ?_, ?_, ?_, ?_, ?_, ?_, ?_, ?_, ?_, ?_, ?_, ?_, ?_, ?_, ?_, ?_, ?_, ?_, ?_, ?_, ?_, ?_, ?_, ?_, ?_, ?_, ?_, ?_, ?_, ?_, trivial⟩ ?_
  · intro a w1 hS hb hd
    refine Rg.does_call (f := 20) (args := #[]) (Rg.wanted_none rfl) (by simp [go_sem]) ?_
    exact (awake_any w1).mono fun e w3 ⟨h1, h2⟩ => ⟨_, h1, rfl, below_then hS h2, h2⟩
  · intro a w1 hS hb hd
    have e29 := hd ⟨0, .data⟩ (by simp) rfl _ _ rfl rfl
    have e29 : a.tmps[29]?.getD undef = (.bool true) := Rg.slot e29
    exact Rg.does_pure (Rg.wanted_none rfl) (by simp [execOp, e29, go_sem]) hS rfl
  · intro a w1 hS hb hd
    have e2 := hb 2 (Rg.nw (by decide))
    simp [Act.eval] at e2
    have e30 := hd ⟨1, .guard⟩ (by simp) rfl _ _ rfl rfl
    exact Rg.does_pure (Rg.wanted_some rfl rfl rfl e30) (by simp [execOp, e2, go_sem]) hS rfl
  · intro a w1 hS hb hd
    have e31 := hd ⟨2, .data⟩ (by simp) rfl _ _ rfl rfl
    have e31 : a.tmps[31]?.getD undef = (.int .i64 30) := Rg.slot e31
    have e30 := hd ⟨1, .guard⟩ (by simp) rfl _ _ rfl rfl
    exact Rg.does_pure (Rg.wanted_some rfl rfl rfl e30) (by simp [execOp, e31, go_sem]) hS rfl
  · intro a w1 hS hb hd
    have e30 := hd ⟨1, .data⟩ (by simp) rfl _ _ rfl rfl
    have e30 : a.tmps[30]?.getD undef = (.bool true) := Rg.slot e30
    have e32 := hd ⟨3, .data⟩ (by simp) rfl _ _ rfl rfl
    have e32 : a.tmps[32]?.getD undef = (.bool true) := Rg.slot e32
    exact Rg.does_pure (Rg.wanted_none rfl) (by simp [execOp, e30, e32, go_sem]) hS rfl
  · intro a w1 hS hb hd
    have e33 := hd ⟨4, .data⟩ (by simp) rfl _ _ rfl rfl
    have e33 : a.tmps[33]?.getD undef = (.bool true) := Rg.slot e33
    exact Rg.does_pure (Rg.wanted_none rfl) (by simp [execOp, e33, go_sem]) hS rfl
  · intro a w1 hS hb hd
    have e4 := hb 4 (Rg.nw (by decide))
    simp [Act.eval] at e4
    have e34 := hd ⟨5, .guard⟩ (by simp) rfl _ _ rfl rfl
    exact Rg.does_pure (Rg.wanted_some rfl rfl rfl e34) (by simp [execOp, e4, go_sem]) hS rfl
  · intro a w1 hS hb hd
    have e35 := hd ⟨6, .data⟩ (by simp) rfl _ _ rfl rfl
    have e35 : a.tmps[35]?.getD undef = (.int .i64 1) := Rg.slot e35
    have e34 := hd ⟨5, .guard⟩ (by simp) rfl _ _ rfl rfl
    exact Rg.does_pure (Rg.wanted_some rfl rfl rfl e34) (by simp [execOp, e35, go_sem]) hS rfl
  · intro a w1 hS hb hd
    have e34 := hd ⟨5, .data⟩ (by simp) rfl _ _ rfl rfl
    have e34 : a.tmps[34]?.getD undef = (.bool true) := Rg.slot e34
    have e36 := hd ⟨7, .data⟩ (by simp) rfl _ _ rfl rfl
    have e36 : a.tmps[36]?.getD undef = (.bool true) := Rg.slot e36
    exact Rg.does_pure (Rg.wanted_none rfl) (by simp [execOp, e34, e36, go_sem]) hS rfl
  · intro a w1 hS hb hd
    have e37 := hd ⟨8, .data⟩ (by simp) rfl _ _ rfl rfl
    have e37 : a.tmps[37]?.getD undef = (.bool true) := Rg.slot e37
    exact Rg.does_pure (Rg.wanted_none rfl) (by simp [execOp, e37, go_sem]) hS rfl
  · intro a w1 hS hb hd
    have e6 := hb 6 (Rg.nw (by decide))
    simp [Act.eval] at e6
    have e38 := hd ⟨9, .guard⟩ (by simp) rfl _ _ rfl rfl
    exact Rg.does_pure (Rg.wanted_some rfl rfl rfl e38) (by simp [execOp, e6, go_sem]) hS rfl
  · intro a w1 hS hb hd
    have e39 := hd ⟨10, .data⟩ (by simp) rfl _ _ rfl rfl
    have e39 : a.tmps[39]?.getD undef = (.int .i64 0) := Rg.slot e39
    have e38 := hd ⟨9, .guard⟩ (by simp) rfl _ _ rfl rfl
    exact Rg.does_pure (Rg.wanted_some rfl rfl rfl e38) (by simp [execOp, e39, go_sem]) hS rfl
  · intro a w1 hS hb hd
    have e38 := hd ⟨9, .data⟩ (by simp) rfl _ _ rfl rfl
    have e38 : a.tmps[38]?.getD undef = (.bool true) := Rg.slot e38
    have e40 := hd ⟨11, .data⟩ (by simp) rfl _ _ rfl rfl
    have e40 : a.tmps[40]?.getD undef = (.bool true) := Rg.slot e40
    exact Rg.does_pure (Rg.wanted_none rfl) (by simp [execOp, e38, e40, go_sem]) hS rfl
  · intro a w1 hS hb hd
    have e41 := hd ⟨12, .data⟩ (by simp) rfl _ _ rfl rfl
    have e41 : a.tmps[41]?.getD undef = (.bool true) := Rg.slot e41
    exact Rg.does_pure (Rg.wanted_none rfl) (by simp [execOp, e41, go_sem]) hS rfl
  · intro a w1 hS hb hd
    have e5 := hb 5 (Rg.nw (by decide))
    simp [Act.eval] at e5
    have e42 := hd ⟨13, .guard⟩ (by simp) rfl _ _ rfl rfl
    exact Rg.does_pure (Rg.wanted_some rfl rfl rfl e42) (by simp [execOp, e5, go_sem]) hS rfl
  · intro a w1 hS hb hd
    have e43 := hd ⟨14, .data⟩ (by simp) rfl _ _ rfl rfl
    have e43 : a.tmps[43]?.getD undef = (.slice A1 0 c1) := Rg.slot e43
    have e42 := hd ⟨13, .guard⟩ (by simp) rfl _ _ rfl rfl
    exact Rg.does_pure (Rg.wanted_some rfl rfl rfl e42) (by simp [e43, go_sem]) hS rfl
  · intro a w1 hS hb hd
    have e44 := hd ⟨15, .data⟩ (by simp) rfl _ _ rfl rfl
    have e44 : a.tmps[44]?.getD undef = (.int .i64 (0 : Int)) := Rg.slot e44
    have e42 := hd ⟨13, .guard⟩ (by simp) rfl _ _ rfl rfl
    exact Rg.does_pure (Rg.wanted_some rfl rfl rfl e42) (by simp [execOp, e44, go_sem]) hS rfl
  · intro a w1 hS hb hd
    have e42 := hd ⟨13, .data⟩ (by simp) rfl _ _ rfl rfl
    have e42 : a.tmps[42]?.getD undef = (.bool true) := Rg.slot e42
    have e45 := hd ⟨16, .data⟩ (by simp) rfl _ _ rfl rfl
    have e45 : a.tmps[45]?.getD undef = (.bool true) := Rg.slot e45
    exact Rg.does_pure (Rg.wanted_none rfl) (by simp [execOp, e42, e45, go_sem]) hS rfl
  · intro a w1 hS hb hd
    have e46 := hd ⟨17, .data⟩ (by simp) rfl _ _ rfl rfl
    have e46 : a.tmps[46]?.getD undef = (.bool true) := Rg.slot e46
    exact Rg.does_pure (Rg.wanted_none rfl) (by simp [execOp, e46, go_sem]) hS rfl
  · intro a w1 hS hb hd
    have e7 := hb 7 (Rg.nw (by decide))
    simp [Act.eval] at e7
    have e47 := hd ⟨18, .guard⟩ (by simp) rfl _ _ rfl rfl
    exact Rg.does_pure (Rg.wanted_some rfl rfl rfl e47) (by simp [execOp, e7, go_sem]) hS rfl
  · intro a w1 hS hb hd
    have e48 := hd ⟨19, .data⟩ (by simp) rfl _ _ rfl rfl
    have e48 : a.tmps[48]?.getD undef = (.slice (some ⟨g2, 0, none⟩) 1 c2) := Rg.slot e48
    have e47 := hd ⟨18, .guard⟩ (by simp) rfl _ _ rfl rfl
    exact Rg.does_pure (Rg.wanted_some rfl rfl rfl e47) (by simp [e48, go_sem]) hS rfl
  · intro a w1 hS hb hd
    have e49 := hd ⟨20, .data⟩ (by simp) rfl _ _ rfl rfl
    have e49 : a.tmps[49]?.getD undef = (.int .i64 (1 : Int)) := Rg.slot e49
    have e47 := hd ⟨18, .guard⟩ (by simp) rfl _ _ rfl rfl
    exact Rg.does_pure (Rg.wanted_some rfl rfl rfl e47) (by simp [execOp, e49, go_sem]) hS rfl
  · intro a w1 hS hb hd
    have e47 := hd ⟨18, .data⟩ (by simp) rfl _ _ rfl rfl
    have e47 : a.tmps[47]?.getD undef = (.bool true) := Rg.slot e47
    have e50 := hd ⟨21, .data⟩ (by simp) rfl _ _ rfl rfl
    have e50 : a.tmps[50]?.getD undef = (.bool true) := Rg.slot e50
    exact Rg.does_pure (Rg.wanted_none rfl) (by simp [execOp, e47, e50, go_sem]) hS rfl
  · intro a w1 hS hb hd
    have e51 := hd ⟨22, .data⟩ (by simp) rfl _ _ rfl rfl
    have e51 : a.tmps[51]?.getD undef = (.bool true) := Rg.slot e51
    exact Rg.does_pure (Rg.wanted_none rfl) (by simp [execOp, e51, go_sem]) hS rfl
  · intro a w1 hS hb hd
    have e7 := hb 7 (Rg.nw (by decide))
    simp [Act.eval] at e7
    have e52 := hd ⟨23, .guard⟩ (by simp) rfl _ _ rfl rfl
    exact Rg.does_pure (Rg.wanted_some rfl rfl rfl e52) (by simp [execOp, e7, go_sem]) hS rfl
  · intro a w1 hS hb hd
    have e53 := hd ⟨24, .data⟩ (by simp) rfl _ _ rfl rfl
    have e53 : a.tmps[53]?.getD undef = (.slice (some ⟨g2, 0, none⟩) 1 c2) := Rg.slot e53
    have e52 := hd ⟨23, .guard⟩ (by simp) rfl _ _ rfl rfl
    exact Rg.does_pure (Rg.wanted_some rfl rfl rfl e52) (by simp [execOp, e53, go_sem]) hS rfl
  · intro a w1 hS hb hd
    have e54 := hd ⟨25, .data⟩ (by simp) rfl _ _ rfl rfl
    have e54 : a.tmps[54]?.getD undef = (.pointer (some ⟨g2, 0, none⟩)) := Rg.slot e54
    have e52 := hd ⟨23, .guard⟩ (by simp) rfl _ _ rfl rfl
    obtain ⟨d0, d1, d2, d3, d4, _⟩ := OwnU.cells (OwnR.then_ I0.out hS) (i := 0) (by decide); simp at d0 d1 d2 d3 d4; exact Rg.does_pure (Rg.wanted_some rfl rfl rfl e52) (by simp [execOp, e54, d0, d1, d2, d3, d4, go_sem]) hS rfl
  · intro a w1 hS hb hd
    have e52 := hd ⟨23, .guard⟩ (by simp) rfl _ _ rfl rfl
    refine Rg.does_call (f := 13) (args := #[]) (Rg.wanted_some rfl rfl rfl e52) (by simp [go_sem]) ?_
    exact (me_any w1).mono fun e w3 ⟨h1, h2⟩ => ⟨_, h1, rfl, below_then hS h2, h2⟩
  · intro a w1 hS hb hd
    have e56 := hd ⟨27, .data⟩ (by simp) rfl _ _ rfl rfl
    have e56 : a.tmps[56]?.getD undef = (.agg #[.int .u32 1, .int .u64 7]) := Rg.slot e56
    have e52 := hd ⟨23, .guard⟩ (by simp) rfl _ _ rfl rfl
    exact Rg.does_pure (Rg.wanted_some rfl rfl rfl e52) (by simp [execOp, e56, go_sem]) hS rfl
  · intro a w1 hS hb hd
    have e55 := hd ⟨26, .data⟩ (by simp) rfl _ _ rfl rfl
    have e55 : a.tmps[55]?.getD undef = (.agg #[.int .i64 0, .int .i64 0, .int .i32 0, .int .u32 1, .int .u64 7]) := Rg.slot e55
    have e57 := hd ⟨28, .data⟩ (by simp) rfl _ _ rfl rfl
    have e57 : a.tmps[57]?.getD undef = (.agg #[.int .i64 0, .int .i64 0, .int .i32 0, .int .u32 1, .int .u64 7]) := Rg.slot e57
    have e52 := hd ⟨23, .guard⟩ (by simp) rfl _ _ rfl rfl
    exact Rg.does_pure (Rg.wanted_some rfl rfl rfl e52) (by simp [execOp, e55, e57, (guard_unit .eql), go_sem]) hS rfl
  · intro a w1 hS hb hd
    have e52 := hd ⟨23, .data⟩ (by simp) rfl _ _ rfl rfl
    have e52 : a.tmps[52]?.getD undef = (.bool true) := Rg.slot e52
    have e58 := hd ⟨29, .data⟩ (by simp) rfl _ _ rfl rfl
    have e58 : a.tmps[58]?.getD undef = (.bool true) := Rg.slot e58
    exact Rg.does_pure (Rg.wanted_none rfl) (by simp [execOp, e52, e58, go_sem]) hS rfl
  · intro a w1 hS hb hd
    have e59 := hd ⟨30, .data⟩ (by simp) rfl _ _ rfl rfl
    have e59 : a.tmps[59]?.getD undef = (.bool true) := Rg.slot e59
    exact Rg.does_pure (Rg.wanted_none rfl) (by simp [execOp, e59, go_sem]) hS rfl
  · intro a w1 hS hb hd
    have e7 := hb 7 (Rg.nw (by decide))
    simp [Act.eval] at e7
    have e60 := hd ⟨31, .guard⟩ (by simp) rfl _ _ rfl rfl
    exact Rg.does_pure (Rg.wanted_some rfl rfl rfl e60) (by simp [execOp, e7, go_sem]) hS rfl
  · intro a w1 hS hb hd
    have e61 := hd ⟨32, .data⟩ (by simp) rfl _ _ rfl rfl
    have e61 : a.tmps[61]?.getD undef = (.slice (some ⟨g2, 0, none⟩) 1 c2) := Rg.slot e61
    have e60 := hd ⟨31, .guard⟩ (by simp) rfl _ _ rfl rfl
    refine Rg.does_call (f := 14) (args := #[.slice (some ⟨g2, 0, none⟩) 1 c2]) (Rg.wanted_some rfl rfl rfl e60) (by simp [e61, go_sem]) ?_; exact (clean_any _ 1 c2 _ w1 (OwnU.uns (OwnR.then_ I0.out hS)) (by decide)).mono fun e w3 ⟨A3, c3, h1, _, h2⟩ => ⟨_, h1, ⟨A3, c3, by simp only [k4]; rfl⟩, below_then hS h2, h2⟩
  · intro a w1 hS hb hd
    have e62 := hd ⟨33, .data⟩ (by simp) rfl _ _ rfl rfl
    have e60 := hd ⟨31, .guard⟩ (by simp) rfl _ _ rfl rfl
    obtain ⟨A3, c3, eg⟩ := e62; have eh := Rg.slot eg; exact Rg.does_pure (Rg.wanted_some rfl rfl rfl e60) (by simp [eh, go_sem]) hS rfl
  · intro a w1 hS hb hd
    have e63 := hd ⟨34, .data⟩ (by simp) rfl _ _ rfl rfl
    have e63 : a.tmps[63]?.getD undef = (.int .i64 0) := Rg.slot e63
    have e60 := hd ⟨31, .guard⟩ (by simp) rfl _ _ rfl rfl
    exact Rg.does_pure (Rg.wanted_some rfl rfl rfl e60) (by simp [execOp, e63, go_sem]) hS rfl
  · intro a w1 hS hb hd
    have e60 := hd ⟨31, .data⟩ (by simp) rfl _ _ rfl rfl
    have e60 : a.tmps[60]?.getD undef = (.bool true) := Rg.slot e60
    have e64 := hd ⟨35, .data⟩ (by simp) rfl _ _ rfl rfl
    have e64 : a.tmps[64]?.getD undef = (.bool true) := Rg.slot e64
    exact Rg.does_pure (Rg.wanted_none rfl) (by simp [execOp, e60, e64, go_sem]) hS rfl
  · intro a w1 hS hb hd
    have e65 := hd ⟨36, .data⟩ (by simp) rfl _ _ rfl rfl
    have e65 : a.tmps[65]?.getD undef = (.bool true) := Rg.slot e65
    exact Rg.does_pure (Rg.wanted_none rfl) (by simp [execOp, e65, go_sem]) hS rfl
  · intro a w1 hS hb hd
    have e66 := hd ⟨37, .guard⟩ (by simp) rfl _ _ rfl rfl
    refine Rg.does_call (f := 13) (args := #[]) (Rg.wanted_some rfl rfl rfl e66) (by simp [go_sem]) ?_
    exact (me_any w1).mono fun e w3 ⟨h1, h2⟩ => ⟨_, h1, rfl, below_then hS h2, h2⟩
  · intro a w1 hS hb hd
    have e67 := hd ⟨38, .data⟩ (by simp) rfl _ _ rfl rfl
    have e67 : a.tmps[67]?.getD undef = (.agg #[.int .u32 1, .int .u64 7]) := Rg.slot e67
    have e66 := hd ⟨37, .guard⟩ (by simp) rfl _ _ rfl rfl
    refine Rg.does_call (f := 12) (args := #[.slice none 0 0, .agg #[.int .u32 1, .int .u64 7]]) (Rg.wanted_some rfl rfl rfl e66) (by simp [e67, go_sem]) ?_; exact (inverse_any none 0 0 [] 1 7 w1 (Rws.none_ _ _ _) (by decide)).mono fun e w3 ⟨A3, c3, h1, _, h2⟩ => ⟨_, h1, ⟨A3, c3, by simp only [Pl.inv_len, List.length_nil]⟩, below_then hS h2, h2⟩
  · intro a w1 hS hb hd
    have e68 := hd ⟨39, .data⟩ (by simp) rfl _ _ rfl rfl
    have e66 := hd ⟨37, .guard⟩ (by simp) rfl _ _ rfl rfl
    obtain ⟨A3, c3, eg⟩ := e68; have eh := Rg.slot eg; exact Rg.does_pure (Rg.wanted_some rfl rfl rfl e66) (by simp [eh, go_sem]) hS rfl
  · intro a w1 hS hb hd
    have e69 := hd ⟨40, .data⟩ (by simp) rfl _ _ rfl rfl
    have e69 : a.tmps[69]?.getD undef = (.int .i64 0) := Rg.slot e69
    have e66 := hd ⟨37, .guard⟩ (by simp) rfl _ _ rfl rfl
    exact Rg.does_pure (Rg.wanted_some rfl rfl rfl e66) (by simp [execOp, e69, go_sem]) hS rfl
  · intro a w1 hS hb hd
    have e66 := hd ⟨37, .data⟩ (by simp) rfl _ _ rfl rfl
    have e66 : a.tmps[66]?.getD undef = (.bool true) := Rg.slot e66
    have e70 := hd ⟨41, .data⟩ (by simp) rfl _ _ rfl rfl
    have e70 : a.tmps[70]?.getD undef = (.bool true) := Rg.slot e70
    exact Rg.does_pure (Rg.wanted_none rfl) (by simp [execOp, e66, e70, go_sem]) hS rfl
  · intro a w1 hS hb hd
    have e71 := hd ⟨42, .data⟩ (by simp) rfl _ _ rfl rfl
    have e71 : a.tmps[71]?.getD undef = (.bool true) := Rg.slot e71
    exact Rg.does_pure (Rg.wanted_none rfl) (by simp [execOp, e71, go_sem]) hS rfl
  · intro a w1 hS hb hd
    have e72 := hd ⟨43, .guard⟩ (by simp) rfl _ _ rfl rfl
    refine Rg.does_call (f := 13) (args := #[]) (Rg.wanted_some rfl rfl rfl e72) (by simp [go_sem]) ?_
    exact (me_any w1).mono fun e w3 ⟨h1, h2⟩ => ⟨_, h1, rfl, below_then hS h2, h2⟩
  · intro a w1 hS hb hd
    have e72 := hd ⟨43, .guard⟩ (by simp) rfl _ _ rfl rfl
    exact Rg.does_new (x := .slice (some ⟨w1.heap.size, 0, none⟩) 2 2) (ob := .cells #[.slice none 0 0, .slice none 0 0] 23) (Rg.wanted_some rfl rfl rfl e72) (by simp [execOp, go_sem]) (below_alloc hS _) ⟨_, _, rfl, rows_two w1 ⟨none, 0, 0, []⟩ ⟨none, 0, 0, []⟩ (Rws.none_ _ _ _) (by simp) (Rws.none_ _ _ _) (by simp)⟩
  · intro a w1 hS hb hd
    have e73 := hd ⟨44, .data⟩ (by simp) rfl _ _ rfl rfl
    have e73 : a.tmps[73]?.getD undef = (.agg #[.int .u32 1, .int .u64 7]) := Rg.slot e73
    have e74 := hd ⟨45, .data⟩ (by simp) rfl _ _ rfl rfl
    have e72 := hd ⟨43, .guard⟩ (by simp) rfl _ _ rfl rfl
    obtain ⟨B5, d5, eg, hr5⟩ := e74; have eh := Rg.slot eg; simp only [List.length_cons, List.length_nil, Nat.zero_add, Nat.reduceAdd] at eh; refine Rg.does_call (f := 15) (args := #[.slice none 0 0, .agg #[.int .u32 1, .int .u64 7], .slice B5 2 d5]) (Rg.wanted_some rfl rfl rfl e72) (by simp [e73, eh, go_sem]) ?_; exact (back_any none 0 0 [] 1 7 B5 d5 [⟨none, 0, 0, []⟩, ⟨none, 0, 0, []⟩] w1 (Rws.none_ _ _ _) hr5 (by decide) (by simp)).mono fun e w3 ⟨A3, c3, h1, _, h2⟩ => ⟨_, h1, ⟨A3, c3, by simp only [List.map_cons, List.map_nil, k5, List.length_nil]⟩, below_then hS h2, h2⟩
  · intro a w1 hS hb hd
    have e75 := hd ⟨46, .data⟩ (by simp) rfl _ _ rfl rfl
    have e72 := hd ⟨43, .guard⟩ (by simp) rfl _ _ rfl rfl
    obtain ⟨A3, c3, eg⟩ := e75; have eh := Rg.slot eg; exact Rg.does_pure (Rg.wanted_some rfl rfl rfl e72) (by simp [eh, go_sem]) hS rfl
  · intro a w1 hS hb hd
    have e76 := hd ⟨47, .data⟩ (by simp) rfl _ _ rfl rfl
    have e76 : a.tmps[76]?.getD undef = (.int .i64 0) := Rg.slot e76
    have e72 := hd ⟨43, .guard⟩ (by simp) rfl _ _ rfl rfl
    exact Rg.does_pure (Rg.wanted_some rfl rfl rfl e72) (by simp [execOp, e76, go_sem]) hS rfl
  · intro a w1 hS hb hd
    have e72 := hd ⟨43, .data⟩ (by simp) rfl _ _ rfl rfl
    have e72 : a.tmps[72]?.getD undef = (.bool true) := Rg.slot e72
    have e77 := hd ⟨48, .data⟩ (by simp) rfl _ _ rfl rfl
    have e77 : a.tmps[77]?.getD undef = (.bool true) := Rg.slot e77
    exact Rg.does_pure (Rg.wanted_none rfl) (by simp [execOp, e72, e77, go_sem]) hS rfl
  · intro a w1 hS hb hd
    have e78 := hd ⟨49, .data⟩ (by simp) rfl _ _ rfl rfl
    have e78 : a.tmps[78]?.getD undef = (.bool true) := Rg.slot e78
    exact Rg.does_pure (Rg.wanted_none rfl) (by simp [execOp, e78, go_sem]) hS rfl
  · intro v w3 hS hv
    have HB3 := Lib.hid (below_then' HBW.out hS HBW.out.size)
    have h0 : v 50 = .bool true := hv 50 _ _ rfl rfl
    clear hS hv
    simp only [Rg.putAll, Nat.zero_add, Nat.reduceAdd]
    simp only [Act.put, List.setIfInBounds_toArray, List.set_cons_succ, List.set_cons_zero]
    rw [h0]
    go_wp2_with fail
    go_ret
    exact ⟨rfl, HB3.out⟩
end undoKnown
end Go.Proofs.Ytlnekhkdncccgaa
