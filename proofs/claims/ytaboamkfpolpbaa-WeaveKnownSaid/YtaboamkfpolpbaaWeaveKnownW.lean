/-
  The walk of WeaveKnown: it returns true; nothing that was there turned. No conditions.
-/
import Derived.Test.YtaboamkfpolpbaaWvG
import Derived.Test.YtaboamkfpolpbaaBaseR
namespace Go.Proofs.Ytaboamkfpolpbaa
open Go.RowKit
open Pl (Un)

theorem k1 : Pl.longL [] (-1) = (0, 1) := by decide +kernel
theorem k2 : Pl.longL [] 5 = (5, 0) := by decide +kernel
theorem k3 : Pl.longL [⟨3, 0, 0, 0, 0⟩] 5 = (0, 1) := by decide +kernel
theorem k4 : Pl.longL [⟨1, 9, 120, 1, 1⟩, ⟨3, 0, 0, 0, 0⟩] 5 = (0, 1) := by decide +kernel
theorem k5 : Pl.longL [⟨2, 0, 0, 1, 1⟩] ((0 : Nat) : Int) = (0, 30) := by decide +kernel
theorem k6 : Pl.leave [⟨2, 0, 0, 1, 1⟩, ⟨2, 0, 0, 1, 1⟩, ⟨1, 0, 122, 1, 1⟩] [97, 98] = [122] := by decide +kernel
theorem k6f : Pl.FitR [⟨2, 0, 0, 1, 1⟩, ⟨2, 0, 0, 1, 1⟩, ⟨1, 0, 122, 1, 1⟩] [97, 98] := ⟨by decide +kernel, by decide +kernel, by decide +kernel, trivial⟩
theorem k7 : Pl.bothR [⟨2, 0, 0, 1, 1⟩, ⟨2, 0, 0, 1, 1⟩] [⟨2, 1, 0, 1, 1⟩] = ([⟨2, 0, 0, 1, 1⟩, ⟨0, 0, 0, 1, 1⟩], [⟨0, 0, 0, 1, 1⟩]) := by decide +kernel
theorem k8 : Pl.bothR [] [⟨2, 0, 0, 1, 1⟩] = ([], [⟨2, 0, 0, 1, 1⟩]) := by decide +kernel
theorem k9 : Pl.placeR 5 [] = 5 := by decide +kernel
theorem k10 : Pl.placeR 1 [⟨2, 0, 0, 1, 1⟩] = 0 := by decide +kernel
theorem k11 : Pl.placeR 1 [⟨2, 1, 0, 1, 1⟩] = 1 := by decide +kernel
/-- a row's value, told by what it reads as -/
def RowIs (l : List Un) (v : Value) (w : World) : Prop := ∃ g c, v = .slice (some ⟨g, 0, none⟩) l.length c ∧ Uns w w.heap.size (some ⟨g, 0, none⟩) l.length c l
theorem RowIs.stb {l : List Un} : Rg.Stb (RowIs l) := fun _ _ _ ⟨g, c, e, h⟩ hb => ⟨g, c, e, Rws.then_ h hb⟩
theorem OwnU.at0 {w : World} {base g n c : Nat} {u : Un} {l : List Un} (h : OwnU w base (.slice (some ⟨g, 0, none⟩) n c) (u :: l)) :
    w.cell? ⟨g, 0, none⟩ = some (.int .i64 u.k) ∧ w.cell? ⟨g, 1, none⟩ = some (.int .i64 u.p) ∧ w.cell? ⟨g, 2, none⟩ = some (.int .i32 u.c) ∧ w.cell? ⟨g, 3, none⟩ = some (.int .u32 u.x) ∧ w.cell? ⟨g, 4, none⟩ = some (.int .u64 u.y) := by
  have hn := h.len
  have := OwnU.cells h (i := 0) (by rw [hn]; simp)
  simpa using this.imp id fun h => h.imp id fun h => h.imp id fun h => h.imp id And.left
theorem OwnU.at1 {w : World} {base g n c : Nat} {u0 u : Un} {l : List Un} (h : OwnU w base (.slice (some ⟨g, 0, none⟩) n c) (u0 :: u :: l)) :
    w.cell? ⟨g, 5, none⟩ = some (.int .i64 u.k) ∧ w.cell? ⟨g, 6, none⟩ = some (.int .i64 u.p) ∧ w.cell? ⟨g, 7, none⟩ = some (.int .i32 u.c) ∧ w.cell? ⟨g, 8, none⟩ = some (.int .u32 u.x) ∧ w.cell? ⟨g, 9, none⟩ = some (.int .u64 u.y) := by
  have hn := h.len
  have := OwnU.cells h (i := 1) (by rw [hn]; simp)
  simpa using this.imp id fun h => h.imp id fun h => h.imp id fun h => h.imp id And.left
theorem charAt0 {w : World} {B g n c : Nat} {x : Int} {l : List Int} (h : Crs w B (some ⟨g, 0, none⟩) n c (x :: l)) : w.cell? ⟨g, 0, none⟩ = some (.int .i32 x) := by
  have hn := h.len
  obtain ⟨g', o', e, _, hc⟩ := h.at_ (i := 0) (by rw [← hn]; simp)
  cases e
  have := hc 0 (by rw [← hn]; simp)
  simpa using this
namespace weaveKnown
set_option maxRecDepth 100000 in
set_option maxHeartbeats 4000000 in
theorem walk (w : World) : Calls Try.prog 9 #[] w fun e w' => e = .returned (.bool true) ∧ Below w.heap.size w w' := by
  go_enter Try.func9, Try.ntmps9
  go_wp2_with fail
  refine ((long_any none 0 0 [] (-1) w (Rws.none_ _ _ _) (by decide) (by decide))).mono ?_
  rintro e w_1 ⟨rfl, hb⟩
  rw [k1]; simp only
  have HB_2 := Lib.hid (hb)
  clear hb
  go_wp2_with fail
  refine ((long_any none 0 0 [] 5 w_1 (Rws.none_ _ _ _) (by decide) (by decide))).mono ?_
  rintro e w_3 ⟨rfl, hb⟩
  rw [k2]; simp only
  have HB_4 := Lib.hid (below_then' HB_2.out hb HB_2.out.size)
  clear HB_2
  clear hb
  obtain ⟨w_5, hw⟩ : ∃ x, x = w_3.alloc (.cells #[.int .i64 3, .int .i64 0, .int .i32 0, .int .u32 0, .int .u64 0] 36) := ⟨_, rfl⟩
  have hx : OwnU (w_3.alloc (.cells #[.int .i64 3, .int .i64 0, .int .i32 0, .int .u32 0, .int .u64 0] 36)) w_3.heap.size (.slice (some ⟨w_3.heap.size, 0, none⟩) 1 1) [⟨3, 0, 0, 0, 0⟩] := units_lit w_3 [⟨3, 0, 0, 0, 0⟩] (by simp [maxLen])
  have hb : Below w_3.heap.size w_3 w_5 := by rw [hw]; exact below_box _ _
  rw [← hw] at hx
  have HWw_5 := Lib.hid hw
  have HSw_5 := Lib.hid (show w_5.heap.size = w_3.heap.size + 1 by rw [hw]; simp)
  have HB_6 := Lib.hid (below_then' HB_4.out hb HB_4.out.size)
  clear HB_4
  have R_7 := Lib.hid (hx)
  clear hw hx hb
  go_wp2_with fail
  rw [← HWw_5.out]
  refine ((long_any _ 1 1 _ 5 w_5 (OwnU.uns R_7.out) (by decide) (by decide))).mono ?_
  rintro e w_8 ⟨rfl, hb⟩
  rw [k3]; simp only
  clear R_7
  have HB_9 := Lib.hid (below_then' HB_6.out hb HB_6.out.size)
  clear HB_6
  clear hb
  go_wp2_with fail
  refine ((ins_any 9 120 1 w_8)).mono ?_
  rintro e w_10 ⟨rfl, hb⟩
  have HB_11 := Lib.hid (below_then' HB_9.out hb HB_9.out.size)
  clear HB_9
  clear hb
  unfold uval; simp only
  obtain ⟨w_12, hw⟩ : ∃ x, x = w_10.alloc (.cells #[.int .i64 1, .int .i64 9, .int .i32 120, .int .u32 1, .int .u64 1, .int .i64 3, .int .i64 0, .int .i32 0, .int .u32 0, .int .u64 0] 36) := ⟨_, rfl⟩
  have hx : OwnU (w_10.alloc (.cells #[.int .i64 1, .int .i64 9, .int .i32 120, .int .u32 1, .int .u64 1, .int .i64 3, .int .i64 0, .int .i32 0, .int .u32 0, .int .u64 0] 36)) w_10.heap.size (.slice (some ⟨w_10.heap.size, 0, none⟩) 2 2) [⟨1, 9, 120, 1, 1⟩, ⟨3, 0, 0, 0, 0⟩] := units_lit w_10 [⟨1, 9, 120, 1, 1⟩, ⟨3, 0, 0, 0, 0⟩] (by simp [maxLen])
  have hb : Below w_10.heap.size w_10 w_12 := by rw [hw]; exact below_box _ _
  rw [← hw] at hx
  have HWw_12 := Lib.hid hw
  have HSw_12 := Lib.hid (show w_12.heap.size = w_10.heap.size + 1 by rw [hw]; simp)
  have HB_13 := Lib.hid (below_then' HB_11.out hb HB_11.out.size)
  clear HB_11
  have R_14 := Lib.hid (hx)
  clear hw hx hb
  go_wp2_with fail
  rw [← HWw_12.out]
  refine ((long_any _ 2 2 _ 5 w_12 (OwnU.uns R_14.out) (by decide) (by decide))).mono ?_
  rintro e w_15 ⟨rfl, hb⟩
  rw [k4]; simp only
  clear R_14
  have HB_16 := Lib.hid (below_then' HB_13.out hb HB_13.out.size)
  clear HB_13
  clear hb
  go_wp2_with fail
  refine ((del_any 0 w_15)).mono ?_
  rintro e w_17 ⟨rfl, hb⟩
  have HB_18 := Lib.hid (below_then' HB_16.out hb HB_16.out.size)
  clear HB_16
  clear hb
  unfold uval; simp only
  obtain ⟨w_19, hw⟩ : ∃ x, x = w_17.alloc (.cells #[.int .i64 2, .int .i64 0, .int .i32 0, .int .u32 1, .int .u64 1] 36) := ⟨_, rfl⟩
  have hx : OwnU (w_17.alloc (.cells #[.int .i64 2, .int .i64 0, .int .i32 0, .int .u32 1, .int .u64 1] 36)) w_17.heap.size (.slice (some ⟨w_17.heap.size, 0, none⟩) 1 1) [⟨2, 0, 0, 1, 1⟩] := units_lit w_17 [⟨2, 0, 0, 1, 1⟩] (by simp [maxLen])
  have hb : Below w_17.heap.size w_17 w_19 := by rw [hw]; exact below_box _ _
  rw [← hw] at hx
  have HWw_19 := Lib.hid hw
  have HSw_19 := Lib.hid (show w_19.heap.size = w_17.heap.size + 1 by rw [hw]; simp)
  have HB_20 := Lib.hid (below_then' HB_18.out hb HB_18.out.size)
  clear HB_18
  have R_21 := Lib.hid (hx)
  clear hw hx hb
  go_wp2_with fail
  rw [← HWw_19.out]
  refine ((applyR_bad none 0 0 _ 1 1 _ w_19 (OwnU.uns R_21.out) (by decide) (by decide) 30 0 k5 (by decide))).mono ?_
  rintro e w_22 ⟨rfl, hb⟩
  clear R_21
  have HB_23 := Lib.hid (below_then' HB_20.out hb HB_20.out.size)
  clear HB_20
  clear hb
  obtain ⟨w_24, hw⟩ : ∃ x, x = w_22.alloc (.cells #[.int .i32 97, .int .i32 98] 30) := ⟨_, rfl⟩
  have hx : Crs (w_22.alloc (.cells #[.int .i32 97, .int .i32 98] 30)) (w_22.alloc (.cells #[.int .i32 97, .int .i32 98] 30)).heap.size (some ⟨w_22.heap.size, 0, none⟩) 2 2 [97, 98] := chars_row w_22 [97, 98] (small_js (by simp)) (by simp [maxLen])
  have hb : Below w_22.heap.size w_22 w_24 := by rw [hw]; exact below_box _ _
  rw [← hw] at hx
  have HWw_24 := Lib.hid hw
  have HSw_24 := Lib.hid (show w_24.heap.size = w_22.heap.size + 1 by rw [hw]; simp)
  have HB_25 := Lib.hid (below_then' HB_23.out hb HB_23.out.size)
  clear HB_23
  have T_26 := Lib.hid (hx)
  clear hw hx hb
  go_wp2_with fail
  rw [← HWw_24.out]
  refine ((del_any 0 w_24)).mono ?_
  rintro e w_27 ⟨rfl, hb⟩
  have T_28 := Lib.hid (Crs.then_ T_26.out hb)
  have HB_29 := Lib.hid (below_then' HB_25.out hb HB_25.out.size)
  clear T_26 HB_25
  clear hb
  unfold uval; simp only
  go_wp2_with fail
  refine ((del_any 0 w_27)).mono ?_
  rintro e w_30 ⟨rfl, hb⟩
  have T_31 := Lib.hid (Crs.then_ T_28.out hb)
  have HB_32 := Lib.hid (below_then' HB_29.out hb HB_29.out.size)
  clear T_28 HB_29
  clear hb
  unfold uval; simp only
  go_wp2_with fail
  refine ((ins_any 0 122 1 w_30)).mono ?_
  rintro e w_33 ⟨rfl, hb⟩
  have T_34 := Lib.hid (Crs.then_ T_31.out hb)
  have HB_35 := Lib.hid (below_then' HB_32.out hb HB_32.out.size)
  clear T_31 HB_32
  clear hb
  unfold uval; simp only
  obtain ⟨w_36, hw⟩ : ∃ x, x = w_33.alloc (.cells #[.int .i64 2, .int .i64 0, .int .i32 0, .int .u32 1, .int .u64 1, .int .i64 2, .int .i64 0, .int .i32 0, .int .u32 1, .int .u64 1, .int .i64 1, .int .i64 0, .int .i32 122, .int .u32 1, .int .u64 1] 36) := ⟨_, rfl⟩
  have hx : OwnU (w_33.alloc (.cells #[.int .i64 2, .int .i64 0, .int .i32 0, .int .u32 1, .int .u64 1, .int .i64 2, .int .i64 0, .int .i32 0, .int .u32 1, .int .u64 1, .int .i64 1, .int .i64 0, .int .i32 122, .int .u32 1, .int .u64 1] 36)) w_33.heap.size (.slice (some ⟨w_33.heap.size, 0, none⟩) 3 3) [⟨2, 0, 0, 1, 1⟩, ⟨2, 0, 0, 1, 1⟩, ⟨1, 0, 122, 1, 1⟩] := units_lit w_33 [⟨2, 0, 0, 1, 1⟩, ⟨2, 0, 0, 1, 1⟩, ⟨1, 0, 122, 1, 1⟩] (by simp [maxLen])
  have hb : Below w_33.heap.size w_33 w_36 := by rw [hw]; exact below_box _ _
  rw [← hw] at hx
  have HWw_36 := Lib.hid hw
  have HSw_36 := Lib.hid (show w_36.heap.size = w_33.heap.size + 1 by rw [hw]; simp)
  have T_37 := Lib.hid (Crs.then_ T_34.out hb)
  have HB_38 := Lib.hid (below_then' HB_35.out hb HB_35.out.size)
  clear T_34 HB_35
  have R_39 := Lib.hid (hx)
  clear hw hx hb
  go_wp2_with fail
  rw [← HWw_36.out]
  refine ((applyR_fit _ 2 2 _ _ 3 3 _ w_36 T_37.out (OwnU.uns R_39.out) (by decide) (by decide) k6f)).mono ?_
  rintro e w_40 ⟨A1, c1, rfl, ho, hb⟩
  rw [k6] at ho ⊢
  simp only [List.length_cons, List.length_nil, Nat.zero_add] at ho ⊢
  obtain ⟨g1, rfl, _⟩ := OwnC.pos_ ho (by decide)
  clear R_39
  clear T_37
  have HB_41 := Lib.hid (below_then' HB_38.out hb HB_38.out.size)
  clear HB_38
  have F_42 := Lib.hid (ho.crs.2)
  clear hb ho
  go_wp2_with fail
  refine ((del_any 0 w_40)).mono ?_
  rintro e w_43 ⟨rfl, hb⟩
  have F_44 := Lib.hid (Crs.then_ F_42.out hb)
  have HB_45 := Lib.hid (below_then' HB_41.out hb HB_41.out.size)
  clear F_42 HB_41
  clear hb
  unfold uval; simp only
  go_wp2_with fail
  refine ((del_any 0 w_43)).mono ?_
  rintro e w_46 ⟨rfl, hb⟩
  have F_47 := Lib.hid (Crs.then_ F_44.out hb)
  have HB_48 := Lib.hid (below_then' HB_45.out hb HB_45.out.size)
  clear F_44 HB_45
  clear hb
  unfold uval; simp only
  obtain ⟨w_49, hw⟩ : ∃ x, x = w_46.alloc (.cells #[.int .i64 2, .int .i64 0, .int .i32 0, .int .u32 1, .int .u64 1, .int .i64 2, .int .i64 0, .int .i32 0, .int .u32 1, .int .u64 1] 36) := ⟨_, rfl⟩
  have hx : OwnU (w_46.alloc (.cells #[.int .i64 2, .int .i64 0, .int .i32 0, .int .u32 1, .int .u64 1, .int .i64 2, .int .i64 0, .int .i32 0, .int .u32 1, .int .u64 1] 36)) w_46.heap.size (.slice (some ⟨w_46.heap.size, 0, none⟩) 2 2) [⟨2, 0, 0, 1, 1⟩, ⟨2, 0, 0, 1, 1⟩] := units_lit w_46 [⟨2, 0, 0, 1, 1⟩, ⟨2, 0, 0, 1, 1⟩] (by simp [maxLen])
  have hb : Below w_46.heap.size w_46 w_49 := by rw [hw]; exact below_box _ _
  rw [← hw] at hx
  have HWw_49 := Lib.hid hw
  have HSw_49 := Lib.hid (show w_49.heap.size = w_46.heap.size + 1 by rw [hw]; simp)
  have F_50 := Lib.hid (Crs.then_ F_47.out hb)
  have HB_51 := Lib.hid (below_then' HB_48.out hb HB_48.out.size)
  clear F_47 HB_48
  have X_52 := Lib.hid (hx)
  clear hw hx hb
  go_wp2_with fail
  rw [← HWw_49.out]
  refine ((del_any 1 w_49)).mono ?_
  rintro e w_53 ⟨rfl, hb⟩
  have F_54 := Lib.hid (Crs.then_ F_50.out hb)
  have X_55 := Lib.hid (OwnR.then_ X_52.out hb)
  have HB_56 := Lib.hid (below_then' HB_51.out hb HB_51.out.size)
  clear F_50 X_52 HB_51
  clear hb
  unfold uval; simp only
  obtain ⟨w_57, hw⟩ : ∃ x, x = w_53.alloc (.cells #[.int .i64 2, .int .i64 1, .int .i32 0, .int .u32 1, .int .u64 1] 36) := ⟨_, rfl⟩
  have hx : OwnU (w_53.alloc (.cells #[.int .i64 2, .int .i64 1, .int .i32 0, .int .u32 1, .int .u64 1] 36)) w_53.heap.size (.slice (some ⟨w_53.heap.size, 0, none⟩) 1 1) [⟨2, 1, 0, 1, 1⟩] := units_lit w_53 [⟨2, 1, 0, 1, 1⟩] (by simp [maxLen])
  have hb : Below w_53.heap.size w_53 w_57 := by rw [hw]; exact below_box _ _
  rw [← hw] at hx
  have HWw_57 := Lib.hid hw
  have HSw_57 := Lib.hid (show w_57.heap.size = w_53.heap.size + 1 by rw [hw]; simp)
  have F_58 := Lib.hid (Crs.then_ F_54.out hb)
  have X_59 := Lib.hid (OwnR.then_ X_55.out hb)
  have HB_60 := Lib.hid (below_then' HB_56.out hb HB_56.out.size)
  clear F_54 X_55 HB_56
  have Y_61 := Lib.hid (hx)
  clear hw hx hb
  go_wp2_with fail
  rw [← HWw_57.out]
  refine ((both_any w_57 _ 2 2 _ _ 1 1 _ (OwnU.uns X_59.out) (OwnU.uns Y_61.out) (by decide) (by decide))).mono ?_
  rintro e w_62 ⟨A2, c2, A3, c3, rfl, ho, ho2, _, hb⟩
  rw [k7] at ho ho2
  simp only [List.length_cons, List.length_nil, Nat.zero_add, Nat.reduceAdd] at ho ho2 ⊢
  obtain ⟨g2, rfl⟩ := ho.block (by decide)
  obtain ⟨g3, rfl⟩ := ho2.block (by decide)
  clear X_59
  clear Y_61
  have F_63 := Lib.hid (Crs.then_ F_58.out hb)
  have HB_64 := Lib.hid (below_then' HB_60.out hb HB_60.out.size)
  clear F_58 HB_60
  have X_65 := Lib.hid (ho)
  have Y_66 := Lib.hid (ho2)
  clear hb ho ho2
  go_wp2_with fail
  refine ((del_any 0 w_62)).mono ?_
  rintro e w_67 ⟨rfl, hb⟩
  have F_68 := Lib.hid (Crs.then_ F_63.out hb)
  have X_69 := Lib.hid (OwnR.then_ X_65.out hb)
  have Y_70 := Lib.hid (OwnR.then_ Y_66.out hb)
  have HB_71 := Lib.hid (below_then' HB_64.out hb HB_64.out.size)
  clear F_63 X_65 Y_66 HB_64
  clear hb
  unfold uval; simp only
  obtain ⟨w_72, hw⟩ : ∃ x, x = w_67.alloc (.cells #[.int .i64 2, .int .i64 0, .int .i32 0, .int .u32 1, .int .u64 1] 36) := ⟨_, rfl⟩
  have hx : OwnU (w_67.alloc (.cells #[.int .i64 2, .int .i64 0, .int .i32 0, .int .u32 1, .int .u64 1] 36)) w_67.heap.size (.slice (some ⟨w_67.heap.size, 0, none⟩) 1 1) [⟨2, 0, 0, 1, 1⟩] := units_lit w_67 [⟨2, 0, 0, 1, 1⟩] (by simp [maxLen])
  have hb : Below w_67.heap.size w_67 w_72 := by rw [hw]; exact below_box _ _
  rw [← hw] at hx
  have HWw_72 := Lib.hid hw
  have HSw_72 := Lib.hid (show w_72.heap.size = w_67.heap.size + 1 by rw [hw]; simp)
  have F_73 := Lib.hid (Crs.then_ F_68.out hb)
  have X_74 := Lib.hid (OwnR.then_ X_69.out hb)
  have Y_75 := Lib.hid (OwnR.then_ Y_70.out hb)
  have HB_76 := Lib.hid (below_then' HB_71.out hb HB_71.out.size)
  clear F_68 X_69 Y_70 HB_71
  have Z_77 := Lib.hid (hx)
  clear hw hx hb
  go_wp2_with fail
  rw [← HWw_72.out]
  refine ((both_any w_72 none 0 0 [] _ 1 1 _ (Rws.none_ _ _ _) (OwnU.uns Z_77.out) (by decide) (by decide))).mono ?_
  rintro e w_78 ⟨A4, c4, A5, c5, rfl, ho, ho2, _, hb⟩
  rw [k8] at ho ho2
  simp only [List.length_cons, List.length_nil, Nat.zero_add] at ho ho2 ⊢
  obtain ⟨g5, rfl⟩ := ho2.block (by decide)
  clear Z_77
  have F_79 := Lib.hid (Crs.then_ F_73.out hb)
  have X_80 := Lib.hid (OwnR.then_ X_74.out hb)
  have Y_81 := Lib.hid (OwnR.then_ Y_75.out hb)
  have HB_82 := Lib.hid (below_then' HB_76.out hb HB_76.out.size)
  clear F_73 X_74 Y_75 HB_76
  have Z_83 := Lib.hid (ho2)
  clear hb ho ho2
  go_wp2_with fail
  have F0 := F_79
  have X0 := X_80
  have Y0 := Y_81
  have Z0 := Z_83
  have HBW := HB_82
  obtain ⟨W9, hW9⟩ : ∃ x, x = w_78 := ⟨_, rfl⟩
  rw [← hW9] at F0 X0 Y0 Z0 HBW ⊢
  clear hW9 F_79 X_80 Y_81 Z_83 HB_82
  refine Rg.wp_region_inv (fun w' => Below W9.heap.size W9 w') (Rg.Wd.at [.is (.bool true), .is (.bool true), .is (.bool true), .is (.bool true), .is (.int .i64 1), .is (.bool true), .is (.bool true), .is (.bool true), .is (.int .i64 0), .is (.bool true), .is (.bool true), .is (.bool true), .is (.int .i64 5), .is (.bool true), .is (.bool true), .is (.bool true), .is (.int .i64 1), .is (.bool true), .is (.bool true), .is (.bool true), .is (.int .i64 1), .is (.bool true), .is (.bool true), .is (.bool true), .is (.int .i64 30), .is (.bool true), .is (.bool true), .is (.bool true), .is (.int .i64 0), .is (.bool true), .is (.bool true), .is (.bool true), .is (.slice (some ⟨g1, 0, none⟩) 1 c1), .is (.int .i64 1), .is (.bool true), .is (.bool true), .is (.bool true), .is (.slice (some ⟨g1, 0, none⟩) 1 c1), .is (.pointer (some ⟨g1, 0, none⟩)), .is (.int .i32 122), .is (.bool true), .is (.bool true), .is (.bool true), .is (.slice (some ⟨g2, 0, none⟩) 2 c2), .is (.int .i64 2), .is (.bool true), .is (.bool true), .is (.bool true), .is (.slice (some ⟨g2, 0, none⟩) 2 c2), .is (.pointer (some ⟨g2, 0, none⟩)), .is (.pointer (some ⟨g2, 0, none⟩)), .is (.int .i64 2), .is (.bool true), .is (.bool true), .is (.bool true), .is (.slice (some ⟨g2, 0, none⟩) 2 c2), .is (.pointer (some ⟨g2, 5, none⟩)), .is (.pointer (some ⟨g2, 5, none⟩)), .is (.int .i64 0), .is (.bool true), .is (.bool true), .is (.bool true), .is (.slice (some ⟨g3, 0, none⟩) 1 c3), .is (.int .i64 1), .is (.bool true), .is (.bool true), .is (.bool true), .is (.slice (some ⟨g3, 0, none⟩) 1 c3), .is (.pointer (some ⟨g3, 0, none⟩)), .is (.pointer (some ⟨g3, 0, none⟩)), .is (.int .i64 0), .is (.bool true), .is (.bool true), .is (.bool true), .is (.slice A4 0 c4), .is (.int .i64 0), .is (.bool true), .is (.bool true), .is (.bool true), .is (.slice (some ⟨g5, 0, none⟩) 1 c5), .is (.int .i64 1), .is (.bool true), .is (.bool true), .is (.bool true), .is (.slice (some ⟨g5, 0, none⟩) 1 c5), .is (.pointer (some ⟨g5, 0, none⟩)), .is (.agg #[.int .i64 2, .int .i64 0, .int .i32 0, .int .u32 1, .int .u64 1]), .is (.agg #[.int .i64 2, .int .i64 0, .int .i32 0, .int .u32 1, .int .u64 1]), .is (.bool true), .is (.bool true), .is (.bool true), .is (.int .i64 5), .is (.bool true), .is (.bool true), .is (.bool true), .is (.agg #[.int .i64 2, .int .i64 0, .int .i32 0, .int .u32 1, .int .u64 1]), .pred (RowIs [⟨2, 0, 0, 1, 1⟩]) RowIs.stb, .is (.int .i64 0), .is (.bool true), .is (.bool true), .is (.bool true), .is (.agg #[.int .i64 2, .int .i64 1, .int .i32 0, .int .u32 1, .int .u64 1]), .pred (RowIs [⟨2, 1, 0, 1, 1⟩]) RowIs.stb, .is (.int .i64 1), .is (.bool true), .is (.bool true), .is (.bool true)]) (by kernel_rfl) (by kernel_rfl) (Rg.Wd.stays _ _) (below_drawn (Below.refl _ _)) ⟨?_, ?_, ?_, ?_, ?_, ?_, ?_, ?_, ?_, ?_, ?_, ?_, ?_, ?_, ?_, ?_, ?_, ?_, ?_, ?_, ?_, ?_, ?_, ?_, ?_, ?_, ?_, ?_, ?_, ?_, ?_, ?_, ?_, ?_, ?_, ?_, ?_, ?_, ?_, ?_, ?_, ?_, ?_, ?_, ?_, ?_, ?_, ?_, ?_, ?_, ?_, ?_, ?_, ?_, ?_, ?_, ?_, ?_, ?_, ?_, ?_, ?_, ?_, ?_, ?_, ?_, ?_, ?_, ?_, ?_, ?_, ?_, ?_, ?_, ?_, ?_, ?_, ?_, ?_, ?_, ?_, ?_, ?_, ?_, ?_, ?_, ?_, ?_, ?_, ?_, ?_, ?_, ?_, ?_, ?_, ?_, ?_, ?_, ?_, ?_, ?_, ?_, ?_, ?_, ?_, ?_, ?_, trivial⟩ ?_
  · intro a w1 hS hb hd
    exact Rg.does_pure (Rg.wanted_none rfl) (by simp [execOp, go_sem]) hS rfl
  · intro a w1 hS hb hd
    have e68 := hd ⟨0, .guard⟩ (by simp) rfl _ _ rfl rfl
    refine Rg.does_call (f := 16) (args := #[]) (Rg.wanted_some rfl rfl rfl e68) (by simp [go_sem]) ?_
    exact (awake_any w1).mono fun e w3 ⟨h1, h2⟩ => ⟨_, h1, rfl, below_then hS h2, h2⟩
  · intro a w1 hS hb hd
    have e68 := hd ⟨0, .data⟩ (by simp) rfl _ _ rfl rfl
    have e68 : a.tmps[68]?.getD undef = (.bool true) := Rg.slot e68
    have e69 := hd ⟨1, .data⟩ (by simp) rfl _ _ rfl rfl
    have e69 : a.tmps[69]?.getD undef = (.bool true) := Rg.slot e69
    exact Rg.does_pure (Rg.wanted_none rfl) (by simp [execOp, e68, e69, go_sem]) hS rfl
  · intro a w1 hS hb hd
    have e70 := hd ⟨2, .data⟩ (by simp) rfl _ _ rfl rfl
    have e70 : a.tmps[70]?.getD undef = (.bool true) := Rg.slot e70
    exact Rg.does_pure (Rg.wanted_none rfl) (by simp [execOp, e70, go_sem]) hS rfl
  · intro a w1 hS hb hd
    have e2 := hb 2 (Rg.nw (by decide))
    simp [Act.eval] at e2
    have e71 := hd ⟨3, .guard⟩ (by simp) rfl _ _ rfl rfl
    exact Rg.does_pure (Rg.wanted_some rfl rfl rfl e71) (by simp [execOp, e2, go_sem]) hS rfl
  · intro a w1 hS hb hd
    have e72 := hd ⟨4, .data⟩ (by simp) rfl _ _ rfl rfl
    have e72 : a.tmps[72]?.getD undef = (.int .i64 1) := Rg.slot e72
    have e71 := hd ⟨3, .guard⟩ (by simp) rfl _ _ rfl rfl
    exact Rg.does_pure (Rg.wanted_some rfl rfl rfl e71) (by simp [execOp, e72, go_sem]) hS rfl
  · intro a w1 hS hb hd
    have e71 := hd ⟨3, .data⟩ (by simp) rfl _ _ rfl rfl
    have e71 : a.tmps[71]?.getD undef = (.bool true) := Rg.slot e71
    have e73 := hd ⟨5, .data⟩ (by simp) rfl _ _ rfl rfl
    have e73 : a.tmps[73]?.getD undef = (.bool true) := Rg.slot e73
    exact Rg.does_pure (Rg.wanted_none rfl) (by simp [execOp, e71, e73, go_sem]) hS rfl
  · intro a w1 hS hb hd
    have e74 := hd ⟨6, .data⟩ (by simp) rfl _ _ rfl rfl
    have e74 : a.tmps[74]?.getD undef = (.bool true) := Rg.slot e74
    exact Rg.does_pure (Rg.wanted_none rfl) (by simp [execOp, e74, go_sem]) hS rfl
  · intro a w1 hS hb hd
    have e4 := hb 4 (Rg.nw (by decide))
    simp [Act.eval] at e4
    have e75 := hd ⟨7, .guard⟩ (by simp) rfl _ _ rfl rfl
    exact Rg.does_pure (Rg.wanted_some rfl rfl rfl e75) (by simp [execOp, e4, go_sem]) hS rfl
  · intro a w1 hS hb hd
    have e76 := hd ⟨8, .data⟩ (by simp) rfl _ _ rfl rfl
    have e76 : a.tmps[76]?.getD undef = (.int .i64 0) := Rg.slot e76
    have e75 := hd ⟨7, .guard⟩ (by simp) rfl _ _ rfl rfl
    exact Rg.does_pure (Rg.wanted_some rfl rfl rfl e75) (by simp [execOp, e76, go_sem]) hS rfl
  · intro a w1 hS hb hd
    have e75 := hd ⟨7, .data⟩ (by simp) rfl _ _ rfl rfl
    have e75 : a.tmps[75]?.getD undef = (.bool true) := Rg.slot e75
    have e77 := hd ⟨9, .data⟩ (by simp) rfl _ _ rfl rfl
    have e77 : a.tmps[77]?.getD undef = (.bool true) := Rg.slot e77
    exact Rg.does_pure (Rg.wanted_none rfl) (by simp [execOp, e75, e77, go_sem]) hS rfl
  · intro a w1 hS hb hd
    have e78 := hd ⟨10, .data⟩ (by simp) rfl _ _ rfl rfl
    have e78 : a.tmps[78]?.getD undef = (.bool true) := Rg.slot e78
    exact Rg.does_pure (Rg.wanted_none rfl) (by simp [execOp, e78, go_sem]) hS rfl
  · intro a w1 hS hb hd
    have e3 := hb 3 (Rg.nw (by decide))
    simp [Act.eval] at e3
    have e79 := hd ⟨11, .guard⟩ (by simp) rfl _ _ rfl rfl
    exact Rg.does_pure (Rg.wanted_some rfl rfl rfl e79) (by simp [execOp, e3, go_sem]) hS rfl
  · intro a w1 hS hb hd
    have e80 := hd ⟨12, .data⟩ (by simp) rfl _ _ rfl rfl
    have e80 : a.tmps[80]?.getD undef = (.int .i64 5) := Rg.slot e80
    have e79 := hd ⟨11, .guard⟩ (by simp) rfl _ _ rfl rfl
    exact Rg.does_pure (Rg.wanted_some rfl rfl rfl e79) (by simp [execOp, e80, go_sem]) hS rfl
  · intro a w1 hS hb hd
    have e79 := hd ⟨11, .data⟩ (by simp) rfl _ _ rfl rfl
    have e79 : a.tmps[79]?.getD undef = (.bool true) := Rg.slot e79
    have e81 := hd ⟨13, .data⟩ (by simp) rfl _ _ rfl rfl
    have e81 : a.tmps[81]?.getD undef = (.bool true) := Rg.slot e81
    exact Rg.does_pure (Rg.wanted_none rfl) (by simp [execOp, e79, e81, go_sem]) hS rfl
  · intro a w1 hS hb hd
    have e82 := hd ⟨14, .data⟩ (by simp) rfl _ _ rfl rfl
    have e82 : a.tmps[82]?.getD undef = (.bool true) := Rg.slot e82
    exact Rg.does_pure (Rg.wanted_none rfl) (by simp [execOp, e82, go_sem]) hS rfl
  · intro a w1 hS hb hd
    have e6 := hb 6 (Rg.nw (by decide))
    simp [Act.eval] at e6
    have e83 := hd ⟨15, .guard⟩ (by simp) rfl _ _ rfl rfl
    exact Rg.does_pure (Rg.wanted_some rfl rfl rfl e83) (by simp [execOp, e6, go_sem]) hS rfl
  · intro a w1 hS hb hd
    have e84 := hd ⟨16, .data⟩ (by simp) rfl _ _ rfl rfl
    have e84 : a.tmps[84]?.getD undef = (.int .i64 1) := Rg.slot e84
    have e83 := hd ⟨15, .guard⟩ (by simp) rfl _ _ rfl rfl
    exact Rg.does_pure (Rg.wanted_some rfl rfl rfl e83) (by simp [execOp, e84, go_sem]) hS rfl
  · intro a w1 hS hb hd
    have e83 := hd ⟨15, .data⟩ (by simp) rfl _ _ rfl rfl
    have e83 : a.tmps[83]?.getD undef = (.bool true) := Rg.slot e83
    have e85 := hd ⟨17, .data⟩ (by simp) rfl _ _ rfl rfl
    have e85 : a.tmps[85]?.getD undef = (.bool true) := Rg.slot e85
    exact Rg.does_pure (Rg.wanted_none rfl) (by simp [execOp, e83, e85, go_sem]) hS rfl
  · intro a w1 hS hb hd
    have e86 := hd ⟨18, .data⟩ (by simp) rfl _ _ rfl rfl
    have e86 : a.tmps[86]?.getD undef = (.bool true) := Rg.slot e86
    exact Rg.does_pure (Rg.wanted_none rfl) (by simp [execOp, e86, go_sem]) hS rfl
  · intro a w1 hS hb hd
    have e8 := hb 8 (Rg.nw (by decide))
    simp [Act.eval] at e8
    have e87 := hd ⟨19, .guard⟩ (by simp) rfl _ _ rfl rfl
    exact Rg.does_pure (Rg.wanted_some rfl rfl rfl e87) (by simp [execOp, e8, go_sem]) hS rfl
  · intro a w1 hS hb hd
    have e88 := hd ⟨20, .data⟩ (by simp) rfl _ _ rfl rfl
    have e88 : a.tmps[88]?.getD undef = (.int .i64 1) := Rg.slot e88
    have e87 := hd ⟨19, .guard⟩ (by simp) rfl _ _ rfl rfl
    exact Rg.does_pure (Rg.wanted_some rfl rfl rfl e87) (by simp [execOp, e88, go_sem]) hS rfl
  · intro a w1 hS hb hd
    have e87 := hd ⟨19, .data⟩ (by simp) rfl _ _ rfl rfl
    have e87 : a.tmps[87]?.getD undef = (.bool true) := Rg.slot e87
    have e89 := hd ⟨21, .data⟩ (by simp) rfl _ _ rfl rfl
    have e89 : a.tmps[89]?.getD undef = (.bool true) := Rg.slot e89
    exact Rg.does_pure (Rg.wanted_none rfl) (by simp [execOp, e87, e89, go_sem]) hS rfl
  · intro a w1 hS hb hd
    have e90 := hd ⟨22, .data⟩ (by simp) rfl _ _ rfl rfl
    have e90 : a.tmps[90]?.getD undef = (.bool true) := Rg.slot e90
    exact Rg.does_pure (Rg.wanted_none rfl) (by simp [execOp, e90, go_sem]) hS rfl
  · intro a w1 hS hb hd
    have e10 := hb 10 (Rg.nw (by decide))
    simp [Act.eval] at e10
    have e91 := hd ⟨23, .guard⟩ (by simp) rfl _ _ rfl rfl
    exact Rg.does_pure (Rg.wanted_some rfl rfl rfl e91) (by simp [execOp, e10, go_sem]) hS rfl
  · intro a w1 hS hb hd
    have e92 := hd ⟨24, .data⟩ (by simp) rfl _ _ rfl rfl
    have e92 : a.tmps[92]?.getD undef = (.int .i64 30) := Rg.slot e92
    have e91 := hd ⟨23, .guard⟩ (by simp) rfl _ _ rfl rfl
    exact Rg.does_pure (Rg.wanted_some rfl rfl rfl e91) (by simp [execOp, e92, go_sem]) hS rfl
  · intro a w1 hS hb hd
    have e91 := hd ⟨23, .data⟩ (by simp) rfl _ _ rfl rfl
    have e91 : a.tmps[91]?.getD undef = (.bool true) := Rg.slot e91
    have e93 := hd ⟨25, .data⟩ (by simp) rfl _ _ rfl rfl
    have e93 : a.tmps[93]?.getD undef = (.bool true) := Rg.slot e93
    exact Rg.does_pure (Rg.wanted_none rfl) (by simp [execOp, e91, e93, go_sem]) hS rfl
  · intro a w1 hS hb hd
    have e94 := hd ⟨26, .data⟩ (by simp) rfl _ _ rfl rfl
    have e94 : a.tmps[94]?.getD undef = (.bool true) := Rg.slot e94
    exact Rg.does_pure (Rg.wanted_none rfl) (by simp [execOp, e94, go_sem]) hS rfl
  · intro a w1 hS hb hd
    have e12 := hb 12 (Rg.nw (by decide))
    simp [Act.eval] at e12
    have e95 := hd ⟨27, .guard⟩ (by simp) rfl _ _ rfl rfl
    exact Rg.does_pure (Rg.wanted_some rfl rfl rfl e95) (by simp [execOp, e12, go_sem]) hS rfl
  · intro a w1 hS hb hd
    have e96 := hd ⟨28, .data⟩ (by simp) rfl _ _ rfl rfl
    have e96 : a.tmps[96]?.getD undef = (.int .i64 0) := Rg.slot e96
    have e95 := hd ⟨27, .guard⟩ (by simp) rfl _ _ rfl rfl
    exact Rg.does_pure (Rg.wanted_some rfl rfl rfl e95) (by simp [execOp, e96, go_sem]) hS rfl
  · intro a w1 hS hb hd
    have e95 := hd ⟨27, .data⟩ (by simp) rfl _ _ rfl rfl
    have e95 : a.tmps[95]?.getD undef = (.bool true) := Rg.slot e95
    have e97 := hd ⟨29, .data⟩ (by simp) rfl _ _ rfl rfl
    have e97 : a.tmps[97]?.getD undef = (.bool true) := Rg.slot e97
    exact Rg.does_pure (Rg.wanted_none rfl) (by simp [execOp, e95, e97, go_sem]) hS rfl
  · intro a w1 hS hb hd
    have e98 := hd ⟨30, .data⟩ (by simp) rfl _ _ rfl rfl
    have e98 : a.tmps[98]?.getD undef = (.bool true) := Rg.slot e98
    exact Rg.does_pure (Rg.wanted_none rfl) (by simp [execOp, e98, go_sem]) hS rfl
  · intro a w1 hS hb hd
    have e11 := hb 11 (Rg.nw (by decide))
    simp [Act.eval] at e11
    have e99 := hd ⟨31, .guard⟩ (by simp) rfl _ _ rfl rfl
    exact Rg.does_pure (Rg.wanted_some rfl rfl rfl e99) (by simp [execOp, e11, go_sem]) hS rfl
  · intro a w1 hS hb hd
    have e100 := hd ⟨32, .data⟩ (by simp) rfl _ _ rfl rfl
    have e100 : a.tmps[100]?.getD undef = (.slice (some ⟨g1, 0, none⟩) 1 c1) := Rg.slot e100
    have e99 := hd ⟨31, .guard⟩ (by simp) rfl _ _ rfl rfl
    exact Rg.does_pure (Rg.wanted_some rfl rfl rfl e99) (by simp [e100, go_sem]) hS rfl
  · intro a w1 hS hb hd
    have e101 := hd ⟨33, .data⟩ (by simp) rfl _ _ rfl rfl
    have e101 : a.tmps[101]?.getD undef = (.int .i64 1) := Rg.slot e101
    have e99 := hd ⟨31, .guard⟩ (by simp) rfl _ _ rfl rfl
    exact Rg.does_pure (Rg.wanted_some rfl rfl rfl e99) (by simp [execOp, e101, go_sem]) hS rfl
  · intro a w1 hS hb hd
    have e99 := hd ⟨31, .data⟩ (by simp) rfl _ _ rfl rfl
    have e99 : a.tmps[99]?.getD undef = (.bool true) := Rg.slot e99
    have e102 := hd ⟨34, .data⟩ (by simp) rfl _ _ rfl rfl
    have e102 : a.tmps[102]?.getD undef = (.bool true) := Rg.slot e102
    exact Rg.does_pure (Rg.wanted_none rfl) (by simp [execOp, e99, e102, go_sem]) hS rfl
  · intro a w1 hS hb hd
    have e103 := hd ⟨35, .data⟩ (by simp) rfl _ _ rfl rfl
    have e103 : a.tmps[103]?.getD undef = (.bool true) := Rg.slot e103
    exact Rg.does_pure (Rg.wanted_none rfl) (by simp [execOp, e103, go_sem]) hS rfl
  · intro a w1 hS hb hd
    have e11 := hb 11 (Rg.nw (by decide))
    simp [Act.eval] at e11
    have e104 := hd ⟨36, .guard⟩ (by simp) rfl _ _ rfl rfl
    exact Rg.does_pure (Rg.wanted_some rfl rfl rfl e104) (by simp [execOp, e11, go_sem]) hS rfl
  · intro a w1 hS hb hd
    have e105 := hd ⟨37, .data⟩ (by simp) rfl _ _ rfl rfl
    have e105 : a.tmps[105]?.getD undef = (.slice (some ⟨g1, 0, none⟩) 1 c1) := Rg.slot e105
    have e104 := hd ⟨36, .guard⟩ (by simp) rfl _ _ rfl rfl
    exact Rg.does_pure (Rg.wanted_some rfl rfl rfl e104) (by simp [execOp, e105, go_sem]) hS rfl
  · intro a w1 hS hb hd
    have e106 := hd ⟨38, .data⟩ (by simp) rfl _ _ rfl rfl
    have e106 : a.tmps[106]?.getD undef = (.pointer (some ⟨g1, 0, none⟩)) := Rg.slot e106
    have e104 := hd ⟨36, .guard⟩ (by simp) rfl _ _ rfl rfl
    exact Rg.does_pure (Rg.wanted_some rfl rfl rfl e104) (by simp [execOp, e106, (charAt0 (F0.out.then_ hS)), go_sem]) hS rfl
  · intro a w1 hS hb hd
    have e107 := hd ⟨39, .data⟩ (by simp) rfl _ _ rfl rfl
    have e107 : a.tmps[107]?.getD undef = (.int .i32 122) := Rg.slot e107
    have e104 := hd ⟨36, .guard⟩ (by simp) rfl _ _ rfl rfl
    exact Rg.does_pure (Rg.wanted_some rfl rfl rfl e104) (by simp [execOp, e107, go_sem]) hS rfl
  · intro a w1 hS hb hd
    have e104 := hd ⟨36, .data⟩ (by simp) rfl _ _ rfl rfl
    have e104 : a.tmps[104]?.getD undef = (.bool true) := Rg.slot e104
    have e108 := hd ⟨40, .data⟩ (by simp) rfl _ _ rfl rfl
    have e108 : a.tmps[108]?.getD undef = (.bool true) := Rg.slot e108
    exact Rg.does_pure (Rg.wanted_none rfl) (by simp [execOp, e104, e108, go_sem]) hS rfl
  · intro a w1 hS hb hd
    have e109 := hd ⟨41, .data⟩ (by simp) rfl _ _ rfl rfl
    have e109 : a.tmps[109]?.getD undef = (.bool true) := Rg.slot e109
    exact Rg.does_pure (Rg.wanted_none rfl) (by simp [execOp, e109, go_sem]) hS rfl
  · intro a w1 hS hb hd
    have e13 := hb 13 (Rg.nw (by decide))
    simp [Act.eval] at e13
    have e110 := hd ⟨42, .guard⟩ (by simp) rfl _ _ rfl rfl
    exact Rg.does_pure (Rg.wanted_some rfl rfl rfl e110) (by simp [execOp, e13, go_sem]) hS rfl
  · intro a w1 hS hb hd
    have e111 := hd ⟨43, .data⟩ (by simp) rfl _ _ rfl rfl
    have e111 : a.tmps[111]?.getD undef = (.slice (some ⟨g2, 0, none⟩) 2 c2) := Rg.slot e111
    have e110 := hd ⟨42, .guard⟩ (by simp) rfl _ _ rfl rfl
    exact Rg.does_pure (Rg.wanted_some rfl rfl rfl e110) (by simp [e111, go_sem]) hS rfl
  · intro a w1 hS hb hd
    have e112 := hd ⟨44, .data⟩ (by simp) rfl _ _ rfl rfl
    have e112 : a.tmps[112]?.getD undef = (.int .i64 2) := Rg.slot e112
    have e110 := hd ⟨42, .guard⟩ (by simp) rfl _ _ rfl rfl
    exact Rg.does_pure (Rg.wanted_some rfl rfl rfl e110) (by simp [execOp, e112, go_sem]) hS rfl
  · intro a w1 hS hb hd
    have e110 := hd ⟨42, .data⟩ (by simp) rfl _ _ rfl rfl
    have e110 : a.tmps[110]?.getD undef = (.bool true) := Rg.slot e110
    have e113 := hd ⟨45, .data⟩ (by simp) rfl _ _ rfl rfl
    have e113 : a.tmps[113]?.getD undef = (.bool true) := Rg.slot e113
    exact Rg.does_pure (Rg.wanted_none rfl) (by simp [execOp, e110, e113, go_sem]) hS rfl
  · intro a w1 hS hb hd
    have e114 := hd ⟨46, .data⟩ (by simp) rfl _ _ rfl rfl
    have e114 : a.tmps[114]?.getD undef = (.bool true) := Rg.slot e114
    exact Rg.does_pure (Rg.wanted_none rfl) (by simp [execOp, e114, go_sem]) hS rfl
  · intro a w1 hS hb hd
    have e13 := hb 13 (Rg.nw (by decide))
    simp [Act.eval] at e13
    have e115 := hd ⟨47, .guard⟩ (by simp) rfl _ _ rfl rfl
    exact Rg.does_pure (Rg.wanted_some rfl rfl rfl e115) (by simp [execOp, e13, go_sem]) hS rfl
  · intro a w1 hS hb hd
    have e116 := hd ⟨48, .data⟩ (by simp) rfl _ _ rfl rfl
    have e116 : a.tmps[116]?.getD undef = (.slice (some ⟨g2, 0, none⟩) 2 c2) := Rg.slot e116
    have e115 := hd ⟨47, .guard⟩ (by simp) rfl _ _ rfl rfl
    exact Rg.does_pure (Rg.wanted_some rfl rfl rfl e115) (by simp [execOp, e116, go_sem]) hS rfl
  · intro a w1 hS hb hd
    have e117 := hd ⟨49, .data⟩ (by simp) rfl _ _ rfl rfl
    have e117 : a.tmps[117]?.getD undef = (.pointer (some ⟨g2, 0, none⟩)) := Rg.slot e117
    have e115 := hd ⟨47, .guard⟩ (by simp) rfl _ _ rfl rfl
    exact Rg.does_pure (Rg.wanted_some rfl rfl rfl e115) (by simp [execOp, e117, go_sem]) hS rfl
  · intro a w1 hS hb hd
    have e118 := hd ⟨50, .data⟩ (by simp) rfl _ _ rfl rfl
    have e118 : a.tmps[118]?.getD undef = (.pointer (some ⟨g2, 0, none⟩)) := Rg.slot e118
    have e115 := hd ⟨47, .guard⟩ (by simp) rfl _ _ rfl rfl
    exact Rg.does_pure (Rg.wanted_some rfl rfl rfl e115) (by simp [execOp, e118, (OwnU.at0 (OwnR.then_ X0.out hS)), go_sem]) hS rfl
  · intro a w1 hS hb hd
    have e119 := hd ⟨51, .data⟩ (by simp) rfl _ _ rfl rfl
    have e119 : a.tmps[119]?.getD undef = (.int .i64 2) := Rg.slot e119
    have e115 := hd ⟨47, .guard⟩ (by simp) rfl _ _ rfl rfl
    exact Rg.does_pure (Rg.wanted_some rfl rfl rfl e115) (by simp [execOp, e119, go_sem]) hS rfl
  · intro a w1 hS hb hd
    have e115 := hd ⟨47, .data⟩ (by simp) rfl _ _ rfl rfl
    have e115 : a.tmps[115]?.getD undef = (.bool true) := Rg.slot e115
    have e120 := hd ⟨52, .data⟩ (by simp) rfl _ _ rfl rfl
    have e120 : a.tmps[120]?.getD undef = (.bool true) := Rg.slot e120
    exact Rg.does_pure (Rg.wanted_none rfl) (by simp [execOp, e115, e120, go_sem]) hS rfl
  · intro a w1 hS hb hd
    have e121 := hd ⟨53, .data⟩ (by simp) rfl _ _ rfl rfl
    have e121 : a.tmps[121]?.getD undef = (.bool true) := Rg.slot e121
    exact Rg.does_pure (Rg.wanted_none rfl) (by simp [execOp, e121, go_sem]) hS rfl
  · intro a w1 hS hb hd
    have e13 := hb 13 (Rg.nw (by decide))
    simp [Act.eval] at e13
    have e122 := hd ⟨54, .guard⟩ (by simp) rfl _ _ rfl rfl
    exact Rg.does_pure (Rg.wanted_some rfl rfl rfl e122) (by simp [execOp, e13, go_sem]) hS rfl
  · intro a w1 hS hb hd
    have e123 := hd ⟨55, .data⟩ (by simp) rfl _ _ rfl rfl
    have e123 : a.tmps[123]?.getD undef = (.slice (some ⟨g2, 0, none⟩) 2 c2) := Rg.slot e123
    have e122 := hd ⟨54, .guard⟩ (by simp) rfl _ _ rfl rfl
    exact Rg.does_pure (Rg.wanted_some rfl rfl rfl e122) (by simp [execOp, e123, go_sem]) hS rfl
  · intro a w1 hS hb hd
    have e124 := hd ⟨56, .data⟩ (by simp) rfl _ _ rfl rfl
    have e124 : a.tmps[124]?.getD undef = (.pointer (some ⟨g2, 5, none⟩)) := Rg.slot e124
    have e122 := hd ⟨54, .guard⟩ (by simp) rfl _ _ rfl rfl
    exact Rg.does_pure (Rg.wanted_some rfl rfl rfl e122) (by simp [execOp, e124, go_sem]) hS rfl
  · intro a w1 hS hb hd
    have e125 := hd ⟨57, .data⟩ (by simp) rfl _ _ rfl rfl
    have e125 : a.tmps[125]?.getD undef = (.pointer (some ⟨g2, 5, none⟩)) := Rg.slot e125
    have e122 := hd ⟨54, .guard⟩ (by simp) rfl _ _ rfl rfl
    exact Rg.does_pure (Rg.wanted_some rfl rfl rfl e122) (by simp [execOp, e125, (OwnU.at1 (OwnR.then_ X0.out hS)), go_sem]) hS rfl
  · intro a w1 hS hb hd
    have e126 := hd ⟨58, .data⟩ (by simp) rfl _ _ rfl rfl
    have e126 : a.tmps[126]?.getD undef = (.int .i64 0) := Rg.slot e126
    have e122 := hd ⟨54, .guard⟩ (by simp) rfl _ _ rfl rfl
    exact Rg.does_pure (Rg.wanted_some rfl rfl rfl e122) (by simp [execOp, e126, go_sem]) hS rfl
  · intro a w1 hS hb hd
    have e122 := hd ⟨54, .data⟩ (by simp) rfl _ _ rfl rfl
    have e122 : a.tmps[122]?.getD undef = (.bool true) := Rg.slot e122
    have e127 := hd ⟨59, .data⟩ (by simp) rfl _ _ rfl rfl
    have e127 : a.tmps[127]?.getD undef = (.bool true) := Rg.slot e127
    exact Rg.does_pure (Rg.wanted_none rfl) (by simp [execOp, e122, e127, go_sem]) hS rfl
  · intro a w1 hS hb hd
    have e128 := hd ⟨60, .data⟩ (by simp) rfl _ _ rfl rfl
    have e128 : a.tmps[128]?.getD undef = (.bool true) := Rg.slot e128
    exact Rg.does_pure (Rg.wanted_none rfl) (by simp [execOp, e128, go_sem]) hS rfl
  · intro a w1 hS hb hd
    have e14 := hb 14 (Rg.nw (by decide))
    simp [Act.eval] at e14
    have e129 := hd ⟨61, .guard⟩ (by simp) rfl _ _ rfl rfl
    exact Rg.does_pure (Rg.wanted_some rfl rfl rfl e129) (by simp [execOp, e14, go_sem]) hS rfl
  · intro a w1 hS hb hd
    have e130 := hd ⟨62, .data⟩ (by simp) rfl _ _ rfl rfl
    have e130 : a.tmps[130]?.getD undef = (.slice (some ⟨g3, 0, none⟩) 1 c3) := Rg.slot e130
    have e129 := hd ⟨61, .guard⟩ (by simp) rfl _ _ rfl rfl
    exact Rg.does_pure (Rg.wanted_some rfl rfl rfl e129) (by simp [e130, go_sem]) hS rfl
  · intro a w1 hS hb hd
    have e131 := hd ⟨63, .data⟩ (by simp) rfl _ _ rfl rfl
    have e131 : a.tmps[131]?.getD undef = (.int .i64 1) := Rg.slot e131
    have e129 := hd ⟨61, .guard⟩ (by simp) rfl _ _ rfl rfl
    exact Rg.does_pure (Rg.wanted_some rfl rfl rfl e129) (by simp [execOp, e131, go_sem]) hS rfl
  · intro a w1 hS hb hd
    have e129 := hd ⟨61, .data⟩ (by simp) rfl _ _ rfl rfl
    have e129 : a.tmps[129]?.getD undef = (.bool true) := Rg.slot e129
    have e132 := hd ⟨64, .data⟩ (by simp) rfl _ _ rfl rfl
    have e132 : a.tmps[132]?.getD undef = (.bool true) := Rg.slot e132
    exact Rg.does_pure (Rg.wanted_none rfl) (by simp [execOp, e129, e132, go_sem]) hS rfl
  · intro a w1 hS hb hd
    have e133 := hd ⟨65, .data⟩ (by simp) rfl _ _ rfl rfl
    have e133 : a.tmps[133]?.getD undef = (.bool true) := Rg.slot e133
    exact Rg.does_pure (Rg.wanted_none rfl) (by simp [execOp, e133, go_sem]) hS rfl
  · intro a w1 hS hb hd
    have e14 := hb 14 (Rg.nw (by decide))
    simp [Act.eval] at e14
    have e134 := hd ⟨66, .guard⟩ (by simp) rfl _ _ rfl rfl
    exact Rg.does_pure (Rg.wanted_some rfl rfl rfl e134) (by simp [execOp, e14, go_sem]) hS rfl
  · intro a w1 hS hb hd
    have e135 := hd ⟨67, .data⟩ (by simp) rfl _ _ rfl rfl
    have e135 : a.tmps[135]?.getD undef = (.slice (some ⟨g3, 0, none⟩) 1 c3) := Rg.slot e135
    have e134 := hd ⟨66, .guard⟩ (by simp) rfl _ _ rfl rfl
    exact Rg.does_pure (Rg.wanted_some rfl rfl rfl e134) (by simp [execOp, e135, go_sem]) hS rfl
  · intro a w1 hS hb hd
    have e136 := hd ⟨68, .data⟩ (by simp) rfl _ _ rfl rfl
    have e136 : a.tmps[136]?.getD undef = (.pointer (some ⟨g3, 0, none⟩)) := Rg.slot e136
    have e134 := hd ⟨66, .guard⟩ (by simp) rfl _ _ rfl rfl
    exact Rg.does_pure (Rg.wanted_some rfl rfl rfl e134) (by simp [execOp, e136, go_sem]) hS rfl
  · intro a w1 hS hb hd
    have e137 := hd ⟨69, .data⟩ (by simp) rfl _ _ rfl rfl
    have e137 : a.tmps[137]?.getD undef = (.pointer (some ⟨g3, 0, none⟩)) := Rg.slot e137
    have e134 := hd ⟨66, .guard⟩ (by simp) rfl _ _ rfl rfl
    exact Rg.does_pure (Rg.wanted_some rfl rfl rfl e134) (by simp [execOp, e137, (OwnU.at0 (OwnR.then_ Y0.out hS)), go_sem]) hS rfl
  · intro a w1 hS hb hd
    have e138 := hd ⟨70, .data⟩ (by simp) rfl _ _ rfl rfl
    have e138 : a.tmps[138]?.getD undef = (.int .i64 0) := Rg.slot e138
    have e134 := hd ⟨66, .guard⟩ (by simp) rfl _ _ rfl rfl
    exact Rg.does_pure (Rg.wanted_some rfl rfl rfl e134) (by simp [execOp, e138, go_sem]) hS rfl
  · intro a w1 hS hb hd
    have e134 := hd ⟨66, .data⟩ (by simp) rfl _ _ rfl rfl
    have e134 : a.tmps[134]?.getD undef = (.bool true) := Rg.slot e134
    have e139 := hd ⟨71, .data⟩ (by simp) rfl _ _ rfl rfl
    have e139 : a.tmps[139]?.getD undef = (.bool true) := Rg.slot e139
    exact Rg.does_pure (Rg.wanted_none rfl) (by simp [execOp, e134, e139, go_sem]) hS rfl
  · intro a w1 hS hb hd
    have e140 := hd ⟨72, .data⟩ (by simp) rfl _ _ rfl rfl
    have e140 : a.tmps[140]?.getD undef = (.bool true) := Rg.slot e140
    exact Rg.does_pure (Rg.wanted_none rfl) (by simp [execOp, e140, go_sem]) hS rfl
  · intro a w1 hS hb hd
    have e15 := hb 15 (Rg.nw (by decide))
    simp [Act.eval] at e15
    have e141 := hd ⟨73, .guard⟩ (by simp) rfl _ _ rfl rfl
    exact Rg.does_pure (Rg.wanted_some rfl rfl rfl e141) (by simp [execOp, e15, go_sem]) hS rfl
  · intro a w1 hS hb hd
    have e142 := hd ⟨74, .data⟩ (by simp) rfl _ _ rfl rfl
    have e142 : a.tmps[142]?.getD undef = (.slice A4 0 c4) := Rg.slot e142
    have e141 := hd ⟨73, .guard⟩ (by simp) rfl _ _ rfl rfl
    exact Rg.does_pure (Rg.wanted_some rfl rfl rfl e141) (by simp [e142, go_sem]) hS rfl
  · intro a w1 hS hb hd
    have e143 := hd ⟨75, .data⟩ (by simp) rfl _ _ rfl rfl
    have e143 : a.tmps[143]?.getD undef = (.int .i64 0) := Rg.slot e143
    have e141 := hd ⟨73, .guard⟩ (by simp) rfl _ _ rfl rfl
    exact Rg.does_pure (Rg.wanted_some rfl rfl rfl e141) (by simp [execOp, e143, go_sem]) hS rfl
  · intro a w1 hS hb hd
    have e141 := hd ⟨73, .data⟩ (by simp) rfl _ _ rfl rfl
    have e141 : a.tmps[141]?.getD undef = (.bool true) := Rg.slot e141
    have e144 := hd ⟨76, .data⟩ (by simp) rfl _ _ rfl rfl
    have e144 : a.tmps[144]?.getD undef = (.bool true) := Rg.slot e144
    exact Rg.does_pure (Rg.wanted_none rfl) (by simp [execOp, e141, e144, go_sem]) hS rfl
  · intro a w1 hS hb hd
    have e145 := hd ⟨77, .data⟩ (by simp) rfl _ _ rfl rfl
    have e145 : a.tmps[145]?.getD undef = (.bool true) := Rg.slot e145
    exact Rg.does_pure (Rg.wanted_none rfl) (by simp [execOp, e145, go_sem]) hS rfl
  · intro a w1 hS hb hd
    have e16 := hb 16 (Rg.nw (by decide))
    simp [Act.eval] at e16
    have e146 := hd ⟨78, .guard⟩ (by simp) rfl _ _ rfl rfl
    exact Rg.does_pure (Rg.wanted_some rfl rfl rfl e146) (by simp [execOp, e16, go_sem]) hS rfl
  · intro a w1 hS hb hd
    have e147 := hd ⟨79, .data⟩ (by simp) rfl _ _ rfl rfl
    have e147 : a.tmps[147]?.getD undef = (.slice (some ⟨g5, 0, none⟩) 1 c5) := Rg.slot e147
    have e146 := hd ⟨78, .guard⟩ (by simp) rfl _ _ rfl rfl
    exact Rg.does_pure (Rg.wanted_some rfl rfl rfl e146) (by simp [e147, go_sem]) hS rfl
  · intro a w1 hS hb hd
    have e148 := hd ⟨80, .data⟩ (by simp) rfl _ _ rfl rfl
    have e148 : a.tmps[148]?.getD undef = (.int .i64 1) := Rg.slot e148
    have e146 := hd ⟨78, .guard⟩ (by simp) rfl _ _ rfl rfl
    exact Rg.does_pure (Rg.wanted_some rfl rfl rfl e146) (by simp [execOp, e148, go_sem]) hS rfl
  · intro a w1 hS hb hd
    have e146 := hd ⟨78, .data⟩ (by simp) rfl _ _ rfl rfl
    have e146 : a.tmps[146]?.getD undef = (.bool true) := Rg.slot e146
    have e149 := hd ⟨81, .data⟩ (by simp) rfl _ _ rfl rfl
    have e149 : a.tmps[149]?.getD undef = (.bool true) := Rg.slot e149
    exact Rg.does_pure (Rg.wanted_none rfl) (by simp [execOp, e146, e149, go_sem]) hS rfl
  · intro a w1 hS hb hd
    have e150 := hd ⟨82, .data⟩ (by simp) rfl _ _ rfl rfl
    have e150 : a.tmps[150]?.getD undef = (.bool true) := Rg.slot e150
    exact Rg.does_pure (Rg.wanted_none rfl) (by simp [execOp, e150, go_sem]) hS rfl
  · intro a w1 hS hb hd
    have e16 := hb 16 (Rg.nw (by decide))
    simp [Act.eval] at e16
    have e151 := hd ⟨83, .guard⟩ (by simp) rfl _ _ rfl rfl
    exact Rg.does_pure (Rg.wanted_some rfl rfl rfl e151) (by simp [execOp, e16, go_sem]) hS rfl
  · intro a w1 hS hb hd
    have e152 := hd ⟨84, .data⟩ (by simp) rfl _ _ rfl rfl
    have e152 : a.tmps[152]?.getD undef = (.slice (some ⟨g5, 0, none⟩) 1 c5) := Rg.slot e152
    have e151 := hd ⟨83, .guard⟩ (by simp) rfl _ _ rfl rfl
    exact Rg.does_pure (Rg.wanted_some rfl rfl rfl e151) (by simp [execOp, e152, go_sem]) hS rfl
  · intro a w1 hS hb hd
    have e153 := hd ⟨85, .data⟩ (by simp) rfl _ _ rfl rfl
    have e153 : a.tmps[153]?.getD undef = (.pointer (some ⟨g5, 0, none⟩)) := Rg.slot e153
    have e151 := hd ⟨83, .guard⟩ (by simp) rfl _ _ rfl rfl
    exact Rg.does_pure (Rg.wanted_some rfl rfl rfl e151) (by simp [execOp, e153, (OwnU.at0 (OwnR.then_ Z0.out hS)), go_sem]) hS rfl
  · intro a w1 hS hb hd
    have e151 := hd ⟨83, .guard⟩ (by simp) rfl _ _ rfl rfl
    refine Rg.does_call (f := 32) (args := #[.int .i64 0]) (Rg.wanted_some rfl rfl rfl e151) (by simp [go_sem]) ?_
    exact (del_any 0 w1).mono fun e w3 ⟨h1, h2⟩ => ⟨_, h1, rfl, below_then hS h2, h2⟩
  · intro a w1 hS hb hd
    have e154 := hd ⟨86, .data⟩ (by simp) rfl _ _ rfl rfl
    have e154 : a.tmps[154]?.getD undef = (.agg #[.int .i64 2, .int .i64 0, .int .i32 0, .int .u32 1, .int .u64 1]) := Rg.slot e154
    have e155 := hd ⟨87, .data⟩ (by simp) rfl _ _ rfl rfl
    have e155 : a.tmps[155]?.getD undef = (.agg #[.int .i64 2, .int .i64 0, .int .i32 0, .int .u32 1, .int .u64 1]) := Rg.slot e155
    have e151 := hd ⟨83, .guard⟩ (by simp) rfl _ _ rfl rfl
    exact Rg.does_pure (Rg.wanted_some rfl rfl rfl e151) (by simp [execOp, e154, e155, (guard_unit .eql), go_sem]) hS rfl
  · intro a w1 hS hb hd
    have e151 := hd ⟨83, .data⟩ (by simp) rfl _ _ rfl rfl
    have e151 : a.tmps[151]?.getD undef = (.bool true) := Rg.slot e151
    have e156 := hd ⟨88, .data⟩ (by simp) rfl _ _ rfl rfl
    have e156 : a.tmps[156]?.getD undef = (.bool true) := Rg.slot e156
    exact Rg.does_pure (Rg.wanted_none rfl) (by simp [execOp, e151, e156, go_sem]) hS rfl
  · intro a w1 hS hb hd
    have e157 := hd ⟨89, .data⟩ (by simp) rfl _ _ rfl rfl
    have e157 : a.tmps[157]?.getD undef = (.bool true) := Rg.slot e157
    exact Rg.does_pure (Rg.wanted_none rfl) (by simp [execOp, e157, go_sem]) hS rfl
  · intro a w1 hS hb hd
    have e158 := hd ⟨90, .guard⟩ (by simp) rfl _ _ rfl rfl
    refine Rg.does_call (f := 23) (args := #[.int .i64 5, .slice none 0 0]) (Rg.wanted_some rfl rfl rfl e158) (by simp [go_sem]) ?_; have hp := place_any 5 none 0 0 [] w1 (Rws.none_ _ _ _); rw [k9] at hp; exact hp.mono fun e w3 ⟨h1, h2⟩ => ⟨_, h1, rfl, below_then hS h2, h2⟩
  · intro a w1 hS hb hd
    have e159 := hd ⟨91, .data⟩ (by simp) rfl _ _ rfl rfl
    have e159 : a.tmps[159]?.getD undef = (.int .i64 5) := Rg.slot e159
    have e158 := hd ⟨90, .guard⟩ (by simp) rfl _ _ rfl rfl
    exact Rg.does_pure (Rg.wanted_some rfl rfl rfl e158) (by simp [execOp, e159, go_sem]) hS rfl
  · intro a w1 hS hb hd
    have e158 := hd ⟨90, .data⟩ (by simp) rfl _ _ rfl rfl
    have e158 : a.tmps[158]?.getD undef = (.bool true) := Rg.slot e158
    have e160 := hd ⟨92, .data⟩ (by simp) rfl _ _ rfl rfl
    have e160 : a.tmps[160]?.getD undef = (.bool true) := Rg.slot e160
    exact Rg.does_pure (Rg.wanted_none rfl) (by simp [execOp, e158, e160, go_sem]) hS rfl
  · intro a w1 hS hb hd
    have e161 := hd ⟨93, .data⟩ (by simp) rfl _ _ rfl rfl
    have e161 : a.tmps[161]?.getD undef = (.bool true) := Rg.slot e161
    exact Rg.does_pure (Rg.wanted_none rfl) (by simp [execOp, e161, go_sem]) hS rfl
  · intro a w1 hS hb hd
    have e162 := hd ⟨94, .guard⟩ (by simp) rfl _ _ rfl rfl
    refine Rg.does_call (f := 32) (args := #[.int .i64 0]) (Rg.wanted_some rfl rfl rfl e162) (by simp [go_sem]) ?_
    exact (del_any 0 w1).mono fun e w3 ⟨h1, h2⟩ => ⟨_, h1, rfl, below_then hS h2, h2⟩
  · intro a w1 hS hb hd
    have e163 := hd ⟨95, .data⟩ (by simp) rfl _ _ rfl rfl
    have e163 : a.tmps[163]?.getD undef = (.agg #[.int .i64 2, .int .i64 0, .int .i32 0, .int .u32 1, .int .u64 1]) := Rg.slot e163
    have e162 := hd ⟨94, .guard⟩ (by simp) rfl _ _ rfl rfl
    exact Rg.does_new (x := .slice (some ⟨w1.heap.size, 0, none⟩) 1 1) (ob := .cells #[.int .i64 2, .int .i64 0, .int .i32 0, .int .u32 1, .int .u64 1] 36) (Rg.wanted_some rfl rfl rfl e162) (by simp [execOp, e163, go_sem]) (below_alloc hS _) ⟨w1.heap.size, 1, rfl, OwnU.uns (unit_row w1 2 0 0 1 1)⟩
  · intro a w1 hS hb hd
    have e164 := hd ⟨96, .data⟩ (by simp) rfl _ _ rfl rfl
    have e162 := hd ⟨94, .guard⟩ (by simp) rfl _ _ rfl rfl
    obtain ⟨g, c, eg, hu⟩ := e164; have eh := Rg.slot eg; refine Rg.does_call (f := 23) (args := #[.int .i64 1, .slice (some ⟨g, 0, none⟩) 1 c]) (Rg.wanted_some rfl rfl rfl e162) (by simp [eh, go_sem]) ?_; have hp := place_any 1 _ 1 c _ w1 hu; rw [k10] at hp; exact hp.mono fun e w3 ⟨h1, h2⟩ => ⟨_, h1, rfl, below_then hS h2, h2⟩
  · intro a w1 hS hb hd
    have e165 := hd ⟨97, .data⟩ (by simp) rfl _ _ rfl rfl
    have e165 : a.tmps[165]?.getD undef = (.int .i64 0) := Rg.slot e165
    have e162 := hd ⟨94, .guard⟩ (by simp) rfl _ _ rfl rfl
    exact Rg.does_pure (Rg.wanted_some rfl rfl rfl e162) (by simp [execOp, e165, go_sem]) hS rfl
  · intro a w1 hS hb hd
    have e162 := hd ⟨94, .data⟩ (by simp) rfl _ _ rfl rfl
    have e162 : a.tmps[162]?.getD undef = (.bool true) := Rg.slot e162
    have e166 := hd ⟨98, .data⟩ (by simp) rfl _ _ rfl rfl
    have e166 : a.tmps[166]?.getD undef = (.bool true) := Rg.slot e166
    exact Rg.does_pure (Rg.wanted_none rfl) (by simp [execOp, e162, e166, go_sem]) hS rfl
  · intro a w1 hS hb hd
    have e167 := hd ⟨99, .data⟩ (by simp) rfl _ _ rfl rfl
    have e167 : a.tmps[167]?.getD undef = (.bool true) := Rg.slot e167
    exact Rg.does_pure (Rg.wanted_none rfl) (by simp [execOp, e167, go_sem]) hS rfl
  · intro a w1 hS hb hd
    have e168 := hd ⟨100, .guard⟩ (by simp) rfl _ _ rfl rfl
    refine Rg.does_call (f := 32) (args := #[.int .i64 1]) (Rg.wanted_some rfl rfl rfl e168) (by simp [go_sem]) ?_
    exact (del_any 1 w1).mono fun e w3 ⟨h1, h2⟩ => ⟨_, h1, rfl, below_then hS h2, h2⟩
  · intro a w1 hS hb hd
    have e169 := hd ⟨101, .data⟩ (by simp) rfl _ _ rfl rfl
    have e169 : a.tmps[169]?.getD undef = (.agg #[.int .i64 2, .int .i64 1, .int .i32 0, .int .u32 1, .int .u64 1]) := Rg.slot e169
    have e168 := hd ⟨100, .guard⟩ (by simp) rfl _ _ rfl rfl
    exact Rg.does_new (x := .slice (some ⟨w1.heap.size, 0, none⟩) 1 1) (ob := .cells #[.int .i64 2, .int .i64 1, .int .i32 0, .int .u32 1, .int .u64 1] 36) (Rg.wanted_some rfl rfl rfl e168) (by simp [execOp, e169, go_sem]) (below_alloc hS _) ⟨w1.heap.size, 1, rfl, OwnU.uns (unit_row w1 2 1 0 1 1)⟩
  · intro a w1 hS hb hd
    have e170 := hd ⟨102, .data⟩ (by simp) rfl _ _ rfl rfl
    have e168 := hd ⟨100, .guard⟩ (by simp) rfl _ _ rfl rfl
    obtain ⟨g, c, eg, hu⟩ := e170; have eh := Rg.slot eg; refine Rg.does_call (f := 23) (args := #[.int .i64 1, .slice (some ⟨g, 0, none⟩) 1 c]) (Rg.wanted_some rfl rfl rfl e168) (by simp [eh, go_sem]) ?_; have hp := place_any 1 _ 1 c _ w1 hu; rw [k11] at hp; exact hp.mono fun e w3 ⟨h1, h2⟩ => ⟨_, h1, rfl, below_then hS h2, h2⟩
  · intro a w1 hS hb hd
    have e171 := hd ⟨103, .data⟩ (by simp) rfl _ _ rfl rfl
    have e171 : a.tmps[171]?.getD undef = (.int .i64 1) := Rg.slot e171
    have e168 := hd ⟨100, .guard⟩ (by simp) rfl _ _ rfl rfl
    exact Rg.does_pure (Rg.wanted_some rfl rfl rfl e168) (by simp [execOp, e171, go_sem]) hS rfl
  · intro a w1 hS hb hd
    have e168 := hd ⟨100, .data⟩ (by simp) rfl _ _ rfl rfl
    have e168 : a.tmps[168]?.getD undef = (.bool true) := Rg.slot e168
    have e172 := hd ⟨104, .data⟩ (by simp) rfl _ _ rfl rfl
    have e172 : a.tmps[172]?.getD undef = (.bool true) := Rg.slot e172
    exact Rg.does_pure (Rg.wanted_none rfl) (by simp [execOp, e168, e172, go_sem]) hS rfl
  · intro a w1 hS hb hd
    have e173 := hd ⟨105, .data⟩ (by simp) rfl _ _ rfl rfl
    have e173 : a.tmps[173]?.getD undef = (.bool true) := Rg.slot e173
    exact Rg.does_pure (Rg.wanted_none rfl) (by simp [execOp, e173, go_sem]) hS rfl
  · intro v w3 hS hv
    have HB3 := Lib.hid (below_then' HBW.out hS HBW.out.size)
    have h0 : v 106 = .bool true := hv 106 _ _ rfl rfl
    clear hS hv
    simp only [List.append_eq, List.cons_append, List.nil_append, Rg.putAll, Nat.zero_add, Nat.reduceAdd]
    simp only [Act.put, List.setIfInBounds_toArray, List.set_cons_succ, List.set_cons_zero]
    rw [h0]
    go_wp2_with fail
    go_ret
    exact ⟨rfl, HB3.out⟩
end weaveKnown
end Go.Proofs.Ytaboamkfpolpbaa
