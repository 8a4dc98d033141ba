/-
  The statements' own awake (the document's examples), me, you: it returns true; nothing that was there turned. No conditions.
-/
import Derived.Test.YtlnekhkdncccgaaUnG
import Derived.BigQuiet
namespace Go.Proofs.Ytlnekhkdncccgaa
open Go.RowKit
open Pl (Un)

theorem results_id {fn : Func} {t : Tmp} {tmps : Array Value} {b : Nat} {Z : World} {x y : Int} (h : fn.results = #[.cell t 34]) (ha : tmps.getD t undef = .pointer (some ⟨b, 0, none⟩)) (hZ : IdAt Z b x y) :
    (results fn tmps).run Try.prog Z = .ok (.agg #[.int .u32 x, .int .u64 y]) Z := by
  obtain ⟨c0, c1⟩ := hZ.cells
  have ha' : tmps[t]?.getD undef = .pointer (some ⟨b, 0, none⟩) := by simpa using ha
  simp [results, h, ha', go_sem, c0, c1]
set_option maxRecDepth 100000 in
theorem me_any (w : World) : Calls Try.prog 13 #[] w fun e w' => e = .returned (.agg #[.int .u32 1, .int .u64 7]) ∧ Below w.heap.size w w' := by
  go_enter Try.func13, Try.ntmps13
  go_wp2_with fail
  exact bodyPost_ret (results_id rfl (by rfl) (show IdAt _ w.heap.size 1 7 from heap_new rfl)) rfl ⟨rfl, below_box _ _⟩
set_option maxRecDepth 100000 in
theorem you_any (w : World) : Calls Try.prog 24 #[] w fun e w' => e = .returned (.agg #[.int .u32 2, .int .u64 1]) ∧ Below w.heap.size w w' := by
  go_enter Try.func24, Try.ntmps24
  go_wp2_with fail
  exact bodyPost_ret (results_id rfl (by rfl) (show IdAt _ w.heap.size 2 1 from heap_new rfl)) rfl ⟨rfl, below_box _ _⟩
theorem aw_fit : Pl.FitR [⟨2, 1, 0, 1, 7⟩, ⟨1, 0, 120, 1, 7⟩] [97, 98, 99] := ⟨by decide +kernel, by decide +kernel, trivial⟩
theorem aw_fill : Pl.fillL [⟨2, 1, 0, 1, 7⟩, ⟨1, 0, 120, 1, 7⟩] [97, 98, 99] = [⟨2, 1, 98, 1, 7⟩, ⟨1, 0, 120, 1, 7⟩] := by decide +kernel
theorem aw_inv : Pl.invR 1 7 [⟨2, 1, 98, 1, 7⟩, ⟨1, 0, 120, 1, 7⟩] = [⟨2, 0, 0, 1, 7⟩, ⟨1, 1, 98, 1, 7⟩] := by decide +kernel
theorem aw_fit2 : Pl.FitR ([⟨2, 1, 98, 1, 7⟩, ⟨1, 0, 120, 1, 7⟩] ++ [⟨1, 3, 121, 2, 1⟩]) [97, 98, 99] := ⟨by decide +kernel, by decide +kernel, by decide +kernel, trivial⟩
theorem aw_lv2 : Pl.leave ([⟨2, 1, 98, 1, 7⟩, ⟨1, 0, 120, 1, 7⟩] ++ [⟨1, 3, 121, 2, 1⟩]) [97, 98, 99] = [120, 97, 99, 121] := by decide +kernel
theorem aw_back : Pl.cleanL (Pl.pastR (Pl.invR 1 7 [⟨2, 1, 98, 1, 7⟩, ⟨1, 0, 120, 1, 7⟩]) [[⟨1, 3, 121, 2, 1⟩]]) = [⟨2, 0, 0, 1, 7⟩, ⟨1, 1, 98, 1, 7⟩] := by decide +kernel
theorem aw_fit3 : Pl.FitR [⟨2, 0, 0, 1, 7⟩, ⟨1, 1, 98, 1, 7⟩] [120, 97, 99, 121] := ⟨by decide +kernel, by decide +kernel, trivial⟩
theorem aw_lv3 : Pl.leave [⟨2, 0, 0, 1, 7⟩, ⟨1, 1, 98, 1, 7⟩] [120, 97, 99, 121] = [97, 98, 99, 121] := by decide +kernel
theorem units_row (w : World) (l : List Un) (hl : l.length ≤ maxLen) : OwnU (w.alloc (.cells (cellsR encU l).toArray 42)) w.heap.size (.slice (some ⟨w.heap.size, 0, none⟩) l.length l.length) l := units_lit w l hl
/-- a text's value, told by what it reads as -/
def TxtIs (cs : List Int) (v : Value) (w : World) : Prop := ∃ A c, v = .slice A cs.length c ∧ Crs w w.heap.size A cs.length c cs
theorem TxtIs.stb {cs : List Int} : Rg.Stb (TxtIs cs) := fun _ _ _ ⟨A, c, e, h⟩ hb => ⟨A, c, e, h.then_ hb⟩
set_option maxRecDepth 100000 in
set_option maxHeartbeats 4000000 in
theorem awake_any (w : World) : Calls Try.prog 20 #[] w fun e w' => e = .returned (.bool true) ∧ Below w.heap.size w w' := by
  go_enter Try.func20, Try.ntmps20
  obtain ⟨w_1, hw⟩ : ∃ x, x = w.alloc (.cells #[.int .i32 97, .int .i32 98, .int .i32 99] 40) := ⟨_, rfl⟩
  have hx : Crs (w.alloc (.cells #[.int .i32 97, .int .i32 98, .int .i32 99] 40)) (w.alloc (.cells #[.int .i32 97, .int .i32 98, .int .i32 99] 40)).heap.size (some ⟨w.heap.size, 0, none⟩) 3 3 [97, 98, 99] := chars_row w [97, 98, 99] (small_js (by simp)) (by simp [maxLen])
  have hb : Below w.heap.size w w_1 := by rw [hw]; exact below_box _ _
  rw [← hw] at hx
  have HWw_1 := Lib.hid hw
  have HSw_1 := Lib.hid (show w_1.heap.size = w.heap.size + 1 by rw [hw]; simp)
  have HB_2 := Lib.hid (hb)
  have T_3 := Lib.hid (hx)
  clear hw hx hb
  go_wp2_with fail
  rw [← HWw_1.out]
  refine ((me_any w_1)).mono ?_
  rintro e w_4 ⟨rfl, hb⟩
  have T_5 := Lib.hid (Crs.then_ T_3.out hb)
  have HB_6 := Lib.hid (below_then' HB_2.out hb HB_2.out.size)
  clear T_3 HB_2
  clear hb
  go_wp2_with fail
  refine ((me_any w_4)).mono ?_
  rintro e w_7 ⟨rfl, hb⟩
  have T_8 := Lib.hid (Crs.then_ T_5.out hb)
  have HB_9 := Lib.hid (below_then' HB_6.out hb HB_6.out.size)
  clear T_5 HB_6
  clear hb
  obtain ⟨w_10, hw⟩ : ∃ x, x = w_7.alloc (.cells #[.int .i64 2, .int .i64 1, .int .i32 0, .int .u32 1, .int .u64 7, .int .i64 1, .int .i64 0, .int .i32 120, .int .u32 1, .int .u64 7] 42) := ⟨_, rfl⟩
  have hx : OwnU (w_7.alloc (.cells #[.int .i64 2, .int .i64 1, .int .i32 0, .int .u32 1, .int .u64 7, .int .i64 1, .int .i64 0, .int .i32 120, .int .u32 1, .int .u64 7] 42)) w_7.heap.size (.slice (some ⟨w_7.heap.size, 0, none⟩) 2 2) [⟨2, 1, 0, 1, 7⟩, ⟨1, 0, 120, 1, 7⟩] := units_lit w_7 [⟨2, 1, 0, 1, 7⟩, ⟨1, 0, 120, 1, 7⟩] (by simp [maxLen])
  have hb : Below w_7.heap.size w_7 w_10 := by rw [hw]; exact below_box _ _
  rw [← hw] at hx
  have HWw_10 := Lib.hid hw
  have HSw_10 := Lib.hid (show w_10.heap.size = w_7.heap.size + 1 by rw [hw]; simp)
  have T_11 := Lib.hid (Crs.then_ T_8.out hb)
  have HB_12 := Lib.hid (below_then' HB_9.out hb HB_9.out.size)
  clear T_8 HB_9
  have R_13 := Lib.hid (hx)
  clear hw hx hb
  go_wp2_with fail
  rw [← HWw_10.out]
  refine ((fill_any _ 2 2 _ _ 3 3 _ w_10 (OwnU.uns R_13.out) T_11.out (by decide) (by decide) aw_fit)).mono ?_
  rintro e w_14 ⟨A1, c1, rfl, ho, hb⟩
  rw [aw_fill] at ho
  simp only [List.length_cons, List.length_nil, Nat.zero_add, Nat.reduceAdd] at ho ⊢
  obtain ⟨g1, rfl⟩ := ho.block (by decide)
  clear R_13
  have T_15 := Lib.hid (Crs.then_ T_11.out hb)
  have HB_16 := Lib.hid (below_then' HB_12.out hb HB_12.out.size)
  clear T_11 HB_12
  have F_17 := Lib.hid (ho)
  obtain ⟨f0, f1, f2, f3, f4, _⟩ := OwnU.cells ho (i := 0) (by decide)
  simp at f0 f1 f2 f3 f4
  clear hb ho
  go_wp2_with fail
  refine ((me_any w_14)).mono ?_
  rintro e w_18 ⟨rfl, hb⟩
  have T_19 := Lib.hid (Crs.then_ T_15.out hb)
  have F_20 := Lib.hid (OwnR.then_ F_17.out hb)
  have HB_21 := Lib.hid (below_then' HB_16.out hb HB_16.out.size)
  clear T_15 F_17 HB_16
  clear hb f0 f1 f2 f3 f4
  go_wp2_with fail
  refine ((inverse_any _ 2 c1 _ 1 7 w_18 (OwnU.uns F_20.out) (by decide))).mono ?_
  rintro e w_22 ⟨A2, c2, rfl, ho, hb⟩
  rw [aw_inv] at ho ⊢
  simp only [List.length_cons, List.length_nil, Nat.zero_add, Nat.reduceAdd] at ho ⊢
  obtain ⟨g2, rfl⟩ := ho.block (by decide)
  have T_23 := Lib.hid (Crs.then_ T_19.out hb)
  have F_24 := Lib.hid (OwnR.then_ F_20.out hb)
  have HB_25 := Lib.hid (below_then' HB_21.out hb HB_21.out.size)
  clear T_19 F_20 HB_21
  have I_26 := Lib.hid (ho)
  clear hb ho
  go_wp2_with fail
  refine ((you_any w_22)).mono ?_
  rintro e w_27 ⟨rfl, hb⟩
  have T_28 := Lib.hid (Crs.then_ T_23.out hb)
  have F_29 := Lib.hid (OwnR.then_ F_24.out hb)
  have I_30 := Lib.hid (OwnR.then_ I_26.out hb)
  have HB_31 := Lib.hid (below_then' HB_25.out hb HB_25.out.size)
  clear T_23 F_24 I_26 HB_25
  clear hb
  obtain ⟨w_32, hw⟩ : ∃ x, x = w_27.alloc (.cells #[.int .i64 1, .int .i64 3, .int .i32 121, .int .u32 2, .int .u64 1] 42) := ⟨_, rfl⟩
  have hx : OwnU (w_27.alloc (.cells #[.int .i64 1, .int .i64 3, .int .i32 121, .int .u32 2, .int .u64 1] 42)) w_27.heap.size (.slice (some ⟨w_27.heap.size, 0, none⟩) 1 1) [⟨1, 3, 121, 2, 1⟩] := units_lit w_27 [⟨1, 3, 121, 2, 1⟩] (by simp [maxLen])
  have hb : Below w_27.heap.size w_27 w_32 := by rw [hw]; exact below_box _ _
  rw [← hw] at hx
  have HWw_32 := Lib.hid hw
  have HSw_32 := Lib.hid (show w_32.heap.size = w_27.heap.size + 1 by rw [hw]; simp)
  have T_33 := Lib.hid (Crs.then_ T_28.out hb)
  have F_34 := Lib.hid (OwnR.then_ F_29.out hb)
  have I_35 := Lib.hid (OwnR.then_ I_30.out hb)
  have HB_36 := Lib.hid (below_then' HB_31.out hb HB_31.out.size)
  clear T_28 F_29 I_30 HB_31
  have Y_37 := Lib.hid (hx)
  clear hw hx hb
  have hbe := below_box w_32 (.cells #[] 42)
  have hE := units_lit w_32 [] (by simp)
  have hsE : (w_32.alloc (.cells #[] 42)).heap.size = w_32.heap.size + 1 := by simp
  have HE := Lib.hid (show OwnU ((w_27.alloc (.cells #[.int .i64 1, .int .i64 3, .int .i32 121, .int .u32 2, .int .u64 1] 42)).alloc (.cells #[] 42)) w_32.heap.size (.slice (some ⟨w_27.heap.size + 1, 0, none⟩) 0 0) [] by rw [← HWw_32.out, show w_27.heap.size + 1 = w_32.heap.size from HSw_32.out.symm]; exact hE)
  have HFE := Lib.hid (show OwnU ((w_27.alloc (.cells #[.int .i64 1, .int .i64 3, .int .i32 121, .int .u32 2, .int .u64 1] 42)).alloc (.cells #[] 42)) _ (.slice (some ⟨g1, 0, none⟩) 2 c1) [⟨2, 1, 98, 1, 7⟩, ⟨1, 0, 120, 1, 7⟩] by rw [← HWw_32.out]; exact OwnR.then_ F_34.out hbe)
  have HBE := Lib.hid hbe
  have HZE := Lib.hid (show w_32.heap.size ≤ ((w_27.alloc (.cells #[.int .i64 1, .int .i64 3, .int .i32 121, .int .u32 2, .int .u64 1] 42)).alloc (.cells #[] 42)).heap.size by rw [← HWw_32.out, hsE]; omega)
  clear hbe hE hsE
  go_wp2_with (at_builtin; refine wpList_append_rws encU_len encU_one Try.underlying23 infoUn (by decide) (by decide) ((w_27.alloc (.cells #[.int .i64 1, .int .i64 3, .int .i32 121, .int .u32 2, .int .u64 1] 42)).alloc (.cells #[] 42)) rfl (.tmp 43) (.tmp 44) rfl w_32.heap.size _ 0 0 [] (by rfl) HE.out _ (some ⟨g1, 0, none⟩) 2 c1 [⟨2, 1, 98, 1, 7⟩, ⟨1, 0, 120, 1, 7⟩] (by rfl) (OwnU.uns HFE.out) (by decide) (by decide) HZE.out ?_)
  intro A4 c4 w40 hO hg _
  have hO1 := HE.out
  rw [← HWw_32.out] at hg hO1
  have hb40 : Below w_32.heap.size w_32 w40 := OwnR.grownBelow hO1 hg HBE.out (by simp)
  have HO40 := Lib.hid (show OwnU w40 w_32.heap.size (.slice A4 2 c4) [⟨2, 1, 98, 1, 7⟩, ⟨1, 0, 120, 1, 7⟩] from hO)
  have HY40 := Lib.hid (OwnR.then_ Y_37.out hb40)
  have HB40 := Lib.hid hb40
  clear hO hg hO1 hb40 HE HFE HBE HZE
  go_wp2_with (at_builtin; refine wpList_append_rws encU_len encU_one Try.underlying23 infoUn (by decide) (by decide) w40 rfl (.tmp 45) (.tmp 46) rfl w_32.heap.size A4 2 c4 _ (by rfl) HO40.out _ (some ⟨w_27.heap.size, 0, none⟩) 1 1 [⟨1, 3, 121, 2, 1⟩] (by rfl) (OwnU.uns HY40.out) (by decide) (by decide) HB40.out.size ?_)
  intro A5 c5 w41 hO hg _
  have hb : Below w_32.heap.size w_32 w41 := OwnR.grownBelow HO40.out hg HB40.out HB40.out.size
  have ho : OwnU w41 w_32.heap.size (.slice A5 3 c5) ([⟨2, 1, 98, 1, 7⟩, ⟨1, 0, 120, 1, 7⟩] ++ [⟨1, 3, 121, 2, 1⟩]) := hO
  clear hO hg HO40 HY40 HB40
  have T_38 := Lib.hid (Crs.then_ T_33.out hb)
  have F_39 := Lib.hid (OwnR.then_ F_34.out hb)
  have I_40 := Lib.hid (OwnR.then_ I_35.out hb)
  have Y_41 := Lib.hid (OwnR.then_ Y_37.out hb)
  have HB_42 := Lib.hid (below_then' HB_36.out hb HB_36.out.size)
  clear T_33 F_34 I_35 Y_37 HB_36
  have Q_43 := Lib.hid (ho)
  clear hb ho
  go_wp2_with fail
  refine ((applyR_fit _ 3 3 _ A5 3 c5 _ w41 T_38.out (OwnU.uns Q_43.out) (by decide) (by decide) aw_fit2)).mono ?_
  rintro e w_44 ⟨A6, c6, rfl, ho, hb⟩
  rw [aw_lv2] at ho ⊢
  simp only [List.length_cons, List.length_nil, Nat.zero_add, Nat.reduceAdd] at ho ⊢
  clear Q_43
  clear T_38
  have F_45 := Lib.hid (OwnR.then_ F_39.out hb)
  have I_46 := Lib.hid (OwnR.then_ I_40.out hb)
  have Y_47 := Lib.hid (OwnR.then_ Y_41.out hb)
  have HB_48 := Lib.hid (below_then' HB_42.out hb HB_42.out.size)
  clear F_39 I_40 Y_41 HB_42
  have N_49 := Lib.hid (ho.crs.2)
  clear hb ho
  go_wp2_with fail
  refine ((me_any w_44)).mono ?_
  rintro e w_50 ⟨rfl, hb⟩
  have F_51 := Lib.hid (OwnR.then_ F_45.out hb)
  have I_52 := Lib.hid (OwnR.then_ I_46.out hb)
  have Y_53 := Lib.hid (OwnR.then_ Y_47.out hb)
  have N_54 := Lib.hid (Crs.then_ N_49.out hb)
  have HB_55 := Lib.hid (below_then' HB_48.out hb HB_48.out.size)
  clear F_45 I_46 Y_47 N_49 HB_48
  clear hb
  obtain ⟨w_56, hw⟩ : ∃ x, x = w_50.alloc (.cells #[.slice (some ⟨w_27.heap.size, 0, none⟩) 1 1] 23) := ⟨_, rfl⟩
  have hx : RowsV (w_50.alloc (.cells #[.slice (some ⟨w_27.heap.size, 0, none⟩) 1 1] 23)) (some ⟨w_50.heap.size, 0, none⟩) [⟨(some ⟨w_27.heap.size, 0, none⟩), 1, 1, [⟨1, 3, 121, 2, 1⟩]⟩] := rows_one w_50 ⟨(some ⟨w_27.heap.size, 0, none⟩), 1, 1, [⟨1, 3, 121, 2, 1⟩]⟩ (OwnU.uns Y_53.out) (by simp)
  have hb : Below w_50.heap.size w_50 w_56 := by rw [hw]; exact below_box _ _
  rw [← hw] at hx
  have HWw_56 := Lib.hid hw
  have HSw_56 := Lib.hid (show w_56.heap.size = w_50.heap.size + 1 by rw [hw]; simp)
  have F_57 := Lib.hid (OwnR.then_ F_51.out hb)
  have I_58 := Lib.hid (OwnR.then_ I_52.out hb)
  have Y_59 := Lib.hid (OwnR.then_ Y_53.out hb)
  have N_60 := Lib.hid (Crs.then_ N_54.out hb)
  have HB_61 := Lib.hid (below_then' HB_55.out hb HB_55.out.size)
  clear F_51 I_52 Y_53 N_54 HB_55
  have V_62 := Lib.hid (hx)
  clear hw hx hb
  go_wp2_with fail
  rw [← HWw_56.out]
  refine ((back_any _ 2 c1 _ 1 7 _ 1 [⟨some ⟨w_27.heap.size, 0, none⟩, 1, 1, [⟨1, 3, 121, 2, 1⟩]⟩] w_56 (OwnU.uns F_57.out) V_62.out (by decide) (by simp))).mono ?_
  rintro e w_63 ⟨A7, c7, rfl, ho, hb⟩
  simp only [List.map_cons, List.map_nil] at ho ⊢
  rw [aw_back] at ho ⊢
  simp only [List.length_cons, List.length_nil, Nat.zero_add, Nat.reduceAdd] at ho ⊢
  clear V_62
  clear F_57
  clear Y_59
  have I_64 := Lib.hid (OwnR.then_ I_58.out hb)
  have N_65 := Lib.hid (Crs.then_ N_60.out hb)
  have HB_66 := Lib.hid (below_then' HB_61.out hb HB_61.out.size)
  clear I_58 N_60 HB_61
  have B_67 := Lib.hid (ho)
  clear hb ho
  go_wp2_with fail
  refine ((applyR_fit _ 4 c6 _ A7 2 c7 _ w_63 N_65.out (OwnU.uns B_67.out) (by decide) (by decide) aw_fit3)).mono ?_
  rintro e w_68 ⟨A8, c8, rfl, ho, hb⟩
  rw [aw_lv3] at ho ⊢
  simp only [List.length_cons, List.length_nil, Nat.zero_add, Nat.reduceAdd] at ho ⊢
  clear B_67
  clear N_65
  have I_69 := Lib.hid (OwnR.then_ I_64.out hb)
  have HB_70 := Lib.hid (below_then' HB_66.out hb HB_66.out.size)
  clear I_64 HB_66
  have E_71 := Lib.hid (ho.crs.2)
  clear hb ho
  go_wp2_with fail
  have I0 := I_69
  have E0 := E_71
  have HBW := HB_70
  obtain ⟨W9, hW9⟩ : ∃ x, x = w_68 := ⟨_, rfl⟩
  rw [← hW9] at I0 E0 HBW ⊢
  clear hW9 I_69 E_71 HB_70
  refine Rg.wp_region_inv (fun w' => Below W9.heap.size W9 w') (Rg.Wd.at [.is (.slice (some ⟨g2, 0, none⟩) 2 c2), .is (.int .i64 (2 : Int)), .is (.bool true), .is (.bool true), .is (.slice (some ⟨g2, 0, none⟩) 2 c2), .is (.pointer (some ⟨g2, 0, none⟩)), .is (.agg #[.int .i64 2, .int .i64 0, .int .i32 0, .int .u32 1, .int .u64 7]), .is (.agg #[.int .u32 1, .int .u64 7]), .is (.agg #[.int .i64 2, .int .i64 0, .int .i32 0, .int .u32 1, .int .u64 7]), .is (.bool true), .is (.bool true), .is (.bool true), .is (.slice (some ⟨g2, 0, none⟩) 2 c2), .is (.pointer (some ⟨g2, 5, none⟩)), .is (.agg #[.int .i64 1, .int .i64 1, .int .i32 98, .int .u32 1, .int .u64 7]), .is (.agg #[.int .u32 1, .int .u64 7]), .is (.agg #[.int .i64 1, .int .i64 1, .int .i32 98, .int .u32 1, .int .u64 7]), .is (.bool true), .is (.bool true), .is (.bool true), .is (.int .i64 0), .is (.bool true), .is (.bool true), .is (.bool true), .is (.int .i64 0), .is (.bool true), .is (.bool true), .is (.bool true), .is (.slice A8 4 c8), .pred (TxtIs [97, 98, 99, 121]) TxtIs.stb, .is (.bool true), .is (.bool true), .is (.bool true)]) (by kernel_rfl) (by kernel_rfl) (Rg.Wd.stays _ _) (below_drawn (Below.refl _ _)) ⟨?_, ?_, ?_, ?_, ?_, ?_, ?_, ?_, ?_, ?_, ?_, ?_, ?_, ?_, ?_, ?_, ?_, ?_, ?_, ?_, ?_, ?_, ?_, ?_, ?_, ?_, ?_, ?_, ?_, ?_, ?_, ?_, ?_, trivial⟩ ?_
  · intro a w1 hS hb hd
    have e4 := hb 4 (Rg.nw (by decide))
    simp [Act.eval] at e4
    exact Rg.does_pure (Rg.wanted_none rfl) (by simp [execOp, e4, go_sem]) hS rfl
  · intro a w1 hS hb hd
    have e61 := hd ⟨0, .data⟩ (by simp) rfl _ _ rfl rfl
    have e61 : a.tmps[61]?.getD undef = (.slice (some ⟨g2, 0, none⟩) 2 c2) := Rg.slot e61
    exact Rg.does_pure (Rg.wanted_none rfl) (by simp [e61, go_sem]) hS rfl
  · intro a w1 hS hb hd
    have e62 := hd ⟨1, .data⟩ (by simp) rfl _ _ rfl rfl
    have e62 : a.tmps[62]?.getD undef = (.int .i64 (2 : Int)) := Rg.slot e62
    exact Rg.does_pure (Rg.wanted_none rfl) (by simp [execOp, e62, go_sem]) hS rfl
  · intro a w1 hS hb hd
    have e63 := hd ⟨2, .data⟩ (by simp) rfl _ _ rfl rfl
    have e63 : a.tmps[63]?.getD undef = (.bool true) := Rg.slot e63
    exact Rg.does_pure (Rg.wanted_none rfl) (by simp [execOp, e63, go_sem]) hS rfl
  · intro a w1 hS hb hd
    have e4 := hb 4 (Rg.nw (by decide))
    simp [Act.eval] at e4
    have e64 := hd ⟨3, .guard⟩ (by simp) rfl _ _ rfl rfl
    exact Rg.does_pure (Rg.wanted_some rfl rfl rfl e64) (by simp [execOp, e4, go_sem]) hS rfl
  · intro a w1 hS hb hd
    have e65 := hd ⟨4, .data⟩ (by simp) rfl _ _ rfl rfl
    have e65 : a.tmps[65]?.getD undef = (.slice (some ⟨g2, 0, none⟩) 2 c2) := Rg.slot e65
    have e64 := hd ⟨3, .guard⟩ (by simp) rfl _ _ rfl rfl
    exact Rg.does_pure (Rg.wanted_some rfl rfl rfl e64) (by simp [execOp, e65, go_sem]) hS rfl
  · intro a w1 hS hb hd
    have e66 := hd ⟨5, .data⟩ (by simp) rfl _ _ rfl rfl
    have e66 : a.tmps[66]?.getD undef = (.pointer (some ⟨g2, 0, none⟩)) := Rg.slot e66
    have e64 := hd ⟨3, .guard⟩ (by simp) rfl _ _ rfl rfl
    obtain ⟨d0, d1, d2, d3, d4, _⟩ := OwnU.cells (OwnR.then_ I0.out hS) (i := 0) (by decide); simp at d0 d1 d2 d3 d4; exact Rg.does_pure (Rg.wanted_some rfl rfl rfl e64) (by simp [execOp, e66, d0, d1, d2, d3, d4, go_sem]) hS rfl
  · intro a w1 hS hb hd
    have e64 := hd ⟨3, .guard⟩ (by simp) rfl _ _ rfl rfl
    refine Rg.does_call (f := 13) (args := #[]) (Rg.wanted_some rfl rfl rfl e64) (by simp [go_sem]) ?_
    exact (me_any w1).mono fun e w3 ⟨h1, h2⟩ => ⟨_, h1, rfl, below_then hS h2, h2⟩
  · intro a w1 hS hb hd
    have e68 := hd ⟨7, .data⟩ (by simp) rfl _ _ rfl rfl
    have e68 : a.tmps[68]?.getD undef = (.agg #[.int .u32 1, .int .u64 7]) := Rg.slot e68
    have e64 := hd ⟨3, .guard⟩ (by simp) rfl _ _ rfl rfl
    exact Rg.does_pure (Rg.wanted_some rfl rfl rfl e64) (by simp [execOp, e68, go_sem]) hS rfl
  · intro a w1 hS hb hd
    have e67 := hd ⟨6, .data⟩ (by simp) rfl _ _ rfl rfl
    have e67 : a.tmps[67]?.getD undef = (.agg #[.int .i64 2, .int .i64 0, .int .i32 0, .int .u32 1, .int .u64 7]) := Rg.slot e67
    have e69 := hd ⟨8, .data⟩ (by simp) rfl _ _ rfl rfl
    have e69 : a.tmps[69]?.getD undef = (.agg #[.int .i64 2, .int .i64 0, .int .i32 0, .int .u32 1, .int .u64 7]) := Rg.slot e69
    have e64 := hd ⟨3, .guard⟩ (by simp) rfl _ _ rfl rfl
    exact Rg.does_pure (Rg.wanted_some rfl rfl rfl e64) (by simp [execOp, e67, e69, (guard_unit .eql), go_sem]) hS rfl
  · intro a w1 hS hb hd
    have e64 := hd ⟨3, .data⟩ (by simp) rfl _ _ rfl rfl
    have e64 : a.tmps[64]?.getD undef = (.bool true) := Rg.slot e64
    have e70 := hd ⟨9, .data⟩ (by simp) rfl _ _ rfl rfl
    have e70 : a.tmps[70]?.getD undef = (.bool true) := Rg.slot e70
    exact Rg.does_pure (Rg.wanted_none rfl) (by simp [execOp, e64, e70, go_sem]) hS rfl
  · intro a w1 hS hb hd
    have e71 := hd ⟨10, .data⟩ (by simp) rfl _ _ rfl rfl
    have e71 : a.tmps[71]?.getD undef = (.bool true) := Rg.slot e71
    exact Rg.does_pure (Rg.wanted_none rfl) (by simp [execOp, e71, go_sem]) hS rfl
  · intro a w1 hS hb hd
    have e4 := hb 4 (Rg.nw (by decide))
    simp [Act.eval] at e4
    have e72 := hd ⟨11, .guard⟩ (by simp) rfl _ _ rfl rfl
    exact Rg.does_pure (Rg.wanted_some rfl rfl rfl e72) (by simp [execOp, e4, go_sem]) hS rfl
  · intro a w1 hS hb hd
    have e73 := hd ⟨12, .data⟩ (by simp) rfl _ _ rfl rfl
    have e73 : a.tmps[73]?.getD undef = (.slice (some ⟨g2, 0, none⟩) 2 c2) := Rg.slot e73
    have e72 := hd ⟨11, .guard⟩ (by simp) rfl _ _ rfl rfl
    exact Rg.does_pure (Rg.wanted_some rfl rfl rfl e72) (by simp [execOp, e73, go_sem]) hS rfl
  · intro a w1 hS hb hd
    have e74 := hd ⟨13, .data⟩ (by simp) rfl _ _ rfl rfl
    have e74 : a.tmps[74]?.getD undef = (.pointer (some ⟨g2, 5, none⟩)) := Rg.slot e74
    have e72 := hd ⟨11, .guard⟩ (by simp) rfl _ _ rfl rfl
    obtain ⟨d0, d1, d2, d3, d4, _⟩ := OwnU.cells (OwnR.then_ I0.out hS) (i := 1) (by decide); simp at d0 d1 d2 d3 d4; exact Rg.does_pure (Rg.wanted_some rfl rfl rfl e72) (by simp [execOp, e74, d0, d1, d2, d3, d4, go_sem]) hS rfl
  · intro a w1 hS hb hd
    have e72 := hd ⟨11, .guard⟩ (by simp) rfl _ _ rfl rfl
    refine Rg.does_call (f := 13) (args := #[]) (Rg.wanted_some rfl rfl rfl e72) (by simp [go_sem]) ?_
    exact (me_any w1).mono fun e w3 ⟨h1, h2⟩ => ⟨_, h1, rfl, below_then hS h2, h2⟩
  · intro a w1 hS hb hd
    have e76 := hd ⟨15, .data⟩ (by simp) rfl _ _ rfl rfl
    have e76 : a.tmps[76]?.getD undef = (.agg #[.int .u32 1, .int .u64 7]) := Rg.slot e76
    have e72 := hd ⟨11, .guard⟩ (by simp) rfl _ _ rfl rfl
    exact Rg.does_pure (Rg.wanted_some rfl rfl rfl e72) (by simp [execOp, e76, go_sem]) hS rfl
  · intro a w1 hS hb hd
    have e75 := hd ⟨14, .data⟩ (by simp) rfl _ _ rfl rfl
    have e75 : a.tmps[75]?.getD undef = (.agg #[.int .i64 1, .int .i64 1, .int .i32 98, .int .u32 1, .int .u64 7]) := Rg.slot e75
    have e77 := hd ⟨16, .data⟩ (by simp) rfl _ _ rfl rfl
    have e77 : a.tmps[77]?.getD undef = (.agg #[.int .i64 1, .int .i64 1, .int .i32 98, .int .u32 1, .int .u64 7]) := Rg.slot e77
    have e72 := hd ⟨11, .guard⟩ (by simp) rfl _ _ rfl rfl
    exact Rg.does_pure (Rg.wanted_some rfl rfl rfl e72) (by simp [execOp, e75, e77, (guard_unit .eql), go_sem]) hS rfl
  · intro a w1 hS hb hd
    have e72 := hd ⟨11, .data⟩ (by simp) rfl _ _ rfl rfl
    have e72 : a.tmps[72]?.getD undef = (.bool true) := Rg.slot e72
    have e78 := hd ⟨17, .data⟩ (by simp) rfl _ _ rfl rfl
    have e78 : a.tmps[78]?.getD undef = (.bool true) := Rg.slot e78
    exact Rg.does_pure (Rg.wanted_none rfl) (by simp [execOp, e72, e78, go_sem]) hS rfl
  · intro a w1 hS hb hd
    have e79 := hd ⟨18, .data⟩ (by simp) rfl _ _ rfl rfl
    have e79 : a.tmps[79]?.getD undef = (.bool true) := Rg.slot e79
    exact Rg.does_pure (Rg.wanted_none rfl) (by simp [execOp, e79, go_sem]) hS rfl
  · intro a w1 hS hb hd
    have e7 := hb 7 (Rg.nw (by decide))
    simp [Act.eval] at e7
    have e80 := hd ⟨19, .guard⟩ (by simp) rfl _ _ rfl rfl
    exact Rg.does_pure (Rg.wanted_some rfl rfl rfl e80) (by simp [execOp, e7, go_sem]) hS rfl
  · intro a w1 hS hb hd
    have e81 := hd ⟨20, .data⟩ (by simp) rfl _ _ rfl rfl
    have e81 : a.tmps[81]?.getD undef = (.int .i64 0) := Rg.slot e81
    have e80 := hd ⟨19, .guard⟩ (by simp) rfl _ _ rfl rfl
    exact Rg.does_pure (Rg.wanted_some rfl rfl rfl e80) (by simp [execOp, e81, go_sem]) hS rfl
  · intro a w1 hS hb hd
    have e80 := hd ⟨19, .data⟩ (by simp) rfl _ _ rfl rfl
    have e80 : a.tmps[80]?.getD undef = (.bool true) := Rg.slot e80
    have e82 := hd ⟨21, .data⟩ (by simp) rfl _ _ rfl rfl
    have e82 : a.tmps[82]?.getD undef = (.bool true) := Rg.slot e82
    exact Rg.does_pure (Rg.wanted_none rfl) (by simp [execOp, e80, e82, go_sem]) hS rfl
  · intro a w1 hS hb hd
    have e83 := hd ⟨22, .data⟩ (by simp) rfl _ _ rfl rfl
    have e83 : a.tmps[83]?.getD undef = (.bool true) := Rg.slot e83
    exact Rg.does_pure (Rg.wanted_none rfl) (by simp [execOp, e83, go_sem]) hS rfl
  · intro a w1 hS hb hd
    have e9 := hb 9 (Rg.nw (by decide))
    simp [Act.eval] at e9
    have e84 := hd ⟨23, .guard⟩ (by simp) rfl _ _ rfl rfl
    exact Rg.does_pure (Rg.wanted_some rfl rfl rfl e84) (by simp [execOp, e9, go_sem]) hS rfl
  · intro a w1 hS hb hd
    have e85 := hd ⟨24, .data⟩ (by simp) rfl _ _ rfl rfl
    have e85 : a.tmps[85]?.getD undef = (.int .i64 0) := Rg.slot e85
    have e84 := hd ⟨23, .guard⟩ (by simp) rfl _ _ rfl rfl
    exact Rg.does_pure (Rg.wanted_some rfl rfl rfl e84) (by simp [execOp, e85, go_sem]) hS rfl
  · intro a w1 hS hb hd
    have e84 := hd ⟨23, .data⟩ (by simp) rfl _ _ rfl rfl
    have e84 : a.tmps[84]?.getD undef = (.bool true) := Rg.slot e84
    have e86 := hd ⟨25, .data⟩ (by simp) rfl _ _ rfl rfl
    have e86 : a.tmps[86]?.getD undef = (.bool true) := Rg.slot e86
    exact Rg.does_pure (Rg.wanted_none rfl) (by simp [execOp, e84, e86, go_sem]) hS rfl
  · intro a w1 hS hb hd
    have e87 := hd ⟨26, .data⟩ (by simp) rfl _ _ rfl rfl
    have e87 : a.tmps[87]?.getD undef = (.bool true) := Rg.slot e87
    exact Rg.does_pure (Rg.wanted_none rfl) (by simp [execOp, e87, go_sem]) hS rfl
  · intro a w1 hS hb hd
    have e8 := hb 8 (Rg.nw (by decide))
    simp [Act.eval] at e8
    have e88 := hd ⟨27, .guard⟩ (by simp) rfl _ _ rfl rfl
    exact Rg.does_pure (Rg.wanted_some rfl rfl rfl e88) (by simp [execOp, e8, go_sem]) hS rfl
  · intro a w1 hS hb hd
    have e88 := hd ⟨27, .guard⟩ (by simp) rfl _ _ rfl rfl
    exact Rg.does_new (x := .slice (some ⟨w1.heap.size, 0, none⟩) 4 4) (ob := .cells #[.int .i32 97, .int .i32 98, .int .i32 99, .int .i32 121] 40) (Rg.wanted_some rfl rfl rfl e88) (by simp [execOp, go_sem]) (below_alloc hS _) ⟨_, _, rfl, chars_row w1 [97, 98, 99, 121] (small_js (by simp)) (by simp [maxLen])⟩
  · intro a w1 hS hb hd
    have e89 := hd ⟨28, .data⟩ (by simp) rfl _ _ rfl rfl
    have e89 : a.tmps[89]?.getD undef = (.slice A8 4 c8) := Rg.slot e89
    have e90 := hd ⟨29, .data⟩ (by simp) rfl _ _ rfl rfl
    have e88 := hd ⟨27, .guard⟩ (by simp) rfl _ _ rfl rfl
    obtain ⟨A9, c9, eg, hu⟩ := e90; have eh := Rg.slot eg; have hp := sameC_any A8 A9 4 c8 4 c9 [97, 98, 99, 121] [97, 98, 99, 121] w1 (E0.out.then_ hS) hu; rw [decide_eq_true rfl] at hp; refine Rg.does_call (f := 46) (args := #[.slice A8 4 c8, .slice A9 4 c9]) (Rg.wanted_some rfl rfl rfl e88) (by simp [e89, eh, go_sem]) ?_; exact hp.mono fun e w3 ⟨h1, h2⟩ => ⟨_, h1, rfl, below_then hS h2, h2⟩
  · intro a w1 hS hb hd
    have e88 := hd ⟨27, .data⟩ (by simp) rfl _ _ rfl rfl
    have e88 : a.tmps[88]?.getD undef = (.bool true) := Rg.slot e88
    have e91 := hd ⟨30, .data⟩ (by simp) rfl _ _ rfl rfl
    have e91 : a.tmps[91]?.getD undef = (.bool true) := Rg.slot e91
    exact Rg.does_pure (Rg.wanted_none rfl) (by simp [execOp, e88, e91, go_sem]) hS rfl
  · intro a w1 hS hb hd
    have e92 := hd ⟨31, .data⟩ (by simp) rfl _ _ rfl rfl
    have e92 : a.tmps[92]?.getD undef = (.bool true) := Rg.slot e92
    exact Rg.does_pure (Rg.wanted_none rfl) (by simp [execOp, e92, go_sem]) hS rfl
  · intro v w3 hS hv
    have HB3 := Lib.hid (below_then' HBW.out hS HBW.out.size)
    have h0 : v 32 = .bool true := hv 32 _ _ rfl rfl
    clear hS hv
    simp only [Rg.putAll, Nat.zero_add, Nat.reduceAdd]
    simp only [Act.put, List.setIfInBounds_toArray, List.set_cons_succ, List.set_cons_zero]
    rw [h0]
    go_wp2_with fail
    go_ret
    exact ⟨rfl, HB3.out⟩
end Go.Proofs.Ytlnekhkdncccgaa
