/-
  The walk of EditMakes: whatever comes in, it returns true; nothing that was there turned. Conditions: those that it states.
-/
import Derived.Test.YthnenmglmebljaaEdO
import Derived.Test.YthnenmglmebljaaEdS
import Derived.BigQuiet
namespace Go.Proofs.Ythnenmglmebljaa
open Go.RowKit
open Pl (Un)

namespace editMakes
theorem IdAt.then_ {w w' : World} {b : Nat} {x y : Int} (h : IdAt w b x y) (hb : Below w.heap.size w w') : IdAt w' b x y := h.below hb (lt_of_block h)
/-- one shape for both ends -/
theorem any_ {w w' : World} {r : Int} {l : List Un} {e : Ending} (h : RetE w r l e w') : ∃ B m d, e = .returned (.tuple #[.slice B m d, .int .i64 r]) ∧ OwnU w' w.heap.size (.slice B m d) (if r = 0 then l else []) ∧ Below w.heap.size w w' := by
  by_cases hr : r = 0
  · obtain ⟨hb, B, d, rfl, ho⟩ := h.good hr
    rw [if_pos hr]
    exact ⟨B, _, d, by rw [hr], ho, hb⟩
  · obtain ⟨hb, rfl⟩ := h.fail_ hr
    rw [if_neg hr]
    exact ⟨none, 0, 0, rfl, OwnR.nil_ _ _ _ _ _, hb⟩
set_option maxRecDepth 100000 in
set_option maxHeartbeats 4000000 in
theorem walk (w : World) (p : Int) (_hp : Pl.I p) (N : Int) (_hN : Pl.I N) (A : Option Addr) (n c : Nat) (cs0 : List Int) (hC : Crs w w.heap.size A n c cs0) (x y : Int) (_hId : Pl.IdB x y) :
    Calls Try.prog 3 #[.int .i64 p, .int .i64 N, .slice A n c, idval x y] w fun e w' => e = .returned (.bool true) ∧ Below w.heap.size w w' := by
  obtain ⟨K, hK⟩ : ∃ K, K = min n 300 := ⟨_, rfl⟩
  have m1 : (if (300 : Int) < (n : Int) then (300 : Int) else (n : Int)) = (K : Int) := by split <;> omega
  have s1 := slice_toC A n c K (by have := hC.le; omega)
  obtain ⟨cs, hcs⟩ : ∃ x, x = cs0.take K := ⟨_, rfl⟩
  have hC1 : Crs w w.heap.size A K c cs := by rw [hcs]; exact hC.upto (by omega)
  have hk1 : K ≤ 300 := by omega
  obtain ⟨w0, hw0⟩ : ∃ w0, w0 = w.alloc (.cells #[.int .u32 x, .int .u64 y] 26) := ⟨_, rfl⟩
  have HB0 := Lib.hid (show Below w.heap.size w w0 by rw [hw0]; exact below_box _ _)
  have I_1 := Lib.hid (show IdAt w0 w.heap.size x y by rw [hw0]; exact heap_new rfl)
  have c_1 := Lib.hid (hC1.then_ HB0.out)
  have HW0 := Lib.hid hw0
  obtain ⟨r1, hr1⟩ : ∃ r, r = Pl.typeE p cs := ⟨_, rfl⟩
  obtain ⟨r2, hr2⟩ : ∃ r, r = Pl.wrongE p N := ⟨_, rfl⟩
  obtain ⟨r3, hr3⟩ : ∃ r, r = Pl.replE p N cs := ⟨_, rfl⟩
  obtain ⟨l1, hl1⟩ : ∃ l, l = Pl.typeL p cs x y := ⟨_, rfl⟩
  obtain ⟨l2, hl2⟩ : ∃ l, l = Pl.eraseL p N.toNat x y := ⟨_, rfl⟩
  obtain ⟨l3, hl3⟩ : ∃ l, l = Pl.replL p N cs x y := ⟨_, rfl⟩
  have HT := fun B m d w h => Lib.hid (type_any p B m d cs x y w h)
  have HT8 := fun B m d w h => Lib.hid (type8_any p B m d cs x y w h)
  have HE := fun w => Lib.hid (erase_any p N x y w)
  have HE8 := fun w => Lib.hid (erase8_any p N x y w)
  have HR := fun B m d w h => Lib.hid (replace_any p N B m d cs x y w h)
  have HR8 := fun B m d w h => Lib.hid (replace8_any p N B m d cs x y w h)
  simp only [← hr1, ← hl1] at HT HT8
  simp only [← hr2, ← hl2] at HE HE8
  simp only [← hr3, ← hl3] at HR HR8
  unfold idval
  clear hC hC1 hK hcs hw0 hr1 hr2 hr3 hl1 hl2 hl3
  go_enter Try.func3, Try.ntmps3
  have hsz := Nat.le_refl w0.heap.size
  have hnil : OwnC w0 w0.heap.size (.slice none 0 0) [] := OwnC.nil_ _ _
  have cX := Lib.hid c_1.out
  rw [HW0.out] at hsz hnil cX
  go_wp2_with (at_builtin; refine wpList_append_crs (w.alloc (.cells #[.int .u32 x, .int .u64 y] 26)) rfl (.const (.slice none 0 0)) (.tmp 27) rfl _ none 0 0 [] (by rfl) hnil _ A K c cs (by rfl) cX.out (by omega) hsz ?_)
  intro M e1 w1 hM hg1 _
  have hb : Below w0.heap.size w0 w1 := below_appendC (by rw [HW0.out]; exact hnil) (by rw [HW0.out]; exact hg1) (Below.refl _ _) (by exact Nat.le_refl _)
  clear cX hnil hsz m1 s1 hg1
  have I_2 := Lib.hid (IdAt.then_ I_1.out hb)
  have c_3 := Lib.hid (Crs.then_ c_1.out hb)
  have HB_4 := Lib.hid (below_then' HB0.out hb HB0.out.size)
  clear I_1 c_1 HB0
  have M_5 := Lib.hid (hM)
  clear hb hM
  obtain ⟨i0, i1⟩ := I_2.out.cells
  go_wp2_with fail
  refine ((HT M K e1 w1 M_5.out.crs.2).out).mono ?_
  intro e w_6 hret
  obtain ⟨P1, P2, P3, rfl, ho, hb⟩ := any_ hret
  clear i0 i1 hret
  have I_7 := Lib.hid (IdAt.then_ I_2.out hb)
  have c_8 := Lib.hid (Crs.then_ c_3.out hb)
  have M_9 := Lib.hid (OwnC.then_ M_5.out hb)
  have HB_10 := Lib.hid (below_then' HB_4.out hb HB_4.out.size)
  clear I_2 c_3 M_5 HB_4
  have P_11 := Lib.hid (ho)
  clear hb ho
  obtain ⟨i0, i1⟩ := I_7.out.cells
  go_wp2_with fail
  refine ((HT8 A K c w_6 c_8.out).out).mono ?_
  intro e w_12 hret
  obtain ⟨Pd1, Pd2, Pd3, rfl, ho, hb⟩ := any_ hret
  clear i0 i1 hret
  have I_13 := Lib.hid (IdAt.then_ I_7.out hb)
  have c_14 := Lib.hid (Crs.then_ c_8.out hb)
  have M_15 := Lib.hid (OwnC.then_ M_9.out hb)
  have P_16 := Lib.hid (OwnR.then_ P_11.out hb)
  have HB_17 := Lib.hid (below_then' HB_10.out hb HB_10.out.size)
  clear I_7 c_8 M_9 P_11 HB_10
  have Pd_18 := Lib.hid (ho)
  clear hb ho
  obtain ⟨i0, i1⟩ := I_13.out.cells
  go_wp2_with fail
  refine ((HE w_12).out).mono ?_
  intro e w_19 hret
  obtain ⟨Q1, Q2, Q3, rfl, ho, hb⟩ := any_ hret
  clear i0 i1 hret
  have I_20 := Lib.hid (IdAt.then_ I_13.out hb)
  have c_21 := Lib.hid (Crs.then_ c_14.out hb)
  have M_22 := Lib.hid (OwnC.then_ M_15.out hb)
  have P_23 := Lib.hid (OwnR.then_ P_16.out hb)
  have Pd_24 := Lib.hid (OwnR.then_ Pd_18.out hb)
  have HB_25 := Lib.hid (below_then' HB_17.out hb HB_17.out.size)
  clear I_13 c_14 M_15 P_16 Pd_18 HB_17
  have Q_26 := Lib.hid (ho)
  clear hb ho
  obtain ⟨i0, i1⟩ := I_20.out.cells
  go_wp2_with fail
  refine ((HE8 w_19).out).mono ?_
  intro e w_27 hret
  obtain ⟨Qd1, Qd2, Qd3, rfl, ho, hb⟩ := any_ hret
  clear i0 i1 hret
  have I_28 := Lib.hid (IdAt.then_ I_20.out hb)
  have c_29 := Lib.hid (Crs.then_ c_21.out hb)
  have M_30 := Lib.hid (OwnC.then_ M_22.out hb)
  have P_31 := Lib.hid (OwnR.then_ P_23.out hb)
  have Pd_32 := Lib.hid (OwnR.then_ Pd_24.out hb)
  have Q_33 := Lib.hid (OwnR.then_ Q_26.out hb)
  have HB_34 := Lib.hid (below_then' HB_25.out hb HB_25.out.size)
  clear I_20 c_21 M_22 P_23 Pd_24 Q_26 HB_25
  have Qd_35 := Lib.hid (ho)
  clear hb ho
  obtain ⟨i0, i1⟩ := I_28.out.cells
  go_wp2_with fail
  refine ((HR M K e1 w_27 M_30.out.crs.2).out).mono ?_
  intro e w_36 hret
  obtain ⟨R1, R2, R3, rfl, ho, hb⟩ := any_ hret
  clear i0 i1 hret
  have I_37 := Lib.hid (IdAt.then_ I_28.out hb)
  have c_38 := Lib.hid (Crs.then_ c_29.out hb)
  have M_39 := Lib.hid (OwnC.then_ M_30.out hb)
  have P_40 := Lib.hid (OwnR.then_ P_31.out hb)
  have Pd_41 := Lib.hid (OwnR.then_ Pd_32.out hb)
  have Q_42 := Lib.hid (OwnR.then_ Q_33.out hb)
  have Qd_43 := Lib.hid (OwnR.then_ Qd_35.out hb)
  have HB_44 := Lib.hid (below_then' HB_34.out hb HB_34.out.size)
  clear I_28 c_29 M_30 P_31 Pd_32 Q_33 Qd_35 HB_34
  have R_45 := Lib.hid (ho)
  clear hb ho
  obtain ⟨i0, i1⟩ := I_37.out.cells
  go_wp2_with fail
  refine ((HR8 A K c w_36 c_38.out).out).mono ?_
  intro e w_46 hret
  obtain ⟨Rd1, Rd2, Rd3, rfl, ho, hb⟩ := any_ hret
  clear i0 i1 hret
  have I_47 := Lib.hid (IdAt.then_ I_37.out hb)
  have c_48 := Lib.hid (Crs.then_ c_38.out hb)
  have M_49 := Lib.hid (OwnC.then_ M_39.out hb)
  have P_50 := Lib.hid (OwnR.then_ P_40.out hb)
  have Pd_51 := Lib.hid (OwnR.then_ Pd_41.out hb)
  have Q_52 := Lib.hid (OwnR.then_ Q_42.out hb)
  have Qd_53 := Lib.hid (OwnR.then_ Qd_43.out hb)
  have R_54 := Lib.hid (OwnR.then_ R_45.out hb)
  have HB_55 := Lib.hid (below_then' HB_44.out hb HB_44.out.size)
  clear I_37 c_38 M_39 P_40 Pd_41 Q_42 Qd_43 R_45 HB_44
  have Rd_56 := Lib.hid (ho)
  clear hb ho
  clear I_47
  clear HT HT8 HE HE8 HR HR8
  have hq := same8_any _ _ _ _ _ _ _ _ w_46 (OwnU.uns P_50.out) (OwnU.uns Pd_51.out)
  rw [decide_eq_true rfl] at hq
  go_wp2_with fail
  refine (hq).mono ?_
  rintro e w_57 ⟨rfl, hb⟩
  have c_58 := Lib.hid (Crs.then_ c_48.out hb)
  have M_59 := Lib.hid (OwnC.then_ M_49.out hb)
  have P_60 := Lib.hid (OwnR.then_ P_50.out hb)
  have Pd_61 := Lib.hid (OwnR.then_ Pd_51.out hb)
  have Q_62 := Lib.hid (OwnR.then_ Q_52.out hb)
  have Qd_63 := Lib.hid (OwnR.then_ Qd_53.out hb)
  have R_64 := Lib.hid (OwnR.then_ R_54.out hb)
  have Rd_65 := Lib.hid (OwnR.then_ Rd_56.out hb)
  have HB_66 := Lib.hid (below_then' HB_55.out hb HB_55.out.size)
  clear c_48 M_49 P_50 Pd_51 Q_52 Qd_53 R_54 Rd_56 HB_55
  clear hb hq
  clear P_60
  clear Pd_61
  have hq := same8_any _ _ _ _ _ _ _ _ w_57 (OwnU.uns Q_62.out) (OwnU.uns Qd_63.out)
  rw [decide_eq_true rfl] at hq
  go_wp2_with fail
  refine (hq).mono ?_
  rintro e w_67 ⟨rfl, hb⟩
  have c_68 := Lib.hid (Crs.then_ c_58.out hb)
  have M_69 := Lib.hid (OwnC.then_ M_59.out hb)
  have Q_70 := Lib.hid (OwnR.then_ Q_62.out hb)
  have Qd_71 := Lib.hid (OwnR.then_ Qd_63.out hb)
  have R_72 := Lib.hid (OwnR.then_ R_64.out hb)
  have Rd_73 := Lib.hid (OwnR.then_ Rd_65.out hb)
  have HB_74 := Lib.hid (below_then' HB_66.out hb HB_66.out.size)
  clear c_58 M_59 Q_62 Qd_63 R_64 Rd_65 HB_66
  clear hb hq
  clear Q_70
  clear Qd_71
  have hq := same8_any _ _ _ _ _ _ _ _ w_67 (OwnU.uns R_72.out) (OwnU.uns Rd_73.out)
  rw [decide_eq_true rfl] at hq
  go_wp2_with fail
  refine (hq).mono ?_
  rintro e w_75 ⟨rfl, hb⟩
  have c_76 := Lib.hid (Crs.then_ c_68.out hb)
  have M_77 := Lib.hid (OwnC.then_ M_69.out hb)
  have R_78 := Lib.hid (OwnR.then_ R_72.out hb)
  have Rd_79 := Lib.hid (OwnR.then_ Rd_73.out hb)
  have HB_80 := Lib.hid (below_then' HB_74.out hb HB_74.out.size)
  clear c_68 M_69 R_72 Rd_73 HB_74
  clear hb hq
  clear R_78
  clear Rd_79
  have hq := same4_any _ _ _ _ _ _ cs cs w_75 M_77.out.crs.2 c_76.out
  rw [decide_eq_true rfl] at hq
  go_wp2_with fail
  refine (hq).mono ?_
  rintro e w_81 ⟨rfl, hb⟩
  have c_82 := Lib.hid (Crs.then_ c_76.out hb)
  have M_83 := Lib.hid (OwnC.then_ M_77.out hb)
  have HB_84 := Lib.hid (below_then' HB_80.out hb HB_80.out.size)
  clear c_76 M_77 HB_80
  clear hb hq
  clear M_83
  clear c_82
  go_wp2_with fail
  refine (awake_any w_81).mono ?_
  rintro e w_85 ⟨rfl, hb⟩
  have HB_86 := Lib.hid (below_then' HB_84.out hb HB_84.out.size)
  clear HB_84
  clear hb
  go_wp2_with fail
  go_ret
  exact ⟨rfl, HB_86.out⟩
end editMakes
end Go.Proofs.Ythnenmglmebljaa
