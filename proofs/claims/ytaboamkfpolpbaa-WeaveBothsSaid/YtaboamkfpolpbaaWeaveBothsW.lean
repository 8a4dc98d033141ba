/-
  The walk of WeaveBoths: whatever three rows come in, it returns true; nothing that was there turned. Conditions: those that it states.
-/
import Derived.Test.YtaboamkfpolpbaaWvR
import Derived.BigQuiet
namespace Go.Proofs.Ytaboamkfpolpbaa
open Go.RowKit
open Pl (Un)

namespace weaveBoths
set_option maxRecDepth 100000 in
set_option maxHeartbeats 4000000 in
theorem walk (w : World) (A : Option Addr) (n c : Nat) (l : List Un) (hA : Units w w.heap.size A n c l) (A' : Option Addr) (n' c' : Nat) (l' : List Un) (hB : Units w w.heap.size A' n' c' l') (A'' : Option Addr) (n'' c'' : Nat) (l'' : List Un) (hC : Units w w.heap.size A'' n'' c'' l'') :
    Calls Try.prog 3 #[.slice A n c, .slice A' n' c', .slice A'' n'' c''] w fun e w' => e = .returned (.bool true) ∧ Below w.heap.size w w' := by
  obtain ⟨K, hK⟩ : ∃ K, K = min n 25 := ⟨_, rfl⟩
  obtain ⟨K', hK'⟩ : ∃ K, K = min n' 25 := ⟨_, rfl⟩
  obtain ⟨K'', hK''⟩ : ∃ K, K = min n'' 25 := ⟨_, rfl⟩
  have m1 : (if (25 : Int) < (n : Int) then (25 : Int) else (n : Int)) = (K : Int) := by split <;> omega
  have m2 : (if (25 : Int) < (n' : Int) then (25 : Int) else (n' : Int)) = (K' : Int) := by split <;> omega
  have m3 : (if (25 : Int) < (n'' : Int) then (25 : Int) else (n'' : Int)) = (K'' : Int) := by split <;> omega
  have s1 := slice_toU A n c K (by have := hA.1.le; omega)
  have s2 := slice_toU A' n' c' K' (by have := hB.1.le; omega)
  have s3 := slice_toU A'' n'' c'' K'' (by have := hC.1.le; omega)
  obtain ⟨la, hla⟩ : ∃ x, x = l.take K := ⟨_, rfl⟩
  obtain ⟨lb, hlb⟩ : ∃ x, x = l'.take K' := ⟨_, rfl⟩
  obtain ⟨lc, hlc⟩ : ∃ x, x = l''.take K'' := ⟨_, rfl⟩
  have A_0 := Lib.hid (show Uns w w.heap.size A K c la by rw [hla]; exact Rws.upto encU_len hA.1 (by omega))
  have B_0 := Lib.hid (show Uns w w.heap.size A' K' c' lb by rw [hlb]; exact Rws.upto encU_len hB.1 (by omega))
  have C_0 := Lib.hid (show Uns w w.heap.size A'' K'' c'' lc by rw [hlc]; exact Rws.upto encU_len hC.1 (by omega))
  have hk1 : K ≤ 25 := by omega
  have hk2 : K' ≤ 25 := by omega
  have hk3 : K'' ≤ 25 := by omega
  have HKS := Lib.hid (show K ≤ 25 ∧ K' ≤ 25 ∧ K'' ≤ 25 from ⟨hk1, hk2, hk3⟩)
  have HLA := Lib.hid A_0.out.len
  have HLB := Lib.hid B_0.out.len
  clear hA hB hC hK hK' hK'' hla hlb hlc hk1 hk2 hk3
  go_enter Try.func3, Try.ntmps3
  go_wp2_with fail
  go_quiet (fail)
  obtain ⟨w0, hw0⟩ : ∃ x, x = w.drewN nq := ⟨_, rfl⟩
  have HB0 := Lib.hid (show Below w.heap.size w w0 by rw [hw0]; exact ⟨rfl, rfl, rfl, Nat.le_refl _, fun _ _ => rfl⟩)
  have A_1 := Lib.hid (Rws.then_ A_0.out HB0.out)
  have B_1 := Lib.hid (Rws.then_ B_0.out HB0.out)
  have C_1 := Lib.hid (Rws.then_ C_0.out HB0.out)
  have HW0 := Lib.hid hw0
  clear A_0 B_0 C_0 hw0
  go_wp2_with fail
  rw [← HW0.out]
  clear m1 m2 m3 s1 s2 s3
  have hk1 := HKS.out.1
  have hk2 := HKS.out.2.1
  have hk3 := HKS.out.2.2
  refine ((ownU_any A K c la w0 A_1.out (by omega))).mono ?_
  rintro e w_2 ⟨A1, c1, rfl, ho, hb⟩
  have A_3 := Lib.hid (Rws.then_ A_1.out hb)
  have B_4 := Lib.hid (Rws.then_ B_1.out hb)
  have C_5 := Lib.hid (Rws.then_ C_1.out hb)
  have HB_6 := Lib.hid (below_then' HB0.out hb HB0.out.size)
  clear A_1 B_1 C_1 HB0
  rw [HLA.out] at ho ⊢
  have P_7 := Lib.hid (ho)
  clear hb ho
  go_wp2_with fail
  refine ((ownU_any A' K' c' lb w_2 B_4.out (by omega))).mono ?_
  rintro e w_8 ⟨A2, c2, rfl, ho, hb⟩
  have A_9 := Lib.hid (Rws.then_ A_3.out hb)
  have B_10 := Lib.hid (Rws.then_ B_4.out hb)
  have C_11 := Lib.hid (Rws.then_ C_5.out hb)
  have P_12 := Lib.hid (OwnR.then_ P_7.out hb)
  have HB_13 := Lib.hid (below_then' HB_6.out hb HB_6.out.size)
  clear A_3 B_4 C_5 P_7 HB_6
  rw [HLB.out] at ho ⊢
  have Q_14 := Lib.hid (ho)
  clear hb ho
  have HPW := P_12
  have HQW := Q_14
  have HBW := HB_13
  have AW := A_9
  have BW := B_10
  go_wp2_with fail
  refine ((both_any w_8 A1 K c1 la A2 K' c2 lb (OwnU.uns P_12.out) (OwnU.uns Q_14.out) (by omega) (by omega))).mono ?_
  rintro e w_15 ⟨A3, c3, A4, c4, rfl, ho, ho2, hne, hb⟩
  have A_16 := Lib.hid (Rws.then_ A_9.out hb)
  have B_17 := Lib.hid (Rws.then_ B_10.out hb)
  have C_18 := Lib.hid (Rws.then_ C_11.out hb)
  have P_19 := Lib.hid (OwnR.then_ P_12.out hb)
  have Q_20 := Lib.hid (OwnR.then_ Q_14.out hb)
  have HB_21 := Lib.hid (below_then' HB_13.out hb HB_13.out.size)
  clear A_9 B_10 C_11 P_12 Q_14 HB_13
  rw [HLA.out] at ho hne ⊢
  rw [HLB.out] at ho2 hne ⊢
  have HNE := Lib.hid hne
  have BF := Lib.hid hb
  have X_22 := Lib.hid (ho)
  have Y_23 := Lib.hid (ho2)
  clear hb ho ho2 hne
  go_wp2_with fail
  refine ((both6_any w_15 A K c la A' K' c' lb A_16.out B_17.out (by omega) (by omega))).mono ?_
  rintro e w_24 ⟨A5, c5, A6, c6, rfl, ho, ho2, _, hb⟩
  have BF_25 := Lib.hid (below_then' BF.out hb BF.out.size)
  clear BF
  have A_26 := Lib.hid (Rws.then_ A_16.out hb)
  have B_27 := Lib.hid (Rws.then_ B_17.out hb)
  have C_28 := Lib.hid (Rws.then_ C_18.out hb)
  have P_29 := Lib.hid (OwnR.then_ P_19.out hb)
  have Q_30 := Lib.hid (OwnR.then_ Q_20.out hb)
  have X_31 := Lib.hid (OwnR.then_ X_22.out hb)
  have Y_32 := Lib.hid (OwnR.then_ Y_23.out hb)
  have HB_33 := Lib.hid (below_then' HB_21.out hb HB_21.out.size)
  clear A_16 B_17 C_18 P_19 Q_20 X_22 Y_23 HB_21
  rw [HLA.out] at ho ⊢
  rw [HLB.out] at ho2 ⊢
  have U_34 := Lib.hid (ho)
  have V_35 := Lib.hid (ho2)
  clear hb ho ho2
  obtain ⟨w_36, hw⟩ : ∃ x, x = w_24.alloc (.cells #[.slice A2 K' c2, .slice A'' K'' c''] 22) := ⟨_, rfl⟩
  have hx : RowsV (w_24.alloc (.cells #[.slice A2 K' c2, .slice A'' K'' c''] 22)) (some ⟨w_24.heap.size, 0, none⟩) [⟨A2, K', c2, lb⟩, ⟨A'', K'', c'', lc⟩] := rows_two w_24 ⟨A2, K', c2, lb⟩ ⟨A'', K'', c'', lc⟩ (OwnU.uns Q_30.out) (show K' ≤ 1000 by omega) (C_28.out) (show K'' ≤ 1000 by omega)
  have hb : Below w_24.heap.size w_24 w_36 := by rw [hw]; exact below_box _ _
  rw [← hw] at hx
  have HWw_36 := Lib.hid hw
  have HSw_36 := Lib.hid (show w_36.heap.size = w_24.heap.size + 1 by rw [hw]; simp)
  have A_37 := Lib.hid (Rws.then_ A_26.out hb)
  have B_38 := Lib.hid (Rws.then_ B_27.out hb)
  have C_39 := Lib.hid (Rws.then_ C_28.out hb)
  have P_40 := Lib.hid (OwnR.then_ P_29.out hb)
  have Q_41 := Lib.hid (OwnR.then_ Q_30.out hb)
  have X_42 := Lib.hid (OwnR.then_ X_31.out hb)
  have Y_43 := Lib.hid (OwnR.then_ Y_32.out hb)
  have U_44 := Lib.hid (OwnR.then_ U_34.out hb)
  have V_45 := Lib.hid (OwnR.then_ V_35.out hb)
  have HB_46 := Lib.hid (below_then' HB_33.out hb HB_33.out.size)
  clear A_26 B_27 C_28 P_29 Q_30 X_31 Y_32 U_34 V_35 HB_33
  have R_47 := Lib.hid (hx)
  clear hw hx hb
  have BF_48 := Lib.hid (below_then' BF_25.out (show Below w_24.heap.size w_24 w_36 by rw [HWw_36.out]; exact below_box _ _) BF_25.out.size)
  clear BF_25
  go_wp2_with fail
  rw [← HWw_36.out]
  refine ((past_any A1 K c1 la _ 2 [⟨A2, K', c2, lb⟩, ⟨A'', K'', c'', lc⟩] w_36 (OwnU.uns P_40.out) R_47.out (by omega) (by simp))).mono ?_
  rintro e w_49 ⟨A7, c7, rfl, ho, hb⟩
  simp only [List.map_cons, List.map_nil] at ho ⊢
  rw [show (Pl.pastR la [lb, lc]).length = K from (len_pastR _ _).trans HLA.out] at ho ⊢
  have HSZ := Lib.hid (show ∀ g, Value.ownBlock (.slice A7 K c7) = some g → w_36.heap.size ≤ g from fun g hg => (ho.lt g hg).1)
  have HXZ := Lib.hid (show ∀ g, Value.ownBlock (.slice A3 K c3) = some g → g < w_36.heap.size from fun g hg => (OwnR.lt X_42.out g hg).2)
  have HYZ := Lib.hid (show ∀ g, Value.ownBlock (.slice A4 K' c4) = some g → g < w_36.heap.size from fun g hg => (OwnR.lt Y_43.out g hg).2)
  have HZW := Lib.hid (show w_8.heap.size ≤ w_36.heap.size from BF_48.out.size)
  have BF_50 := Lib.hid (below_then' BF_48.out hb BF_48.out.size)
  clear BF_48
  have A_51 := Lib.hid (Rws.then_ A_37.out hb)
  have B_52 := Lib.hid (Rws.then_ B_38.out hb)
  have C_53 := Lib.hid (Rws.then_ C_39.out hb)
  have P_54 := Lib.hid (OwnR.then_ P_40.out hb)
  have Q_55 := Lib.hid (OwnR.then_ Q_41.out hb)
  have X_56 := Lib.hid (OwnR.then_ X_42.out hb)
  have Y_57 := Lib.hid (OwnR.then_ Y_43.out hb)
  have U_58 := Lib.hid (OwnR.then_ U_44.out hb)
  have V_59 := Lib.hid (OwnR.then_ V_45.out hb)
  have R_60 := Lib.hid (RowsV.then_ R_47.out hb)
  have HB_61 := Lib.hid (below_then' HB_46.out hb HB_46.out.size)
  clear A_37 B_38 C_39 P_40 Q_41 X_42 Y_43 U_44 V_45 R_47 HB_46
  clear R_60
  have Z_62 := Lib.hid (ho)
  clear hb ho
  obtain ⟨w_63, hw⟩ : ∃ x, x = w_49.alloc (.cells #[.slice A' K' c', .slice A'' K'' c''] 22) := ⟨_, rfl⟩
  have hx : RowsV (w_49.alloc (.cells #[.slice A' K' c', .slice A'' K'' c''] 22)) (some ⟨w_49.heap.size, 0, none⟩) [⟨A', K', c', lb⟩, ⟨A'', K'', c'', lc⟩] := rows_two w_49 ⟨A', K', c', lb⟩ ⟨A'', K'', c'', lc⟩ (B_52.out) (show K' ≤ 1000 by omega) (C_53.out) (show K'' ≤ 1000 by omega)
  have hb : Below w_49.heap.size w_49 w_63 := by rw [hw]; exact below_box _ _
  rw [← hw] at hx
  have HWw_63 := Lib.hid hw
  have HSw_63 := Lib.hid (show w_63.heap.size = w_49.heap.size + 1 by rw [hw]; simp)
  have A_64 := Lib.hid (Rws.then_ A_51.out hb)
  have B_65 := Lib.hid (Rws.then_ B_52.out hb)
  have C_66 := Lib.hid (Rws.then_ C_53.out hb)
  have P_67 := Lib.hid (OwnR.then_ P_54.out hb)
  have Q_68 := Lib.hid (OwnR.then_ Q_55.out hb)
  have X_69 := Lib.hid (OwnR.then_ X_56.out hb)
  have Y_70 := Lib.hid (OwnR.then_ Y_57.out hb)
  have U_71 := Lib.hid (OwnR.then_ U_58.out hb)
  have V_72 := Lib.hid (OwnR.then_ V_59.out hb)
  have Z_73 := Lib.hid (OwnR.then_ Z_62.out hb)
  have HB_74 := Lib.hid (below_then' HB_61.out hb HB_61.out.size)
  clear A_51 B_52 C_53 P_54 Q_55 X_56 Y_57 U_58 V_59 Z_62 HB_61
  have R_75 := Lib.hid (hx)
  clear hw hx hb
  have BF_76 := Lib.hid (below_then' BF_50.out (show Below w_49.heap.size w_49 w_63 by rw [HWw_63.out]; exact below_box _ _) BF_50.out.size)
  clear BF_50
  go_wp2_with fail
  rw [← HWw_63.out]
  refine ((past6_any A K c la _ 2 [⟨A', K', c', lb⟩, ⟨A'', K'', c'', lc⟩] w_63 A_64.out R_75.out (by omega) (by simp))).mono ?_
  rintro e w_77 ⟨A8, c8, rfl, ho, hb⟩
  simp only [List.map_cons, List.map_nil] at ho ⊢
  rw [show (Pl.pastR la [lb, lc]).length = K from (len_pastR _ _).trans HLA.out] at ho ⊢
  have BF_78 := Lib.hid (below_then' BF_76.out hb BF_76.out.size)
  clear BF_76
  have A_79 := Lib.hid (Rws.then_ A_64.out hb)
  have B_80 := Lib.hid (Rws.then_ B_65.out hb)
  have C_81 := Lib.hid (Rws.then_ C_66.out hb)
  have P_82 := Lib.hid (OwnR.then_ P_67.out hb)
  have Q_83 := Lib.hid (OwnR.then_ Q_68.out hb)
  have X_84 := Lib.hid (OwnR.then_ X_69.out hb)
  have Y_85 := Lib.hid (OwnR.then_ Y_70.out hb)
  have U_86 := Lib.hid (OwnR.then_ U_71.out hb)
  have V_87 := Lib.hid (OwnR.then_ V_72.out hb)
  have Z_88 := Lib.hid (OwnR.then_ Z_73.out hb)
  have R_89 := Lib.hid (RowsV.then_ R_75.out hb)
  have HB_90 := Lib.hid (below_then' HB_74.out hb HB_74.out.size)
  clear A_64 B_65 C_66 P_67 Q_68 X_69 Y_70 U_71 V_72 Z_73 R_75 HB_74
  clear R_89
  have S_91 := Lib.hid (ho)
  clear hb ho
  have hq := sameU_any A3 A5 K c3 K c5 _ _ w_77 (OwnU.uns X_84.out) (OwnU.uns U_86.out)
  rw [decide_eq_true rfl] at hq
  go_wp2_with fail
  refine (hq).mono ?_
  rintro e w_92 ⟨rfl, hb⟩
  have BF_93 := Lib.hid (below_then' BF_78.out hb BF_78.out.size)
  clear BF_78
  have A_94 := Lib.hid (Rws.then_ A_79.out hb)
  have B_95 := Lib.hid (Rws.then_ B_80.out hb)
  have C_96 := Lib.hid (Rws.then_ C_81.out hb)
  have P_97 := Lib.hid (OwnR.then_ P_82.out hb)
  have Q_98 := Lib.hid (OwnR.then_ Q_83.out hb)
  have X_99 := Lib.hid (OwnR.then_ X_84.out hb)
  have Y_100 := Lib.hid (OwnR.then_ Y_85.out hb)
  have U_101 := Lib.hid (OwnR.then_ U_86.out hb)
  have V_102 := Lib.hid (OwnR.then_ V_87.out hb)
  have Z_103 := Lib.hid (OwnR.then_ Z_88.out hb)
  have S_104 := Lib.hid (OwnR.then_ S_91.out hb)
  have HB_105 := Lib.hid (below_then' HB_90.out hb HB_90.out.size)
  clear A_79 B_80 C_81 P_82 Q_83 X_84 Y_85 U_86 V_87 Z_88 S_91 HB_90
  clear hb hq
  have hq := sameU_any A4 A6 K' c4 K' c6 _ _ w_92 (OwnU.uns Y_100.out) (OwnU.uns V_102.out)
  rw [decide_eq_true rfl] at hq
  go_wp2_with fail
  refine (hq).mono ?_
  rintro e w_106 ⟨rfl, hb⟩
  have BF_107 := Lib.hid (below_then' BF_93.out hb BF_93.out.size)
  clear BF_93
  have A_108 := Lib.hid (Rws.then_ A_94.out hb)
  have B_109 := Lib.hid (Rws.then_ B_95.out hb)
  have C_110 := Lib.hid (Rws.then_ C_96.out hb)
  have P_111 := Lib.hid (OwnR.then_ P_97.out hb)
  have Q_112 := Lib.hid (OwnR.then_ Q_98.out hb)
  have X_113 := Lib.hid (OwnR.then_ X_99.out hb)
  have Y_114 := Lib.hid (OwnR.then_ Y_100.out hb)
  have U_115 := Lib.hid (OwnR.then_ U_101.out hb)
  have V_116 := Lib.hid (OwnR.then_ V_102.out hb)
  have Z_117 := Lib.hid (OwnR.then_ Z_103.out hb)
  have S_118 := Lib.hid (OwnR.then_ S_104.out hb)
  have HB_119 := Lib.hid (below_then' HB_105.out hb HB_105.out.size)
  clear A_94 B_95 C_96 P_97 Q_98 X_99 Y_100 U_101 V_102 Z_103 S_104 HB_105
  clear hb hq
  have hq := sameU_any A7 A8 K c7 K c8 _ _ w_106 (OwnU.uns Z_117.out) (OwnU.uns S_118.out)
  rw [decide_eq_true rfl] at hq
  go_wp2_with fail
  refine (hq).mono ?_
  rintro e w_120 ⟨rfl, hb⟩
  have BF_121 := Lib.hid (below_then' BF_107.out hb BF_107.out.size)
  clear BF_107
  have A_122 := Lib.hid (Rws.then_ A_108.out hb)
  have B_123 := Lib.hid (Rws.then_ B_109.out hb)
  have C_124 := Lib.hid (Rws.then_ C_110.out hb)
  have P_125 := Lib.hid (OwnR.then_ P_111.out hb)
  have Q_126 := Lib.hid (OwnR.then_ Q_112.out hb)
  have X_127 := Lib.hid (OwnR.then_ X_113.out hb)
  have Y_128 := Lib.hid (OwnR.then_ Y_114.out hb)
  have U_129 := Lib.hid (OwnR.then_ U_115.out hb)
  have V_130 := Lib.hid (OwnR.then_ V_116.out hb)
  have Z_131 := Lib.hid (OwnR.then_ Z_117.out hb)
  have S_132 := Lib.hid (OwnR.then_ S_118.out hb)
  have HB_133 := Lib.hid (below_then' HB_119.out hb HB_119.out.size)
  clear A_108 B_109 C_110 P_111 Q_112 X_113 Y_114 U_115 V_116 Z_117 S_118 HB_119
  clear hb hq
  clear U_129
  clear V_130
  clear S_132
  clear C_124
  go_wp2_with fail
  have hp := past_any A1 K c1 la none 0 [] w_120 (OwnU.uns P_125.out) (RowsV.none_ _ _) (by omega) (by simp)
  refine (hp).mono ?_
  rintro e w_134 ⟨A9, c9, rfl, ho, hb⟩
  rw [show (Pl.pastR la (List.map RowV.l [])).length = K from HLA.out] at ho ⊢
  have HST := Lib.hid (show ∀ g, Value.ownBlock (.slice A9 K c9) = some g → w_120.heap.size ≤ g from fun g hg => (ho.lt g hg).1)
  have HZT := Lib.hid (show ∀ g, Value.ownBlock (.slice A7 K c7) = some g → g < w_120.heap.size from fun g hg => (OwnR.lt Z_131.out g hg).2)
  have HXT := Lib.hid (show ∀ g, Value.ownBlock (.slice A3 K c3) = some g → g < w_120.heap.size from fun g hg => (OwnR.lt X_127.out g hg).2)
  have HYT := Lib.hid (show ∀ g, Value.ownBlock (.slice A4 K' c4) = some g → g < w_120.heap.size from fun g hg => (OwnR.lt Y_128.out g hg).2)
  have HTW := Lib.hid (show w_8.heap.size ≤ w_120.heap.size from BF_121.out.size)
  have BF_135 := Lib.hid (below_then' BF_121.out hb BF_121.out.size)
  clear BF_121
  have A_136 := Lib.hid (Rws.then_ A_122.out hb)
  have B_137 := Lib.hid (Rws.then_ B_123.out hb)
  have P_138 := Lib.hid (OwnR.then_ P_125.out hb)
  have Q_139 := Lib.hid (OwnR.then_ Q_126.out hb)
  have X_140 := Lib.hid (OwnR.then_ X_127.out hb)
  have Y_141 := Lib.hid (OwnR.then_ Y_128.out hb)
  have Z_142 := Lib.hid (OwnR.then_ Z_131.out hb)
  have HB_143 := Lib.hid (below_then' HB_133.out hb HB_133.out.size)
  clear A_122 B_123 P_125 Q_126 X_127 Y_128 Z_131 HB_133
  have T_144 := Lib.hid (ho)
  clear hb ho hp
  have HFO := Lib.hid (four_of (w := w_134) (base := w_8.heap.size) (a := .slice A3 K c3) (b := .slice A4 K' c4) (c := .slice A7 K c7) (d := .slice A9 K c9)
    ⟨_, _, _, _, rfl, by omega, X_140.out⟩ ⟨_, _, _, _, rfl, by omega, Y_141.out⟩ ⟨_, _, _, _, rfl, by omega, OwnR.lower Z_142.out HZW.out⟩ ⟨_, _, _, _, rfl, by omega, OwnR.lower T_144.out HTW.out⟩
    (fun g hg => ⟨HNE.out g hg, (fun h => by have h1 := HSZ.out g h; have h2 := HXZ.out g hg; omega), (fun h => by have h1 := HST.out g h; have h2 := HXT.out g hg; omega)⟩)
    (fun g hg => ⟨(fun h => by have h1 := HSZ.out g h; have h2 := HYZ.out g hg; omega), (fun h => by have h1 := HST.out g h; have h2 := HYT.out g hg; omega)⟩)
    (fun g hg h => by have h1 := HST.out g h; have h2 := HZT.out g hg; omega))
  obtain ⟨V, hV⟩ : ∃ V : List Value, V = [.slice A3 K c3, .slice A4 K' c4, .slice A7 K c7, .slice A9 K c9] := ⟨_, rfl⟩
  obtain ⟨wr, hwr⟩ : ∃ x, x = w_134.alloc (.cells #[.slice A3 K c3, .slice A4 K' c4, .slice A7 K c7, .slice A9 K c9] 22) := ⟨_, rfl⟩
  have hbr : Below w_134.heap.size w_134 wr := by rw [hwr]; exact below_box _ _
  have HR := Lib.hid (show FoR w_8 w_134.heap.size V (.int .i64 ((0 : Nat) : Int)) wr from ⟨0, rfl, Nat.zero_le _, by rw [hV]; exact HFO.out.then_ hbr, by rw [hwr, hV]; exact heap_new rfl, below_then' BF_135.out hbr BF_135.out.size⟩)
  have HVL := Lib.hid (show V.length = 4 by rw [hV]; rfl)
  have HWR := Lib.hid hwr
  have HGR := Lib.hid (show w_8.heap.size ≤ w_134.heap.size from BF_135.out.size)
  clear hV hwr hbr HFO
  clear A_136 B_137 P_138 Q_139 X_140 Y_141 Z_142 T_144 HSZ HXZ HYZ HZW HST HZT HXT HYT HTW HNE BF_135 HB_143
  go_wp2_with fail
  rw [← HWR.out]
  have hgr0 := HGR.out
  obtain ⟨gr, hgr⟩ : ∃ gr, gr = w_134.heap.size := ⟨_, rfl⟩
  rw [← hgr] at HR hgr0 ⊢
  have HGR2 := Lib.hid hgr0
  clear hgr0 hgr HGR HWR
  go_loopw [80] (fun i wr => FoR w_8 gr V i wr) (fun i _ => 4 - (intOf i).toNat)
  case atStart => exact HR.out
  case round =>
    obtain ⟨j, rfl, hj, hf, hh, hb⟩ := hrel
    have HF := Lib.hid hf
    have HH := Lib.hid hh
    have HB := Lib.hid hb
    rw [HVL.out] at hj
    clear HR
    by_cases hlt : j < 4
    · have hjv : j < V.length := by rw [HVL.out]; exact hlt
      obtain ⟨A10, m, c10, l10, hv, hm, ho⟩ := hf.any j hjv
      have hcv := cellV hh hjv
      rw [hv] at hcv
      have HV := Lib.hid hv
      have HJV := Lib.hid hjv
      have z0 : (0 : Int) ≤ (j : Int) := Int.natCast_nonneg j
      have z1 : (j : Int) < 4 := by omega
      have HMS := Lib.hid (fi_meas hlt)
      have HRI := Lib.hid (show FiV w_8 gr V m (.int .i64 ((0 : Nat) : Int)) wr from ⟨0, rfl, Nat.zero_le _, hf, hh, hb⟩)
      clear hf hh hb hv ho hjv HF HH HB
      go_wp2_with fail
      clear hcv
      go_loopw [86] (fun i wr => FiV w_8 gr V m i wr) (fun i _ => m - (intOf i).toNat)
      case atStart => exact HRI.out
      case round =>
        obtain ⟨k, rfl, hk, hf, hh, hb⟩ := hrel
        have HH := Lib.hid hh
        have HB := Lib.hid hb
        have HF := Lib.hid hf
        clear HRI
        by_cases hlk : k < m
        · obtain ⟨A11, m2, c11, l11, hv2, hm2, ho⟩ := hf.any j HJV.out
          rw [HV.out] at hv2
          injection hv2 with e1 e2 e3
          subst e1 e2 e3
          obtain ⟨g, rfl, hbg, hgw⟩ := OwnR.pos_ ho (by omega)
          obtain ⟨x0, x1, x2, x3, x4, fx⟩ := OwnU.cells ho hlk
          obtain ⟨⟨kx, px, cx, xx, yx⟩, hx⟩ : ∃ y, y = l11.getD k default := ⟨_, rfl⟩
          rw [← hx] at x0 x1 x2 x3 x4
          simp only at x0 x1 x2 x3 x4
          have HST := Lib.hid (hf.set_ HJV.out HV.out hm ho hlk (wrap64 (px + 1)))
          have hng : gr ≠ g := fun e => by
            subst e
            have h1 := OwnR.lt ho gr rfl
            rcases ho.2 with ⟨e1, _⟩ | ⟨g3, cap3, cur3, e1, _, hg3, _⟩
            · cases e1
            · injection e1 with e1 _ _
              injection e1 with e1
              injection e1 with e1
              subst e1
              rw [hh] at hg3
              injection hg3 with hg3
              injection hg3 with _ ht _
              exact absurd ht (by decide)
          have z2 : (0 : Int) ≤ (k : Int) := Int.natCast_nonneg k
          have z3 : (k : Int) < (m : Int) := Int.ofNat_lt.2 hlk
          have HMS2 := Lib.hid (fi_meas hlk)
          have HKN := Lib.hid (show k + 1 ≤ m from hlk)
          have HNG := Lib.hid hng
          clear hf hh hb ho hx hng HF
          go_wp2_with fail
          go_roundw
          case rel => exact ⟨k + 1, by go_num, HKN.out, HST.out.1, HST.out.2.old HH.out (fun e => HNG.out e), HST.out.2.below HB.out HB.out.size (fun b hb => by omega)⟩
          case measure => simp [intOf]; exact HMS2.out
        · clear hf hh hb
          go_wp2_with fail
          go_roundw
          case rel => exact ⟨j + 1, by go_num, HJV.out, HF.out, HH.out, HB.out⟩
          case measure => simp [intOf]; have := HMS.out; omega
    · have P_1 := Lib.hid (OwnR.then_ HPW.out hb)
      have Q_1 := Lib.hid (OwnR.then_ HQW.out hb)
      have A_1 := Lib.hid (Rws.then_ AW.out hb)
      have B_1 := Lib.hid (Rws.then_ BW.out hb)
      have HB2 := Lib.hid (below_then' HBW.out hb HBW.out.size)
      clear hf hh hb HF HH HB HPW HQW AW BW HBW
      go_wp2_with fail
      refine ((awake_any wr)).mono ?_
      rintro e w_146 ⟨rfl, hb⟩
      have P_147 := Lib.hid (OwnR.then_ P_1.out hb)
      have Q_148 := Lib.hid (OwnR.then_ Q_1.out hb)
      have A_149 := Lib.hid (Rws.then_ A_1.out hb)
      have B_150 := Lib.hid (Rws.then_ B_1.out hb)
      have HB_151 := Lib.hid (below_then' HB2.out hb HB2.out.size)
      clear P_1 Q_1 A_1 B_1 HB2
      clear hb
      have hq := sameU_any A1 A K c1 K c _ _ w_146 (OwnU.uns P_147.out) A_149.out
      rw [decide_eq_true rfl] at hq
      go_wp2_with fail
      refine (hq).mono ?_
      rintro e w_152 ⟨rfl, hb⟩
      have P_153 := Lib.hid (OwnR.then_ P_147.out hb)
      have Q_154 := Lib.hid (OwnR.then_ Q_148.out hb)
      have A_155 := Lib.hid (Rws.then_ A_149.out hb)
      have B_156 := Lib.hid (Rws.then_ B_150.out hb)
      have HB_157 := Lib.hid (below_then' HB_151.out hb HB_151.out.size)
      clear P_147 Q_148 A_149 B_150 HB_151
      clear hb hq
      have hq := sameU_any A2 A' K' c2 K' c' _ _ w_152 (OwnU.uns Q_154.out) B_156.out
      rw [decide_eq_true rfl] at hq
      go_wp2_with fail
      refine (hq).mono ?_
      rintro e w_158 ⟨rfl, hb⟩
      have P_159 := Lib.hid (OwnR.then_ P_153.out hb)
      have Q_160 := Lib.hid (OwnR.then_ Q_154.out hb)
      have A_161 := Lib.hid (Rws.then_ A_155.out hb)
      have B_162 := Lib.hid (Rws.then_ B_156.out hb)
      have HB_163 := Lib.hid (below_then' HB_157.out hb HB_157.out.size)
      clear P_153 Q_154 A_155 B_156 HB_157
      clear hb hq
      go_wp2_with fail
      go_ret
      exact ⟨rfl, HB_163.out⟩
end weaveBoths
end Go.Proofs.Ytaboamkfpolpbaa
