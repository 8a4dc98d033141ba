/-
  The walk of UndoBoth: whatever number and whatever two rows come in, it returns true; nothing that was there turned. Conditions: those that it states.
-/
import Derived.Test.YtlnekhkdncccgaaUnN
namespace Go.Proofs.Ytlnekhkdncccgaa
open Go.RowKit
open Pl (Un)

namespace undoBoth
set_option maxRecDepth 100000 in
set_option maxHeartbeats 4000000 in
theorem walk (w : World) (n : Nat) (hn : n < 256) (B : Option Addr) (m d : Nat) (l : List Un) (hB : Units w w.heap.size B m d l) (B' : Option Addr) (m' d' : Nat) (l' : List Un) (hB' : Units w w.heap.size B' m' d' l') :
    Calls Try.prog 7 #[.int .u8 (n : Int), .slice B m d, .slice B' m' d'] w fun e w' => e = .returned (.bool true) ∧ Below w.heap.size w w' := by
  obtain ⟨K, hK⟩ : ∃ K, K = n % 41 := ⟨_, rfl⟩
  have hK40 : K ≤ 40 := by omega
  have hk1 : (n : Int) % 41 = (K : Int) := by omega
  have HK40 := Lib.hid hK40
  have B_0 := Lib.hid hB.1
  have B2_0 := Lib.hid hB'.1
  clear hB hB' hK hK40
  go_enter Try.func7, Try.ntmps7
  go_wp2_with fail
  rw [hk1]
  clear hk1 hn
  refine ((numbered_any K (by have := HK40.out; omega) w)).mono ?_
  rintro e w_1 ⟨A0, c0, rfl, ho, hb⟩
  have B_2 := Lib.hid (Rws.then_ B_0.out hb)
  have B2_3 := Lib.hid (Rws.then_ B2_0.out hb)
  have HB_4 := Lib.hid (hb)
  clear B_0 B2_0
  obtain ⟨T, hT⟩ : ∃ T, T = Pl.numL K := ⟨_, rfl⟩
  rw [← hT] at ho
  have HT := Lib.hid hT
  have HTL := Lib.hid (show T.length = K by rw [hT]; exact Pl.num_len K)
  have T_5 := Lib.hid (ho.crs.2)
  clear hb ho hT
  have hk40 := HK40.out
  go_wp2_with fail
  refine ((bring_any B m d l w_1 B_2.out)).mono ?_
  rintro e w_6 ⟨AB1, cB1, rfl, ho, hb⟩
  obtain ⟨NB1, hNB1⟩ : ∃ k, k = (Pl.bringL l).length := ⟨_, rfl⟩
  rw [← hNB1] at ho ⊢
  clear hNB1
  clear B_2
  have B2_7 := Lib.hid (Rws.then_ B2_3.out hb)
  have T_8 := Lib.hid (Crs.then_ T_5.out hb)
  have HB_9 := Lib.hid (below_then' HB_4.out hb HB_4.out.size)
  clear B2_3 T_5 HB_4
  have S_10 := Lib.hid (ho)
  clear hb ho
  go_wp2_with fail
  refine ((me_any w_6)).mono ?_
  rintro e w_11 ⟨rfl, hb⟩
  have B2_12 := Lib.hid (Rws.then_ B2_7.out hb)
  have T_13 := Lib.hid (Crs.then_ T_8.out hb)
  have S_14 := Lib.hid (OwnR.then_ S_10.out hb)
  have HB_15 := Lib.hid (below_then' HB_9.out hb HB_9.out.size)
  clear B2_7 T_8 S_10 HB_9
  clear hb
  go_wp2_with fail
  refine ((fit_any AB1 NB1 cB1 _ K 1 7 2000 w_11 (OwnU.uns S_14.out) (by omega) (by omega))).mono ?_
  rintro e w_16 ⟨A1, c1, la, rfl, hla, ho, hbr, hki, hb⟩
  clear S_14
  have B2_17 := Lib.hid (Rws.then_ B2_12.out hb)
  have T_18 := Lib.hid (Crs.then_ T_13.out hb)
  have HB_19 := Lib.hid (below_then' HB_15.out hb HB_15.out.size)
  clear B2_12 T_13 HB_15
  have la_20 := Lib.hid (ho)
  have Hla := Lib.hid (And.intro hla hbr)
  have HIla := Lib.hid (show Pl.AllIns la from hki Pl.bring_kind)
  clear hb ho hla hbr hki
  obtain ⟨Nla, hNla⟩ : ∃ k, k = (la).length := ⟨_, rfl⟩
  rw [← hNla] at la_20 ⊢
  have HNla := Lib.hid hNla
  clear hNla
  have hnla : Nla ≤ 20 := by rw [HNla.out]; exact Hla.out.1
  go_wp2_with fail
  have HFA := Lib.hid (Pl.fi_fit (by omega) Hla.out.2 HTL.out (by have := Hla.out.1; omega) (by have := Hla.out.1; omega))
  refine ((applyR_fit A0 K c0 T A1 Nla c1 la w_16 T_18.out (OwnU.uns la_20.out) (by omega) (by omega) HFA.out)).mono ?_
  rintro e w_21 ⟨A3, c3, rfl, ho, hb⟩
  obtain ⟨NW, hNW⟩ : ∃ x, x = Pl.leave la T := ⟨_, rfl⟩
  rw [← hNW] at ho ⊢
  have h60 : NW.length ≤ 60 := by have h := Pl.len_leave_le HFA.out; rw [← hNW, HTL.out, ← HNla.out] at h; omega
  have HNW := Lib.hid hNW
  clear hNW
  obtain ⟨N3, hN3⟩ : ∃ k, k = (NW).length := ⟨_, rfl⟩
  rw [← hN3] at ho h60 ⊢
  have HN3 := Lib.hid hN3
  clear hN3
  have B2_22 := Lib.hid (Rws.then_ B2_17.out hb)
  have T_23 := Lib.hid (Crs.then_ T_18.out hb)
  have la_24 := Lib.hid (OwnR.then_ la_20.out hb)
  have HB_25 := Lib.hid (below_then' HB_19.out hb HB_19.out.size)
  clear B2_17 T_18 la_20 HB_19
  have N_26 := Lib.hid (ho.crs.2)
  clear hb ho
  go_wp2_with fail
  refine ((bring_any B' m' d' l' w_21 B2_22.out)).mono ?_
  rintro e w_27 ⟨AB2, cB2, rfl, ho, hb⟩
  obtain ⟨NB2, hNB2⟩ : ∃ k, k = (Pl.bringL l').length := ⟨_, rfl⟩
  rw [← hNB2] at ho ⊢
  clear hNB2
  clear B2_22
  have T_28 := Lib.hid (Crs.then_ T_23.out hb)
  have la_29 := Lib.hid (OwnR.then_ la_24.out hb)
  have N_30 := Lib.hid (Crs.then_ N_26.out hb)
  have HB_31 := Lib.hid (below_then' HB_25.out hb HB_25.out.size)
  clear T_23 la_24 N_26 HB_25
  have S_32 := Lib.hid (ho)
  clear hb ho
  go_wp2_with fail
  refine ((you_any w_27)).mono ?_
  rintro e w_33 ⟨rfl, hb⟩
  have T_34 := Lib.hid (Crs.then_ T_28.out hb)
  have la_35 := Lib.hid (OwnR.then_ la_29.out hb)
  have N_36 := Lib.hid (Crs.then_ N_30.out hb)
  have S_37 := Lib.hid (OwnR.then_ S_32.out hb)
  have HB_38 := Lib.hid (below_then' HB_31.out hb HB_31.out.size)
  clear T_28 la_29 N_30 S_32 HB_31
  clear hb
  go_wp2_with fail
  refine ((fit_any AB2 NB2 cB2 _ N3 2 1 3000 w_33 (OwnU.uns S_37.out) (by omega) (by omega))).mono ?_
  rintro e w_39 ⟨A4, c4, lb, rfl, hla, ho, hbr, hki, hb⟩
  clear S_37
  have T_40 := Lib.hid (Crs.then_ T_34.out hb)
  have la_41 := Lib.hid (OwnR.then_ la_35.out hb)
  have N_42 := Lib.hid (Crs.then_ N_36.out hb)
  have HB_43 := Lib.hid (below_then' HB_38.out hb HB_38.out.size)
  clear T_34 la_35 N_36 HB_38
  have lb_44 := Lib.hid (ho)
  have Hlb := Lib.hid (And.intro hla hbr)
  have HIlb := Lib.hid (show Pl.AllIns lb from hki Pl.bring_kind)
  clear hb ho hla hbr hki
  obtain ⟨Nlb, hNlb⟩ : ∃ k, k = (lb).length := ⟨_, rfl⟩
  rw [← hNlb] at lb_44 ⊢
  have HNlb := Lib.hid hNlb
  clear hNlb
  have hnlb : Nlb ≤ 20 := by rw [HNlb.out]; exact Hlb.out.1
  go_wp2_with fail
  have HFB := Lib.hid (Pl.fi_fit (by omega) Hlb.out.2 HN3.out.symm (by have := Hlb.out.1; omega) (by have := Hlb.out.1; omega))
  have hbA : Pl.Brings Pl.R2 la := fun u hu hk => by
    have := Pl.fi_brings Hla.out.2 u hu hk
    have := Hla.out.1
    unfold Pl.R2; omega
  have hbB : Pl.Brings Pl.R3 lb := fun u hu hk => by
    have := Pl.fi_brings Hlb.out.2 u hu hk
    unfold Pl.R3; omega
  have hT : ∀ c ∈ T, 1000 ≤ c ∧ c < 2000 := fun c hc => by
    rw [HT.out] at hc
    obtain ⟨i, hi, rfl⟩ := Pl.num_mem hc
    omega
  have hid : ∀ v ∈ lb, v.x ≠ 1 := fun v hv => by rw [(Pl.fi_of Hlb.out.2 v hv).1]; decide
  have HF := Lib.hid (Pl.both_first (A := la) (B := lb) (T := T) (x := 1) (y := 8) (x' := 2) (y' := 9) (by rw [HTL.out, ← HNla.out, ← HNlb.out]; omega) HIla.out HIlb.out HFA.out (by rw [← HNW.out]; exact HFB.out) hbA hbB hid (by decide) hT)
  have HS := Lib.hid (Pl.both_second (A := la) (B := lb) (T := T) (x := 1) (y := 8) (x' := 2) (y' := 9) (by rw [HTL.out, ← HNla.out, ← HNlb.out]; omega) HIla.out HIlb.out HFA.out (by rw [← HNW.out]; exact HFB.out) hbA hbB hid (by decide) hT)
  rw [← HNW.out] at HF HS
  clear hbA hbB hT hid
  refine ((applyR_fit A3 N3 c3 NW A4 Nlb c4 lb w_39 N_42.out (OwnU.uns lb_44.out) (by omega) (by omega) HFB.out)).mono ?_
  rintro e w_45 ⟨A5, c5, rfl, ho, hb⟩
  obtain ⟨TH, hTH⟩ : ∃ x, x = Pl.leave lb NW := ⟨_, rfl⟩
  rw [← hTH] at ho HF HS ⊢
  have h80 : TH.length ≤ 80 := by have h := Pl.len_leave_le HFB.out; rw [← hTH, ← HN3.out, ← HNlb.out] at h; omega
  clear hTH
  obtain ⟨N5, hN5⟩ : ∃ k, k = (TH).length := ⟨_, rfl⟩
  rw [← hN5] at ho h80 ⊢
  have HN5 := Lib.hid hN5
  clear hN5
  have T_46 := Lib.hid (Crs.then_ T_40.out hb)
  have la_47 := Lib.hid (OwnR.then_ la_41.out hb)
  have N_48 := Lib.hid (Crs.then_ N_42.out hb)
  have lb_49 := Lib.hid (OwnR.then_ lb_44.out hb)
  have HB_50 := Lib.hid (below_then' HB_43.out hb HB_43.out.size)
  clear T_40 la_41 N_42 lb_44 HB_43
  have H_51 := Lib.hid (ho.crs.2)
  clear hb ho
  obtain ⟨w_52, hw⟩ : ∃ x, x = w_45.alloc (.cells #[.slice A4 Nlb c4] 23) := ⟨_, rfl⟩
  have hx : RowsV (w_45.alloc (.cells #[.slice A4 Nlb c4] 23)) (some ⟨w_45.heap.size, 0, none⟩) [⟨A4, Nlb, c4, lb⟩] := rows_one w_45 ⟨A4, Nlb, c4, lb⟩ (OwnU.uns lb_49.out) (by simp only; omega)
  have hb : Below w_45.heap.size w_45 w_52 := by rw [hw]; exact below_box _ _
  rw [← hw] at hx
  have HWw_52 := Lib.hid hw
  have HSw_52 := Lib.hid (show w_52.heap.size = w_45.heap.size + 1 by rw [hw]; simp)
  have T_53 := Lib.hid (Crs.then_ T_46.out hb)
  have la_54 := Lib.hid (OwnR.then_ la_47.out hb)
  have N_55 := Lib.hid (Crs.then_ N_48.out hb)
  have lb_56 := Lib.hid (OwnR.then_ lb_49.out hb)
  have H_57 := Lib.hid (Crs.then_ H_51.out hb)
  have HB_58 := Lib.hid (below_then' HB_50.out hb HB_50.out.size)
  clear T_46 la_47 N_48 lb_49 H_51 HB_50
  have V_59 := Lib.hid (hx)
  clear hw hx hb
  go_wp2_with fail
  rw [← HWw_52.out]
  refine ((back_any A1 Nla c1 la 1 8 _ 1 [⟨A4, Nlb, c4, lb⟩] w_52 (OwnU.uns la_54.out) V_59.out (by omega) (by simp))).mono ?_
  rintro e w_60 ⟨A6, c6, rfl, ho, hb⟩
  obtain ⟨X, hX⟩ : ∃ x, x = Pl.back1 1 8 la lb := ⟨_, rfl⟩
  rw [show Pl.cleanL (Pl.pastR (Pl.invR 1 8 la) (([⟨A4, Nlb, c4, lb⟩] : List RowV).map RowV.l)) = X from hX.symm] at ho ⊢
  rw [← hX] at HF
  have hXl : X.length ≤ 20 := by
    rw [hX]
    unfold Pl.back1
    have h1 := Pl.len_clean (Pl.bothR (Pl.invR 1 8 la) lb).1
    rw [both_len1, Pl.inv_len, ← HNla.out] at h1; omega
  clear hX
  obtain ⟨N6, hN6⟩ : ∃ k, k = (X).length := ⟨_, rfl⟩
  rw [← hN6] at ho hXl ⊢
  have HN6 := Lib.hid hN6
  clear hN6
  clear V_59
  have T_61 := Lib.hid (Crs.then_ T_53.out hb)
  have la_62 := Lib.hid (OwnR.then_ la_54.out hb)
  have N_63 := Lib.hid (Crs.then_ N_55.out hb)
  have lb_64 := Lib.hid (OwnR.then_ lb_56.out hb)
  have H_65 := Lib.hid (Crs.then_ H_57.out hb)
  have HB_66 := Lib.hid (below_then' HB_58.out hb HB_58.out.size)
  clear T_53 la_54 N_55 lb_56 H_57 HB_58
  have X_67 := Lib.hid (ho)
  clear hb ho
  go_wp2_with fail
  refine ((applyR_fit A5 N5 c5 TH A6 N6 c6 X w_60 H_65.out (OwnU.uns X_67.out) (by omega) (by omega) HF.out.1)).mono ?_
  rintro e w_68 ⟨A7, c7, rfl, ho, hb⟩
  obtain ⟨P, hP⟩ : ∃ x, x = Pl.leave X TH := ⟨_, rfl⟩
  have h100 : P.length ≤ 120 := by have h := Pl.len_leave_le HF.out.1; rw [← hP, ← HN5.out, ← HN6.out] at h; omega
  rw [← hP] at ho HF ⊢
  clear hP
  obtain ⟨N7, hN7⟩ : ∃ k, k = P.length := ⟨_, rfl⟩
  rw [← hN7] at ho h100 ⊢
  clear hN7
  have T_69 := Lib.hid (Crs.then_ T_61.out hb)
  have la_70 := Lib.hid (OwnR.then_ la_62.out hb)
  have N_71 := Lib.hid (Crs.then_ N_63.out hb)
  have lb_72 := Lib.hid (OwnR.then_ lb_64.out hb)
  have H_73 := Lib.hid (Crs.then_ H_65.out hb)
  have X_74 := Lib.hid (OwnR.then_ X_67.out hb)
  have HB_75 := Lib.hid (below_then' HB_66.out hb HB_66.out.size)
  clear T_61 la_62 N_63 lb_64 H_65 X_67 HB_66
  have P_76 := Lib.hid (ho.crs.2)
  clear hb ho
  obtain ⟨w_77, hw⟩ : ∃ x, x = w_68.alloc (.cells #[.slice A6 N6 c6] 23) := ⟨_, rfl⟩
  have hx : RowsV (w_68.alloc (.cells #[.slice A6 N6 c6] 23)) (some ⟨w_68.heap.size, 0, none⟩) [⟨A6, N6, c6, X⟩] := rows_one w_68 ⟨A6, N6, c6, X⟩ (OwnU.uns X_74.out) (by simp only; omega)
  have hb : Below w_68.heap.size w_68 w_77 := by rw [hw]; exact below_box _ _
  rw [← hw] at hx
  have HWw_77 := Lib.hid hw
  have HSw_77 := Lib.hid (show w_77.heap.size = w_68.heap.size + 1 by rw [hw]; simp)
  have T_78 := Lib.hid (Crs.then_ T_69.out hb)
  have la_79 := Lib.hid (OwnR.then_ la_70.out hb)
  have N_80 := Lib.hid (Crs.then_ N_71.out hb)
  have lb_81 := Lib.hid (OwnR.then_ lb_72.out hb)
  have H_82 := Lib.hid (Crs.then_ H_73.out hb)
  have X_83 := Lib.hid (OwnR.then_ X_74.out hb)
  have P_84 := Lib.hid (Crs.then_ P_76.out hb)
  have HB_85 := Lib.hid (below_then' HB_75.out hb HB_75.out.size)
  clear T_69 la_70 N_71 lb_72 H_73 X_74 P_76 HB_75
  have V_86 := Lib.hid (hx)
  clear hw hx hb
  go_wp2_with fail
  rw [← HWw_77.out]
  refine ((back_any A4 Nlb c4 lb 2 9 _ 1 [⟨A6, N6, c6, X⟩] w_77 (OwnU.uns lb_81.out) V_86.out (by omega) (by simp))).mono ?_
  rintro e w_87 ⟨A8, c8, rfl, ho, hb⟩
  obtain ⟨Y, hY⟩ : ∃ x, x = Pl.cleanL (Pl.bothR (Pl.invR 2 9 lb) X).1 := ⟨_, rfl⟩
  rw [show Pl.cleanL (Pl.pastR (Pl.invR 2 9 lb) (([⟨A6, N6, c6, X⟩] : List RowV).map RowV.l)) = Y from hY.symm] at ho ⊢
  rw [← hY] at HF
  have hYl : Y.length ≤ 20 := by
    rw [hY]
    have h1 := Pl.len_clean (Pl.bothR (Pl.invR 2 9 lb) X).1
    rw [both_len1, Pl.inv_len, ← HNlb.out] at h1; omega
  clear hY
  obtain ⟨N8, hN8⟩ : ∃ k, k = (Y).length := ⟨_, rfl⟩
  rw [← hN8] at ho hYl ⊢
  have HN8 := Lib.hid hN8
  clear hN8
  clear V_86
  have T_88 := Lib.hid (Crs.then_ T_78.out hb)
  have la_89 := Lib.hid (OwnR.then_ la_79.out hb)
  have N_90 := Lib.hid (Crs.then_ N_80.out hb)
  have lb_91 := Lib.hid (OwnR.then_ lb_81.out hb)
  have H_92 := Lib.hid (Crs.then_ H_82.out hb)
  have X_93 := Lib.hid (OwnR.then_ X_83.out hb)
  have P_94 := Lib.hid (Crs.then_ P_84.out hb)
  have HB_95 := Lib.hid (below_then' HB_85.out hb HB_85.out.size)
  clear T_78 la_79 N_80 lb_81 H_82 X_83 P_84 HB_85
  have Y_96 := Lib.hid (ho)
  clear hb ho
  go_wp2_with fail
  refine ((applyR_fit A7 N7 c7 P A8 N8 c8 Y w_87 P_94.out (OwnU.uns Y_96.out) (by omega) (by omega) HF.out.2.1)).mono ?_
  rintro e w_97 ⟨A9, c9, rfl, ho, hb⟩
  rw [HF.out.2.2, HTL.out] at ho ⊢
  have T_98 := Lib.hid (Crs.then_ T_88.out hb)
  have la_99 := Lib.hid (OwnR.then_ la_89.out hb)
  have N_100 := Lib.hid (Crs.then_ N_90.out hb)
  have lb_101 := Lib.hid (OwnR.then_ lb_91.out hb)
  have H_102 := Lib.hid (Crs.then_ H_92.out hb)
  have X_103 := Lib.hid (OwnR.then_ X_93.out hb)
  have P_104 := Lib.hid (Crs.then_ P_94.out hb)
  have Y_105 := Lib.hid (OwnR.then_ Y_96.out hb)
  have HB_106 := Lib.hid (below_then' HB_95.out hb HB_95.out.size)
  clear T_88 la_89 N_90 lb_91 H_92 X_93 P_94 Y_96 HB_95
  have Q_107 := Lib.hid (ho.crs.2)
  clear hb ho
  clear X_103
  clear Y_105
  clear P_104
  go_wp2_with fail
  refine ((back_any A4 Nlb c4 lb 2 9 none 0 [] w_97 (OwnU.uns lb_101.out) (RowsV.none_ _ none) (by omega) (by simp))).mono ?_
  rintro e w_108 ⟨A10, c10, rfl, ho, hb⟩
  obtain ⟨Z, hZ⟩ : ∃ x, x = Pl.cleanL (Pl.invR 2 9 lb) := ⟨_, rfl⟩
  rw [show Pl.cleanL (Pl.pastR (Pl.invR 2 9 lb) (([] : List RowV).map RowV.l)) = Z from hZ.symm] at ho ⊢
  rw [← hZ] at HS
  have hZl : Z.length ≤ 20 := by
    rw [hZ]
    have h1 := Pl.len_clean (Pl.invR 2 9 lb)
    rw [Pl.inv_len, ← HNlb.out] at h1; omega
  clear hZ
  obtain ⟨N10, hN10⟩ : ∃ k, k = (Z).length := ⟨_, rfl⟩
  rw [← hN10] at ho hZl ⊢
  have HN10 := Lib.hid hN10
  clear hN10
  have T_109 := Lib.hid (Crs.then_ T_98.out hb)
  have la_110 := Lib.hid (OwnR.then_ la_99.out hb)
  have N_111 := Lib.hid (Crs.then_ N_100.out hb)
  have lb_112 := Lib.hid (OwnR.then_ lb_101.out hb)
  have H_113 := Lib.hid (Crs.then_ H_102.out hb)
  have Q_114 := Lib.hid (Crs.then_ Q_107.out hb)
  have HB_115 := Lib.hid (below_then' HB_106.out hb HB_106.out.size)
  clear T_98 la_99 N_100 lb_101 H_102 Q_107 HB_106
  have Z_116 := Lib.hid (ho)
  clear hb ho
  go_wp2_with fail
  refine ((applyR_fit A5 N5 c5 TH A10 N10 c10 Z w_108 H_113.out (OwnU.uns Z_116.out) (by omega) (by omega) HS.out.1)).mono ?_
  rintro e w_117 ⟨A11, c11, rfl, ho, hb⟩
  rw [HS.out.2.1, ← HN3.out] at ho ⊢
  have T_118 := Lib.hid (Crs.then_ T_109.out hb)
  have la_119 := Lib.hid (OwnR.then_ la_110.out hb)
  have N_120 := Lib.hid (Crs.then_ N_111.out hb)
  have lb_121 := Lib.hid (OwnR.then_ lb_112.out hb)
  have H_122 := Lib.hid (Crs.then_ H_113.out hb)
  have Q_123 := Lib.hid (Crs.then_ Q_114.out hb)
  have Z_124 := Lib.hid (OwnR.then_ Z_116.out hb)
  have HB_125 := Lib.hid (below_then' HB_115.out hb HB_115.out.size)
  clear T_109 la_110 N_111 lb_112 H_113 Q_114 Z_116 HB_115
  have R_126 := Lib.hid (ho.crs.2)
  clear hb ho
  clear H_122
  obtain ⟨w_127, hw⟩ : ∃ x, x = w_117.alloc (.cells #[.slice A4 Nlb c4, .slice A10 N10 c10] 23) := ⟨_, rfl⟩
  have hx : RowsV (w_117.alloc (.cells #[.slice A4 Nlb c4, .slice A10 N10 c10] 23)) (some ⟨w_117.heap.size, 0, none⟩) [⟨A4, Nlb, c4, lb⟩, ⟨A10, N10, c10, Z⟩] := rows_two w_117 ⟨A4, Nlb, c4, lb⟩ ⟨A10, N10, c10, Z⟩ (OwnU.uns lb_121.out) (by simp only; omega) (OwnU.uns Z_124.out) (by simp only; omega)
  have hb : Below w_117.heap.size w_117 w_127 := by rw [hw]; exact below_box _ _
  rw [← hw] at hx
  have HWw_127 := Lib.hid hw
  have HSw_127 := Lib.hid (show w_127.heap.size = w_117.heap.size + 1 by rw [hw]; simp)
  have T_128 := Lib.hid (Crs.then_ T_118.out hb)
  have la_129 := Lib.hid (OwnR.then_ la_119.out hb)
  have N_130 := Lib.hid (Crs.then_ N_120.out hb)
  have lb_131 := Lib.hid (OwnR.then_ lb_121.out hb)
  have Q_132 := Lib.hid (Crs.then_ Q_123.out hb)
  have Z_133 := Lib.hid (OwnR.then_ Z_124.out hb)
  have R_134 := Lib.hid (Crs.then_ R_126.out hb)
  have HB_135 := Lib.hid (below_then' HB_125.out hb HB_125.out.size)
  clear T_118 la_119 N_120 lb_121 Q_123 Z_124 R_126 HB_125
  have V_136 := Lib.hid (hx)
  clear hw hx hb
  go_wp2_with fail
  rw [← HWw_127.out]
  refine ((back_any A1 Nla c1 la 1 8 _ 2 [⟨A4, Nlb, c4, lb⟩, ⟨A10, N10, c10, Z⟩] w_127 (OwnU.uns la_129.out) V_136.out (by omega) (by simp))).mono ?_
  rintro e w_137 ⟨A12, c12, rfl, ho, hb⟩
  obtain ⟨WW, hWW⟩ : ∃ x, x = Pl.cleanL (Pl.pastR (Pl.invR 1 8 la) [lb, Z]) := ⟨_, rfl⟩
  rw [show Pl.cleanL (Pl.pastR (Pl.invR 1 8 la) (([⟨A4, Nlb, c4, lb⟩, ⟨A10, N10, c10, Z⟩] : List RowV).map RowV.l)) = WW from hWW.symm] at ho ⊢
  rw [← hWW] at HS
  have hWWl : WW.length ≤ 20 := by
    rw [hWW]
    have h1 := Pl.len_clean (Pl.pastR (Pl.invR 1 8 la) [lb, Z])
    rw [len_pastR, Pl.inv_len, ← HNla.out] at h1; omega
  clear hWW
  obtain ⟨N12, hN12⟩ : ∃ k, k = (WW).length := ⟨_, rfl⟩
  rw [← hN12] at ho hWWl ⊢
  have HN12 := Lib.hid hN12
  clear hN12
  clear V_136
  have T_138 := Lib.hid (Crs.then_ T_128.out hb)
  have la_139 := Lib.hid (OwnR.then_ la_129.out hb)
  have N_140 := Lib.hid (Crs.then_ N_130.out hb)
  have lb_141 := Lib.hid (OwnR.then_ lb_131.out hb)
  have Q_142 := Lib.hid (Crs.then_ Q_132.out hb)
  have Z_143 := Lib.hid (OwnR.then_ Z_133.out hb)
  have R_144 := Lib.hid (Crs.then_ R_134.out hb)
  have HB_145 := Lib.hid (below_then' HB_135.out hb HB_135.out.size)
  clear T_128 la_129 N_130 lb_131 Q_132 Z_133 R_134 HB_135
  have WW_146 := Lib.hid (ho)
  clear hb ho
  go_wp2_with fail
  refine ((applyR_fit A11 N3 c11 NW A12 N12 c12 WW w_137 R_144.out (OwnU.uns WW_146.out) (by omega) (by omega) HS.out.2.2.1)).mono ?_
  rintro e w_147 ⟨A13, c13, rfl, ho, hb⟩
  rw [HS.out.2.2.2, HTL.out] at ho ⊢
  have T_148 := Lib.hid (Crs.then_ T_138.out hb)
  have la_149 := Lib.hid (OwnR.then_ la_139.out hb)
  have N_150 := Lib.hid (Crs.then_ N_140.out hb)
  have lb_151 := Lib.hid (OwnR.then_ lb_141.out hb)
  have Q_152 := Lib.hid (Crs.then_ Q_142.out hb)
  have Z_153 := Lib.hid (OwnR.then_ Z_143.out hb)
  have R_154 := Lib.hid (Crs.then_ R_144.out hb)
  have WW_155 := Lib.hid (OwnR.then_ WW_146.out hb)
  have HB_156 := Lib.hid (below_then' HB_145.out hb HB_145.out.size)
  clear T_138 la_139 N_140 lb_141 Q_142 Z_143 R_144 WW_146 HB_145
  have S_157 := Lib.hid (ho.crs.2)
  clear hb ho
  clear la_149
  clear lb_151
  clear Z_153
  clear WW_155
  go_wp2_with fail
  refine ((awake_any w_147)).mono ?_
  rintro e w_158 ⟨rfl, hb⟩
  have T_159 := Lib.hid (Crs.then_ T_148.out hb)
  have N_160 := Lib.hid (Crs.then_ N_150.out hb)
  have Q_161 := Lib.hid (Crs.then_ Q_152.out hb)
  have R_162 := Lib.hid (Crs.then_ R_154.out hb)
  have S_163 := Lib.hid (Crs.then_ S_157.out hb)
  have HB_164 := Lib.hid (below_then' HB_156.out hb HB_156.out.size)
  clear T_148 N_150 Q_152 R_154 S_157 HB_156
  clear hb
  go_wp2_with fail
  have hq := equalC_any A9 A0 K c9 K c0 T T w_158 Q_161.out T_159.out
  rw [decide_eq_true rfl] at hq
  refine (hq).mono ?_
  rintro e w_165 ⟨rfl, hb⟩
  have T_166 := Lib.hid (Crs.then_ T_159.out hb)
  have N_167 := Lib.hid (Crs.then_ N_160.out hb)
  have Q_168 := Lib.hid (Crs.then_ Q_161.out hb)
  have R_169 := Lib.hid (Crs.then_ R_162.out hb)
  have S_170 := Lib.hid (Crs.then_ S_163.out hb)
  have HB_171 := Lib.hid (below_then' HB_164.out hb HB_164.out.size)
  clear T_159 N_160 Q_161 R_162 S_163 HB_164
  clear hb hq
  go_wp2_with fail
  have hq := equalC_any A13 A0 K c13 K c0 T T w_165 S_170.out T_166.out
  rw [decide_eq_true rfl] at hq
  refine (hq).mono ?_
  rintro e w_172 ⟨rfl, hb⟩
  have T_173 := Lib.hid (Crs.then_ T_166.out hb)
  have N_174 := Lib.hid (Crs.then_ N_167.out hb)
  have Q_175 := Lib.hid (Crs.then_ Q_168.out hb)
  have R_176 := Lib.hid (Crs.then_ R_169.out hb)
  have S_177 := Lib.hid (Crs.then_ S_170.out hb)
  have HB_178 := Lib.hid (below_then' HB_171.out hb HB_171.out.size)
  clear T_166 N_167 Q_168 R_169 S_170 HB_171
  clear hb hq
  go_wp2_with fail
  have hq := equalC_any A11 A3 N3 c11 N3 c3 NW NW w_172 R_176.out N_174.out
  rw [decide_eq_true rfl] at hq
  refine (hq).mono ?_
  rintro e w_179 ⟨rfl, hb⟩
  have T_180 := Lib.hid (Crs.then_ T_173.out hb)
  have N_181 := Lib.hid (Crs.then_ N_174.out hb)
  have Q_182 := Lib.hid (Crs.then_ Q_175.out hb)
  have R_183 := Lib.hid (Crs.then_ R_176.out hb)
  have S_184 := Lib.hid (Crs.then_ S_177.out hb)
  have HB_185 := Lib.hid (below_then' HB_178.out hb HB_178.out.size)
  clear T_173 N_174 Q_175 R_176 S_177 HB_178
  clear hb hq
  go_wp2_with fail
  go_ret
  exact ⟨rfl, HB_185.out⟩
end undoBoth
end Go.Proofs.Ytlnekhkdncccgaa
