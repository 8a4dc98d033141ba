/-
  The walk of WeaveSquare: whatever text and whatever two rows come in, it returns true; nothing that was there turned. Conditions: those that it states.
-/
import Derived.Test.YtaboamkfpolpbaaWvI
namespace Go.Proofs.Ytaboamkfpolpbaa
open Go.RowKit
open Pl (Un)

namespace weaveSquare
set_option maxRecDepth 100000 in
set_option maxHeartbeats 4000000 in
theorem walk (w : World) (A : Option Addr) (n c : Nat) (cs : List Int) (hT : Crs w w.heap.size A n c cs) (B : Option Addr) (m d : Nat) (l : List Un) (hA : Units w w.heap.size B m d l) (B' : Option Addr) (m' d' : Nat) (l' : List Un) (hB : Units w w.heap.size B' m' d' l') :
    Calls Try.prog 4 #[.slice A n c, .slice B m d, .slice B' m' d'] w fun e w' => e = .returned (.bool true) ∧ Below w.heap.size w w' := by
  obtain ⟨K, hK⟩ : ∃ K, K = min n 40 := ⟨_, rfl⟩
  have hK40 : K ≤ 40 := by omega
  have HK40 := Lib.hid hK40
  have hKn : K ≤ n := by omega
  have hmin : (if (40 : Int) < (n : Int) then (40 : Int) else (n : Int)) = (K : Int) := by split <;> omega
  have hst := slice_toC A n c K (Nat.le_trans hKn hT.le)
  have hcap := hT.cap
  have hle := hT.le
  unfold maxLen at hcap
  have T_0 := Lib.hid (hT.upto hKn)
  obtain ⟨T, hTT⟩ : ∃ T, T = cs.take K := ⟨_, rfl⟩
  rw [← hTT] at T_0
  have A_0 := Lib.hid hA.1
  have HUA := Lib.hid hA.2
  have B_0 := Lib.hid hB.1
  have HUB := Lib.hid hB.2
  have HTL := Lib.hid T_0.out.len
  clear hT hA hB hK hTT hK40 hKn
  go_enter Try.func4, Try.ntmps4
  go_wp2_with fail
  clear hst hmin
  have hK40 := HK40.out
  refine ((fit_any B m d l K 1 w A_0.out HUA.out (by omega))).mono ?_
  rintro e w_1 ⟨A1, c1, la, rfl, hla, ho, hbr, hb⟩
  clear A_0
  have T_2 := Lib.hid (Crs.then_ T_0.out hb)
  have B_3 := Lib.hid (Rws.then_ B_0.out hb)
  have HB_4 := Lib.hid (hb)
  clear T_0 B_0
  have LA_5 := Lib.hid (ho)
  have HLA := Lib.hid (And.intro hla hbr)
  clear hb ho hla hbr
  obtain ⟨NA, hNA⟩ : ∃ k, k = la.length := ⟨_, rfl⟩
  rw [← hNA] at LA_5 ⊢
  have HNA := Lib.hid hNA
  clear hNA
  go_wp2_with fail
  refine ((fit_any B' m' d' l' K 2 w_1 B_3.out HUB.out (by omega))).mono ?_
  rintro e w_6 ⟨A2, c2, lb, rfl, hlb, ho, hbr, hb⟩
  clear B_3
  have T_7 := Lib.hid (Crs.then_ T_2.out hb)
  have LA_8 := Lib.hid (OwnR.then_ LA_5.out hb)
  have HB_9 := Lib.hid (below_then' HB_4.out hb HB_4.out.size)
  clear T_2 LA_5 HB_4
  have LB_10 := Lib.hid (ho)
  have HLB := Lib.hid (And.intro hlb hbr)
  clear hb ho hlb hbr
  obtain ⟨NB, hNB⟩ : ∃ k, k = lb.length := ⟨_, rfl⟩
  rw [← hNB] at LB_10 ⊢
  have HNB := Lib.hid hNB
  clear hNB
  have HSQ := Lib.hid (Pl.br_square HTL.out (by have := HLA.out.1; have := HLB.out.1; omega) HLA.out.2 HLB.out.2)
  have hna : NA ≤ 20 := by rw [HNA.out]; exact HLA.out.1
  have hnb : NB ≤ 20 := by rw [HNB.out]; exact HLB.out.1
  go_wp2_with fail
  refine ((both_any w_6 A1 NA c1 la A2 NB c2 lb (OwnU.uns LA_8.out) (OwnU.uns LB_10.out) (by omega) (by omega))).mono ?_
  rintro e w_11 ⟨A3, c3, A4, c4, rfl, ho, ho2, _, hb⟩
  have T_12 := Lib.hid (Crs.then_ T_7.out hb)
  have LA_13 := Lib.hid (OwnR.then_ LA_8.out hb)
  have LB_14 := Lib.hid (OwnR.then_ LB_10.out hb)
  have HB_15 := Lib.hid (below_then' HB_9.out hb HB_9.out.size)
  clear T_7 LA_8 LB_10 HB_9
  rw [← HNA.out] at ho ⊢
  rw [← HNB.out] at ho2 ⊢
  have X_16 := Lib.hid (ho)
  have Y_17 := Lib.hid (ho2)
  clear hb ho ho2
  go_wp2_with fail
  refine ((applyR_fit A K c _ A1 NA c1 _ w_11 T_12.out (OwnU.uns LA_13.out) (by omega) (by omega) HSQ.out.1)).mono ?_
  rintro e w_18 ⟨A5, c5, rfl, ho, hb⟩
  have T_19 := Lib.hid (Crs.then_ T_12.out hb)
  have LA_20 := Lib.hid (OwnR.then_ LA_13.out hb)
  have LB_21 := Lib.hid (OwnR.then_ LB_14.out hb)
  have X_22 := Lib.hid (OwnR.then_ X_16.out hb)
  have Y_23 := Lib.hid (OwnR.then_ Y_17.out hb)
  have HB_24 := Lib.hid (below_then' HB_15.out hb HB_15.out.size)
  clear T_12 LA_13 LB_14 X_16 Y_17 HB_15
  have hlen5 : (Pl.leave la T).length ≤ 60 := by have := Pl.len_leave_le HSQ.out.1; have := HTL.out; have := HNA.out; omega
  obtain ⟨N5, hN5⟩ : ∃ k, k = (Pl.leave la T).length := ⟨_, rfl⟩
  rw [← hN5] at ho hlen5 ⊢
  have HN5 := Lib.hid hN5
  have P_25 := Lib.hid (ho)
  have hc := ho.crs.2
  have Pc_26 := Lib.hid (hc)
  clear P_25
  clear hb ho hc hN5
  go_wp2_with fail
  refine ((applyR_fit A K c _ A2 NB c2 _ w_18 T_19.out (OwnU.uns LB_21.out) (by omega) (by omega) HSQ.out.2.1)).mono ?_
  rintro e w_27 ⟨A6, c6, rfl, ho, hb⟩
  have T_28 := Lib.hid (Crs.then_ T_19.out hb)
  have LA_29 := Lib.hid (OwnR.then_ LA_20.out hb)
  have LB_30 := Lib.hid (OwnR.then_ LB_21.out hb)
  have X_31 := Lib.hid (OwnR.then_ X_22.out hb)
  have Y_32 := Lib.hid (OwnR.then_ Y_23.out hb)
  have Pc_33 := Lib.hid (Crs.then_ Pc_26.out hb)
  have HB_34 := Lib.hid (below_then' HB_24.out hb HB_24.out.size)
  clear T_19 LA_20 LB_21 X_22 Y_23 Pc_26 HB_24
  have hlen6 : (Pl.leave lb T).length ≤ 60 := by have := Pl.len_leave_le HSQ.out.2.1; have := HTL.out; have := HNB.out; omega
  obtain ⟨N6, hN6⟩ : ∃ k, k = (Pl.leave lb T).length := ⟨_, rfl⟩
  rw [← hN6] at ho hlen6 ⊢
  have HN6 := Lib.hid hN6
  have Q_35 := Lib.hid (ho)
  have hc := ho.crs.2
  have Qc_36 := Lib.hid (hc)
  clear Q_35
  clear hb ho hc hN6
  go_wp2_with fail
  refine ((applyR_fit A5 N5 c5 _ A4 NB c4 _ w_27 Pc_33.out (OwnU.uns Y_32.out) (by omega) (by omega) HSQ.out.2.2.2.1)).mono ?_
  rintro e w_37 ⟨A7, c7, rfl, ho, hb⟩
  have T_38 := Lib.hid (Crs.then_ T_28.out hb)
  have LA_39 := Lib.hid (OwnR.then_ LA_29.out hb)
  have LB_40 := Lib.hid (OwnR.then_ LB_30.out hb)
  have X_41 := Lib.hid (OwnR.then_ X_31.out hb)
  have Y_42 := Lib.hid (OwnR.then_ Y_32.out hb)
  have Pc_43 := Lib.hid (Crs.then_ Pc_33.out hb)
  have Qc_44 := Lib.hid (Crs.then_ Qc_36.out hb)
  have HB_45 := Lib.hid (below_then' HB_34.out hb HB_34.out.size)
  clear T_28 LA_29 LB_30 X_31 Y_32 Pc_33 Qc_36 HB_34
  have hlen7 : (Pl.leave (Pl.bothR la lb).2 (Pl.leave la T)).length ≤ 100 := by have h := Pl.len_leave_le HSQ.out.2.2.2.1; rw [both_len2, ← HN5.out, ← HNB.out] at h; omega
  obtain ⟨N7, hN7⟩ : ∃ k, k = (Pl.leave (Pl.bothR la lb).2 (Pl.leave la T)).length := ⟨_, rfl⟩
  rw [← hN7] at ho hlen7 ⊢
  have HN7 := Lib.hid hN7
  have U_46 := Lib.hid (ho)
  have hc := ho.crs.2
  have Uc_47 := Lib.hid (hc)
  clear U_46
  clear hb ho hc hN7
  go_wp2_with fail
  refine ((applyR_fit A6 N6 c6 _ A3 NA c3 _ w_37 Qc_44.out (OwnU.uns X_41.out) (by omega) (by omega) HSQ.out.2.2.1)).mono ?_
  rintro e w_48 ⟨A8, c8, rfl, ho, hb⟩
  have T_49 := Lib.hid (Crs.then_ T_38.out hb)
  have LA_50 := Lib.hid (OwnR.then_ LA_39.out hb)
  have LB_51 := Lib.hid (OwnR.then_ LB_40.out hb)
  have X_52 := Lib.hid (OwnR.then_ X_41.out hb)
  have Y_53 := Lib.hid (OwnR.then_ Y_42.out hb)
  have Pc_54 := Lib.hid (Crs.then_ Pc_43.out hb)
  have Qc_55 := Lib.hid (Crs.then_ Qc_44.out hb)
  have Uc_56 := Lib.hid (Crs.then_ Uc_47.out hb)
  have HB_57 := Lib.hid (below_then' HB_45.out hb HB_45.out.size)
  clear T_38 LA_39 LB_40 X_41 Y_42 Pc_43 Qc_44 Uc_47 HB_45
  have hlen8 : (Pl.leave (Pl.bothR la lb).1 (Pl.leave lb T)).length ≤ 100 := by have h := Pl.len_leave_le HSQ.out.2.2.1; rw [both_len1, ← HN6.out, ← HNA.out] at h; omega
  obtain ⟨N8, hN8⟩ : ∃ k, k = (Pl.leave (Pl.bothR la lb).1 (Pl.leave lb T)).length := ⟨_, rfl⟩
  rw [← hN8] at ho hlen8 ⊢
  have HN8 := Lib.hid hN8
  have V_58 := Lib.hid (ho)
  have hc := ho.crs.2
  have Vc_59 := Lib.hid (hc)
  clear V_58
  clear hb ho hc hN8
  go_wp2_with fail
  refine ((awake_any w_48)).mono ?_
  rintro e w_60 ⟨rfl, hb⟩
  have T_61 := Lib.hid (Crs.then_ T_49.out hb)
  have LA_62 := Lib.hid (OwnR.then_ LA_50.out hb)
  have LB_63 := Lib.hid (OwnR.then_ LB_51.out hb)
  have X_64 := Lib.hid (OwnR.then_ X_52.out hb)
  have Y_65 := Lib.hid (OwnR.then_ Y_53.out hb)
  have Pc_66 := Lib.hid (Crs.then_ Pc_54.out hb)
  have Qc_67 := Lib.hid (Crs.then_ Qc_55.out hb)
  have Uc_68 := Lib.hid (Crs.then_ Uc_56.out hb)
  have Vc_69 := Lib.hid (Crs.then_ Vc_59.out hb)
  have HB_70 := Lib.hid (below_then' HB_57.out hb HB_57.out.size)
  clear T_49 LA_50 LB_51 X_52 Y_53 Pc_54 Qc_55 Uc_56 Vc_59 HB_57
  clear hb
  go_wp2_with fail
  have hq := equalC_any A7 A8 N7 c7 N8 c8 _ _ w_60 Uc_68.out Vc_69.out
  rw [decide_eq_true HSQ.out.2.2.2.2] at hq
  refine (hq).mono ?_
  rintro e w_71 ⟨rfl, hb⟩
  have T_72 := Lib.hid (Crs.then_ T_61.out hb)
  have LA_73 := Lib.hid (OwnR.then_ LA_62.out hb)
  have LB_74 := Lib.hid (OwnR.then_ LB_63.out hb)
  have X_75 := Lib.hid (OwnR.then_ X_64.out hb)
  have Y_76 := Lib.hid (OwnR.then_ Y_65.out hb)
  have Pc_77 := Lib.hid (Crs.then_ Pc_66.out hb)
  have Qc_78 := Lib.hid (Crs.then_ Qc_67.out hb)
  have Uc_79 := Lib.hid (Crs.then_ Uc_68.out hb)
  have Vc_80 := Lib.hid (Crs.then_ Vc_69.out hb)
  have HB_81 := Lib.hid (below_then' HB_70.out hb HB_70.out.size)
  clear T_61 LA_62 LB_63 X_64 Y_65 Pc_66 Qc_67 Uc_68 Vc_69 HB_70
  clear hb hq
  go_wp2_with fail
  go_ret
  exact ⟨rfl, HB_81.out⟩
end weaveSquare
end Go.Proofs.Ytaboamkfpolpbaa
