/-
  The walk of WeaveParts: whatever two rows and whatever three numbers come in, it returns true; nothing that was there turned. Conditions: those that it states.
-/
import Derived.Test.YtaboamkfpolpbaaWvK
namespace Go.Proofs.Ytaboamkfpolpbaa
open Go.RowKit
open Pl (Un)

namespace weaveParts
set_option maxRecDepth 100000 in
set_option maxHeartbeats 4000000 in
theorem walk (w : World) (B : Option Addr) (m d : Nat) (l : List Un) (hA : Units w w.heap.size B m d l) (B' : Option Addr) (m' d' : Nat) (l' : List Un) (hB : Units w w.heap.size B' m' d' l') (lg at_ of_ : Nat) (hp : lg < 256 ∧ at_ < 256 ∧ of_ < 256) :
    Calls Try.prog 5 #[.slice B m d, .slice B' m' d', .agg #[.int .u8 (lg : Int), .int .u8 (at_ : Int), .int .u8 (of_ : Int)]] w fun e w' => e = .returned (.bool true) ∧ Below w.heap.size w w' := by
  obtain ⟨K, hK⟩ : ∃ K, K = lg % 41 := ⟨_, rfl⟩
  have hK40 : K ≤ 40 := by omega
  have hk1 : (lg : Int) % 41 = (K : Int) := by omega
  have HK40 := Lib.hid hK40
  have HP := Lib.hid hp
  have hp1 := hp.1
  have A_0 := Lib.hid hA.1
  have HUA := Lib.hid hA.2
  have B_0 := Lib.hid hB.1
  have HUB := Lib.hid hB.2
  have HX := Lib.hid (show ∃ w0, w0 = w.alloc (.cells #[.int .u8 (lg : Int), .int .u8 (at_ : Int), .int .u8 (of_ : Int)] 47) from ⟨_, rfl⟩)
  obtain ⟨w0, hw0⟩ := HX.out
  have hbb : Below w.heap.size w w0 := by rw [hw0]; exact below_box _ _
  have HQ0 := Lib.hid (show w0.heap[w.heap.size]? = some (.cells #[.int .u8 (lg : Int), .int .u8 (at_ : Int), .int .u8 (of_ : Int)] 47 (0, 0)) from by rw [hw0]; exact heap_new rfl)
  have HB0 := Lib.hid hbb
  have A_1 := Lib.hid (Rws.then_ A_0.out hbb)
  have B_1 := Lib.hid (Rws.then_ B_0.out hbb)
  have HW0 := Lib.hid hw0
  clear hA hB hK hK40 hp A_0 B_0 HX hbb hw0
  go_enter Try.func5, Try.ntmps5
  go_wp2_with fail
  rw [hk1, ← HW0.out]
  clear hk1 hp1
  have hK40 := HK40.out
  refine ((fit_any B m d l K 1 w0 A_1.out HUA.out (by omega))).mono ?_
  rintro e w_2 ⟨A1, c1, la, rfl, hla, ho, hbr, hb⟩
  clear A_1
  have HQ3 := Lib.hid (below_old hb HQ0.out (lt_of_block HQ0.out))
  clear HQ0
  have B_4 := Lib.hid (Rws.then_ B_1.out hb)
  have HB_5 := Lib.hid (below_then' HB0.out hb HB0.out.size)
  clear B_1 HB0
  have LA_6 := Lib.hid (ho)
  have HLA := Lib.hid hla
  clear hb ho hla hbr
  obtain ⟨NA, hNA⟩ : ∃ k, k = la.length := ⟨_, rfl⟩
  rw [← hNA] at LA_6 ⊢
  have HNA := Lib.hid hNA
  clear hNA
  go_wp2_with fail
  refine ((fit_any B' m' d' l' K 2 w_2 B_4.out HUB.out (by omega))).mono ?_
  rintro e w_7 ⟨A2, c2, lb, rfl, hlb, ho, hbr, hb⟩
  clear B_4
  have HQ8 := Lib.hid (below_old hb HQ3.out (lt_of_block HQ3.out))
  clear HQ3
  have LA_9 := Lib.hid (OwnR.then_ LA_6.out hb)
  have HB_10 := Lib.hid (below_then' HB_5.out hb HB_5.out.size)
  clear LA_6 HB_5
  have LB_11 := Lib.hid (ho)
  have HLB := Lib.hid hlb
  clear hb ho hlb hbr
  obtain ⟨NB, hNB⟩ : ∃ k, k = lb.length := ⟨_, rfl⟩
  rw [← hNB] at LB_11 ⊢
  have HNB := Lib.hid hNB
  clear hNB
  have hna : NA ≤ 20 := by rw [HNA.out]; exact HLA.out
  have hnb : NB ≤ 20 := by rw [HNB.out]; exact HLB.out
  have hatb := HP.out.2.1
  obtain ⟨k, hk⟩ : ∃ k, k = at_ % (NB + 1) := ⟨_, rfl⟩
  have hkb : k ≤ NB := by have := Nat.mod_lt at_ (show 0 < NB + 1 by omega); omega
  have hk3 : (at_ : Int) % ((NB : Int) + 1) = (k : Int) := by rw [hk, Int.natCast_emod]; rfl
  have hk5 : ¬ (NB : Int) + 1 = 0 := by omega
  have b1 := cell1 (r := [_]) HQ8.out
  have b2 := cell2 (r := []) HQ8.out
  have HKB := Lib.hid hkb
  clear hk hkb
  go_wp2_with fail
  rw [hk3]
  clear hk3 hk5 hatb b1 b2
  have hkb := HKB.out
  refine ((both_any w_7 A1 NA c1 la A2 NB c2 lb (OwnU.uns LA_9.out) (OwnU.uns LB_11.out) (by omega) (by omega))).mono ?_
  rintro e w_12 ⟨A3, c3, A4, c4, rfl, ho, ho2, _, hb⟩
  have HQ13 := Lib.hid (below_old hb HQ8.out (lt_of_block HQ8.out))
  clear HQ8
  have LA_14 := Lib.hid (OwnR.then_ LA_9.out hb)
  have LB_15 := Lib.hid (OwnR.then_ LB_11.out hb)
  have HB_16 := Lib.hid (below_then' HB_10.out hb HB_10.out.size)
  clear LA_9 LB_11 HB_10
  rw [← HNA.out] at ho ⊢
  rw [← HNB.out] at ho2 ⊢
  have X_17 := Lib.hid (ho)
  have Y_18 := Lib.hid (ho2)
  clear hb ho ho2
  have st := slice_toU A2 NB c2 k (Nat.le_trans hkb (OwnU.uns LB_15.out).le)
  have sf := slice_fromU A2 NB c2 k hkb
  obtain ⟨AF, hAF⟩ : ∃ AF, AF = (if c2 = k then A2 else A2.map (·.add (k * 5))) := ⟨_, rfl⟩
  rw [← hAF] at sf
  have HUF := fun w1 (hb1 : Below w_12.heap.size w_12 w1) => Lib.hid (Rws.from_ encU_len (OwnU.uns (OwnR.then_ LB_15.out hb1)) hkb)
  rw [← hAF] at HUF
  have HLT := Lib.hid (show (lb.take k).length = k from by rw [List.length_take, ← HNB.out]; omega)
  have HLD := Lib.hid (show (lb.drop k).length = NB - k from by rw [List.length_drop, ← HNB.out])
  have HAF := Lib.hid hAF
  clear hAF
  have BF := Lib.hid (Below.refl w_12.heap.size w_12)
  go_wp2_with fail
  refine ((both_any w_12 A1 NA c1 la A2 k c2 (lb.take k) (OwnU.uns LA_14.out) (Rws.upto encU_len (OwnU.uns LB_15.out) hkb) (by omega) (by omega))).mono ?_
  rintro e w_19 ⟨A5, c5, A6, c6, rfl, ho, ho2, _, hb⟩
  have BF_20 := Lib.hid (below_then' BF.out hb BF.out.size)
  clear BF
  have HQ21 := Lib.hid (below_old hb HQ13.out (lt_of_block HQ13.out))
  clear HQ13
  have LA_22 := Lib.hid (OwnR.then_ LA_14.out hb)
  have LB_23 := Lib.hid (OwnR.then_ LB_15.out hb)
  have X_24 := Lib.hid (OwnR.then_ X_17.out hb)
  have Y_25 := Lib.hid (OwnR.then_ Y_18.out hb)
  have HB_26 := Lib.hid (below_then' HB_16.out hb HB_16.out.size)
  clear LA_14 LB_15 X_17 Y_18 HB_16
  rw [← HNA.out] at ho ⊢
  rw [HLT.out] at ho2 ⊢
  have P_27 := Lib.hid (ho)
  have Q_28 := Lib.hid (ho2)
  clear hb ho ho2
  have HPL := Lib.hid (show (Pl.bothR la (lb.take k)).1.length = NA from (both_len1 _ _).trans HNA.out.symm)
  go_wp2_with fail
  refine ((both_any w_19 A5 NA c5 (Pl.bothR la (lb.take k)).1 AF (NB - k) (c2 - k) (lb.drop k) (OwnU.uns P_27.out) (HUF _ BF_20.out).out (by omega) (by omega))).mono ?_
  rintro e w_29 ⟨A7, c7, A8, c8, rfl, ho, ho2, _, hb⟩
  have BF_30 := Lib.hid (below_then' BF_20.out hb BF_20.out.size)
  clear BF_20
  have HQ31 := Lib.hid (below_old hb HQ21.out (lt_of_block HQ21.out))
  clear HQ21
  have LA_32 := Lib.hid (OwnR.then_ LA_22.out hb)
  have LB_33 := Lib.hid (OwnR.then_ LB_23.out hb)
  have X_34 := Lib.hid (OwnR.then_ X_24.out hb)
  have Y_35 := Lib.hid (OwnR.then_ Y_25.out hb)
  have P_36 := Lib.hid (OwnR.then_ P_27.out hb)
  have Q_37 := Lib.hid (OwnR.then_ Q_28.out hb)
  have HB_38 := Lib.hid (below_then' HB_26.out hb HB_26.out.size)
  clear LA_22 LB_23 X_24 Y_25 P_27 Q_28 HB_26
  rw [HPL.out] at ho ⊢
  rw [HLD.out] at ho2 ⊢
  clear P_36
  have R_39 := Lib.hid (ho)
  have S_40 := Lib.hid (ho2)
  clear hb ho ho2
  have HAP := Lib.hid (Pl.both_append_right la (lb.take k) (lb.drop k))
  rw [List.take_append_drop] at HAP
  have hq := equalU_any A3 A7 NA c3 NA c7 _ _ w_29 (OwnU.uns X_34.out) (OwnU.uns R_39.out)
  rw [decide_eq_true (show (Pl.bothR la lb).1 = (Pl.bothR (Pl.bothR la (lb.take k)).1 (lb.drop k)).1 by rw [HAP.out])] at hq
  go_wp2_with fail
  refine (hq).mono ?_
  rintro e w_41 ⟨rfl, hb⟩
  have BF_42 := Lib.hid (below_then' BF_30.out hb BF_30.out.size)
  clear BF_30
  have HQ43 := Lib.hid (below_old hb HQ31.out (lt_of_block HQ31.out))
  clear HQ31
  have LA_44 := Lib.hid (OwnR.then_ LA_32.out hb)
  have LB_45 := Lib.hid (OwnR.then_ LB_33.out hb)
  have X_46 := Lib.hid (OwnR.then_ X_34.out hb)
  have Y_47 := Lib.hid (OwnR.then_ Y_35.out hb)
  have Q_48 := Lib.hid (OwnR.then_ Q_37.out hb)
  have R_49 := Lib.hid (OwnR.then_ R_39.out hb)
  have S_50 := Lib.hid (OwnR.then_ S_40.out hb)
  have HB_51 := Lib.hid (below_then' HB_38.out hb HB_38.out.size)
  clear LA_32 LB_33 X_34 Y_35 Q_37 R_39 S_40 HB_38
  clear hb hq
  have hbe := below_box w_41 (.cells #[] 36)
  have HE := Lib.hid (show OwnU (w_41.alloc (.cells #[] 36)) w_41.heap.size (.slice (some ⟨w_41.heap.size, 0, none⟩) 0 0) [] from units_lit w_41 [] (by simp))
  have HF1 := Lib.hid (OwnR.then_ Q_48.out hbe)
  have HBE := Lib.hid hbe
  clear hbe
  go_wp2_with (at_builtin; refine wpList_append_unit (w_41.alloc (.cells #[] 36)) (by rfl) (.tmp 65) (.tmp 66) (by rfl) w_41.heap.size _ 0 0 [] (by rfl) HE.out _ A6 k c6 _ (by rfl) (OwnU.uns HF1.out) (by omega) HBE.out.size ?_)
  intro AJ cJ w_52 hO hg
  have hO1 : OwnU w_52 w_41.heap.size (.slice AJ k cJ) ((Pl.bothR la (lb.take k)).2) := hO
  have hba := OwnR.grownBelow HE.out hg HBE.out HBE.out.size
  have HO1 := Lib.hid hO1
  have HBA := Lib.hid hba
  have HF2 := Lib.hid (OwnR.then_ S_50.out hba)
  clear hO hO1 hg hba HE HF1 HBE
  go_wp2_with (at_builtin; refine wpList_append_unit w_52 (by rfl) (.tmp 67) (.tmp 68) (by rfl) w_41.heap.size AJ k cJ _ (by rfl) HO1.out _ A8 (NB - k) c8 _ (by rfl) (OwnU.uns HF2.out) (by omega) HBA.out.size ?_)
  intro AK cK w_53 hO hg
  have hb := OwnR.grownBelow HO1.out hg HBA.out HBA.out.size
  have hO2 : OwnU w_53 w_41.heap.size (.slice AK (NB) cK) ((Pl.bothR la (lb.take k)).2 ++ (Pl.bothR (Pl.bothR la (lb.take k)).1 (lb.drop k)).2) := hO
  have BF_54 := Lib.hid (below_then' BF_42.out hb BF_42.out.size)
  clear BF_42
  have HQ55 := Lib.hid (below_old hb HQ43.out (lt_of_block HQ43.out))
  clear HQ43
  have LA_56 := Lib.hid (OwnR.then_ LA_44.out hb)
  have LB_57 := Lib.hid (OwnR.then_ LB_45.out hb)
  have X_58 := Lib.hid (OwnR.then_ X_46.out hb)
  have Y_59 := Lib.hid (OwnR.then_ Y_47.out hb)
  have Q_60 := Lib.hid (OwnR.then_ Q_48.out hb)
  have R_61 := Lib.hid (OwnR.then_ R_49.out hb)
  have S_62 := Lib.hid (OwnR.then_ S_50.out hb)
  have HB_63 := Lib.hid (below_then' HB_51.out hb HB_51.out.size)
  clear LA_44 LB_45 X_46 Y_47 Q_48 R_49 S_50 HB_51
  have J_64 := Lib.hid (hO2)
  clear hO hO2 hg hb HO1 HBA HF2
  have hq := equalU_any A4 AK NB c4 NB cK _ _ w_53 (OwnU.uns Y_59.out) (OwnU.uns J_64.out)
  rw [decide_eq_true (show (Pl.bothR la lb).2 = (Pl.bothR la (lb.take k)).2 ++ (Pl.bothR (Pl.bothR la (lb.take k)).1 (lb.drop k)).2 by rw [HAP.out])] at hq
  go_wp2_with fail
  refine (hq).mono ?_
  rintro e w_65 ⟨rfl, hb⟩
  clear J_64
  clear Q_60
  clear R_61
  clear S_62
  have BF_66 := Lib.hid (below_then' BF_54.out hb BF_54.out.size)
  clear BF_54
  have HQ67 := Lib.hid (below_old hb HQ55.out (lt_of_block HQ55.out))
  clear HQ55
  have LA_68 := Lib.hid (OwnR.then_ LA_56.out hb)
  have LB_69 := Lib.hid (OwnR.then_ LB_57.out hb)
  have X_70 := Lib.hid (OwnR.then_ X_58.out hb)
  have Y_71 := Lib.hid (OwnR.then_ Y_59.out hb)
  have HB_72 := Lib.hid (below_then' HB_63.out hb HB_63.out.size)
  clear LA_56 LB_57 X_58 Y_59 HB_63
  clear hb hq
  have hofb := HP.out.2.2
  obtain ⟨i, hi⟩ : ∃ k, k = of_ % (NA + 1) := ⟨_, rfl⟩
  have hia : i ≤ NA := by have := Nat.mod_lt of_ (show 0 < NA + 1 by omega); omega
  have hk3 : (of_ : Int) % ((NA : Int) + 1) = (i : Int) := by rw [hi, Int.natCast_emod]; rfl
  have hk5 : ¬ (NA : Int) + 1 = 0 := by omega
  have b2 := cell2 (r := []) HQ67.out
  have HIA := Lib.hid hia
  have st2 := slice_toU A1 NA c1 i (Nat.le_trans hia (OwnU.uns LA_68.out).le)
  have sf2 := slice_fromU A1 NA c1 i hia
  obtain ⟨AG, hAG⟩ : ∃ AG, AG = (if c1 = i then A1 else A1.map (·.add (i * 5))) := ⟨_, rfl⟩
  rw [← hAG] at sf2
  have HUG := fun w1 (hb1 : Below w_65.heap.size w_65 w1) => Lib.hid (Rws.from_ encU_len (OwnU.uns (OwnR.then_ LA_68.out hb1)) hia)
  rw [← hAG] at HUG
  have HLT2 := Lib.hid (show (la.take i).length = i from by rw [List.length_take, ← HNA.out]; omega)
  have HLD2 := Lib.hid (show (la.drop i).length = NA - i from by rw [List.length_drop, ← HNA.out])
  clear hi hAG
  have HBG := Lib.hid (Below.refl w_65.heap.size w_65)
  go_wp2_with fail
  rw [hk3]
  clear hk3 hk5 hofb b2 st2
  refine ((both_any w_65 A1 i c1 (la.take i) A2 NB c2 lb (Rws.upto encU_len (OwnU.uns LA_68.out) hia) (OwnU.uns LB_69.out) (by omega) (by omega))).mono ?_
  rintro e w_73 ⟨A9, c9, A10, c10, rfl, ho, ho2, _, hb⟩
  have BG_74 := Lib.hid (below_then' HBG.out hb HBG.out.size)
  clear HBG
  have BF_75 := Lib.hid (below_then' BF_66.out hb BF_66.out.size)
  clear BF_66
  have HQ76 := Lib.hid (below_old hb HQ67.out (lt_of_block HQ67.out))
  clear HQ67
  have LA_77 := Lib.hid (OwnR.then_ LA_68.out hb)
  have LB_78 := Lib.hid (OwnR.then_ LB_69.out hb)
  have X_79 := Lib.hid (OwnR.then_ X_70.out hb)
  have Y_80 := Lib.hid (OwnR.then_ Y_71.out hb)
  have HB_81 := Lib.hid (below_then' HB_72.out hb HB_72.out.size)
  clear LA_68 LB_69 X_70 Y_71 HB_72
  rw [HLT2.out] at ho ⊢
  rw [← HNB.out] at ho2 ⊢
  have T_82 := Lib.hid (ho)
  have U_83 := Lib.hid (ho2)
  clear hb ho ho2
  have HPL2 := Lib.hid (show (Pl.bothR (la.take i) lb).2.length = NB from (both_len2 _ _).trans HNB.out.symm)
  go_wp2_with fail
  refine ((both_any w_73 AG (NA - i) (c1 - i) (la.drop i) A10 NB c10 (Pl.bothR (la.take i) lb).2 (HUG _ BG_74.out).out (OwnU.uns U_83.out) (by omega) (by omega))).mono ?_
  rintro e w_84 ⟨A11, c11, A12, c12, rfl, ho, ho2, _, hb⟩
  have BG_85 := Lib.hid (below_then' BG_74.out hb BG_74.out.size)
  clear BG_74
  have BF_86 := Lib.hid (below_then' BF_75.out hb BF_75.out.size)
  clear BF_75
  have HQ87 := Lib.hid (below_old hb HQ76.out (lt_of_block HQ76.out))
  clear HQ76
  have LA_88 := Lib.hid (OwnR.then_ LA_77.out hb)
  have LB_89 := Lib.hid (OwnR.then_ LB_78.out hb)
  have X_90 := Lib.hid (OwnR.then_ X_79.out hb)
  have Y_91 := Lib.hid (OwnR.then_ Y_80.out hb)
  have T_92 := Lib.hid (OwnR.then_ T_82.out hb)
  have U_93 := Lib.hid (OwnR.then_ U_83.out hb)
  have HB_94 := Lib.hid (below_then' HB_81.out hb HB_81.out.size)
  clear LA_77 LB_78 X_79 Y_80 T_82 U_83 HB_81
  rw [HLD2.out] at ho ⊢
  rw [HPL2.out] at ho2 ⊢
  clear U_93
  have V_95 := Lib.hid (ho)
  have Z_96 := Lib.hid (ho2)
  clear hb ho ho2 sf2
  have HAL := Lib.hid (Pl.both_append_left (la.take i) (la.drop i) lb)
  rw [List.take_append_drop] at HAL
  have hbe := below_box w_84 (.cells #[] 36)
  have HE := Lib.hid (show OwnU (w_84.alloc (.cells #[] 36)) w_84.heap.size (.slice (some ⟨w_84.heap.size, 0, none⟩) 0 0) [] from units_lit w_84 [] (by simp))
  have HF1 := Lib.hid (OwnR.then_ T_92.out hbe)
  have HBE := Lib.hid hbe
  clear hbe
  go_wp2_with (at_builtin; refine wpList_append_unit (w_84.alloc (.cells #[] 36)) (by rfl) (.tmp 97) (.tmp 98) (by rfl) w_84.heap.size _ 0 0 [] (by rfl) HE.out _ A9 i c9 _ (by rfl) (OwnU.uns HF1.out) (by omega) HBE.out.size ?_)
  intro AJ cJ w_97 hO hg
  have hO1 : OwnU w_97 w_84.heap.size (.slice AJ i cJ) ((Pl.bothR (la.take i) lb).1) := hO
  have hba := OwnR.grownBelow HE.out hg HBE.out HBE.out.size
  have HO1 := Lib.hid hO1
  have HBA := Lib.hid hba
  have HF2 := Lib.hid (OwnR.then_ V_95.out hba)
  clear hO hO1 hg hba HE HF1 HBE
  go_wp2_with (at_builtin; refine wpList_append_unit w_97 (by rfl) (.tmp 99) (.tmp 100) (by rfl) w_84.heap.size AJ i cJ _ (by rfl) HO1.out _ A11 (NA - i) c11 _ (by rfl) (OwnU.uns HF2.out) (by omega) HBA.out.size ?_)
  intro AK cK w_98 hO hg
  have hb := OwnR.grownBelow HO1.out hg HBA.out HBA.out.size
  have hO2 : OwnU w_98 w_84.heap.size (.slice AK (NA) cK) ((Pl.bothR (la.take i) lb).1 ++ (Pl.bothR (la.drop i) (Pl.bothR (la.take i) lb).2).1) := hO
  have BF_99 := Lib.hid (below_then' BF_86.out hb BF_86.out.size)
  clear BF_86
  have HQ100 := Lib.hid (below_old hb HQ87.out (lt_of_block HQ87.out))
  clear HQ87
  have LA_101 := Lib.hid (OwnR.then_ LA_88.out hb)
  have LB_102 := Lib.hid (OwnR.then_ LB_89.out hb)
  have X_103 := Lib.hid (OwnR.then_ X_90.out hb)
  have Y_104 := Lib.hid (OwnR.then_ Y_91.out hb)
  have T_105 := Lib.hid (OwnR.then_ T_92.out hb)
  have V_106 := Lib.hid (OwnR.then_ V_95.out hb)
  have Z_107 := Lib.hid (OwnR.then_ Z_96.out hb)
  have HB_108 := Lib.hid (below_then' HB_94.out hb HB_94.out.size)
  clear LA_88 LB_89 X_90 Y_91 T_92 V_95 Z_96 HB_94
  have J_109 := Lib.hid (hO2)
  clear hO hO2 hg hb HO1 HBA HF2
  have hq := equalU_any A3 AK NA c3 NA cK _ _ w_98 (OwnU.uns X_103.out) (OwnU.uns J_109.out)
  rw [decide_eq_true (show (Pl.bothR la lb).1 = (Pl.bothR (la.take i) lb).1 ++ (Pl.bothR (la.drop i) (Pl.bothR (la.take i) lb).2).1 by rw [HAL.out])] at hq
  go_wp2_with fail
  refine (hq).mono ?_
  rintro e w_110 ⟨rfl, hb⟩
  clear J_109
  clear T_105
  clear V_106
  have BF_111 := Lib.hid (below_then' BF_99.out hb BF_99.out.size)
  clear BF_99
  have HQ112 := Lib.hid (below_old hb HQ100.out (lt_of_block HQ100.out))
  clear HQ100
  have LA_113 := Lib.hid (OwnR.then_ LA_101.out hb)
  have LB_114 := Lib.hid (OwnR.then_ LB_102.out hb)
  have X_115 := Lib.hid (OwnR.then_ X_103.out hb)
  have Y_116 := Lib.hid (OwnR.then_ Y_104.out hb)
  have Z_117 := Lib.hid (OwnR.then_ Z_107.out hb)
  have HB_118 := Lib.hid (below_then' HB_108.out hb HB_108.out.size)
  clear LA_101 LB_102 X_103 Y_104 Z_107 HB_108
  clear hb hq
  have hq := equalU_any A4 A12 NB c4 NB c12 _ _ w_110 (OwnU.uns Y_116.out) (OwnU.uns Z_117.out)
  rw [decide_eq_true (show (Pl.bothR la lb).2 = (Pl.bothR (la.drop i) (Pl.bothR (la.take i) lb).2).2 by rw [HAL.out])] at hq
  go_wp2_with fail
  refine (hq).mono ?_
  rintro e w_119 ⟨rfl, hb⟩
  clear Z_117
  clear Y_116
  have BF_120 := Lib.hid (below_then' BF_111.out hb BF_111.out.size)
  clear BF_111
  have HQ121 := Lib.hid (below_old hb HQ112.out (lt_of_block HQ112.out))
  clear HQ112
  have LA_122 := Lib.hid (OwnR.then_ LA_113.out hb)
  have LB_123 := Lib.hid (OwnR.then_ LB_114.out hb)
  have X_124 := Lib.hid (OwnR.then_ X_115.out hb)
  have HB_125 := Lib.hid (below_then' HB_118.out hb HB_118.out.size)
  clear LA_113 LB_114 X_115 HB_118
  clear hb hq
  go_wp2_with fail
  have HF1 := fun w1 (hb1 : Below w_119.heap.size w_119 w1) => HUF w1 (below_then' BF_120.out hb1 BF_120.out.size)
  clear HUF HUG
  have HKS := Lib.hid (show k ≤ 1000 ∧ NB - k ≤ 1000 from by omega)
  have HNS := Lib.hid (show NA ≤ 1000 from by omega)
  have A0 := LA_122
  have B0 := LB_123
  have X0 := X_124
  have HBW := HB_125
  obtain ⟨W9, hW9⟩ : ∃ x, x = w_119 := ⟨_, rfl⟩
  rw [← hW9] at A0 B0 X0 HBW HF1 ⊢
  have HF0 := HF1
  clear hW9 HF1 LA_122 LB_123 X_124 HB_125
  refine Rg.wp_region_inv (fun w' => Below W9.heap.size W9 w') (Rg.Wd.at [.is (.bool true), .is (.bool true), .is (.slice A1 NA c1), .is (.slice A2 NB c2), .is (.int .i64 (k : Int)), .is (.slice A2 k c2), .is (.slice A2 NB c2), .is (.int .i64 (k : Int)), .is (.slice AF (NB - k) (c2 - k)), .pred (RowsU [⟨A2, k, c2, lb.take k⟩, ⟨AF, NB - k, c2 - k, lb.drop k⟩]) RowsU.stb, .pred (RowU (Pl.bothR la lb).1) RowU.stb, .is (.slice A3 NA c3), .is (.bool true), .is (.bool true), .is (.bool true), .is (.slice A1 NA c1), .pred (RowU la) RowU.stb, .is (.slice A1 NA c1), .is (.bool true), .is (.bool true), .is (.bool true)]) (by kernel_rfl) (by kernel_rfl) (Rg.Wd.stays _ _) (below_drawn (Below.refl _ _)) ⟨?_, ?_, ?_, ?_, ?_, ?_, ?_, ?_, ?_, ?_, ?_, ?_, ?_, ?_, ?_, ?_, ?_, ?_, ?_, ?_, ?_, trivial⟩ ?_
  · intro a w1 hS hb hd
    refine Rg.does_call (f := 16) (args := #[]) (Rg.wanted_none rfl) (by simp [go_sem]) ?_
    exact (awake_any w1).mono fun e w3 ⟨h1, h2⟩ => ⟨_, h1, rfl, below_then hS h2, h2⟩
  · intro a w1 hS hb hd
    have e110 := hd ⟨0, .data⟩ (by simp) rfl _ _ rfl rfl
    have e110 : a.tmps[110]?.getD undef = (.bool true) := Rg.slot e110
    exact Rg.does_pure (Rg.wanted_none rfl) (by simp [execOp, e110, go_sem]) hS rfl
  · intro a w1 hS hb hd
    have e0 := hb 0 (Rg.nw (by decide))
    simp [Act.eval] at e0
    have e111 := hd ⟨1, .guard⟩ (by simp) rfl _ _ rfl rfl
    exact Rg.does_pure (Rg.wanted_some rfl rfl rfl e111) (by simp [execOp, e0, go_sem]) hS rfl
  · intro a w1 hS hb hd
    have e1 := hb 1 (Rg.nw (by decide))
    simp [Act.eval] at e1
    have e111 := hd ⟨1, .guard⟩ (by simp) rfl _ _ rfl rfl
    exact Rg.does_pure (Rg.wanted_some rfl rfl rfl e111) (by simp [execOp, e1, go_sem]) hS rfl
  · intro a w1 hS hb hd
    have e8 := hb 8 (Rg.nw (by decide))
    simp [Act.eval] at e8
    have e111 := hd ⟨1, .guard⟩ (by simp) rfl _ _ rfl rfl
    exact Rg.does_pure (Rg.wanted_some rfl rfl rfl e111) (by simp [execOp, e8, go_sem]) hS rfl
  · intro a w1 hS hb hd
    have e113 := hd ⟨3, .data⟩ (by simp) rfl _ _ rfl rfl
    have e113 : a.tmps[113]?.getD undef = (.slice A2 NB c2) := Rg.slot e113
    have e114 := hd ⟨4, .data⟩ (by simp) rfl _ _ rfl rfl
    have e114 : a.tmps[114]?.getD undef = (.int .i64 (k : Int)) := Rg.slot e114
    have e111 := hd ⟨1, .guard⟩ (by simp) rfl _ _ rfl rfl
    exact Rg.does_pure (Rg.wanted_some rfl rfl rfl e111) (by simp [execOp, e113, e114, st, go_sem]) hS rfl
  · intro a w1 hS hb hd
    have e1 := hb 1 (Rg.nw (by decide))
    simp [Act.eval] at e1
    have e111 := hd ⟨1, .guard⟩ (by simp) rfl _ _ rfl rfl
    exact Rg.does_pure (Rg.wanted_some rfl rfl rfl e111) (by simp [execOp, e1, go_sem]) hS rfl
  · intro a w1 hS hb hd
    have e8 := hb 8 (Rg.nw (by decide))
    simp [Act.eval] at e8
    have e111 := hd ⟨1, .guard⟩ (by simp) rfl _ _ rfl rfl
    exact Rg.does_pure (Rg.wanted_some rfl rfl rfl e111) (by simp [execOp, e8, go_sem]) hS rfl
  · intro a w1 hS hb hd
    have e116 := hd ⟨6, .data⟩ (by simp) rfl _ _ rfl rfl
    have e116 : a.tmps[116]?.getD undef = (.slice A2 NB c2) := Rg.slot e116
    have e117 := hd ⟨7, .data⟩ (by simp) rfl _ _ rfl rfl
    have e117 : a.tmps[117]?.getD undef = (.int .i64 (k : Int)) := Rg.slot e117
    have e111 := hd ⟨1, .guard⟩ (by simp) rfl _ _ rfl rfl
    exact Rg.does_pure (Rg.wanted_some rfl rfl rfl e111) (by simp [execOp, e116, e117, sf, go_sem]) hS rfl
  · intro a w1 hS hb hd
    have e115 := hd ⟨5, .data⟩ (by simp) rfl _ _ rfl rfl
    have e115 : a.tmps[115]?.getD undef = (.slice A2 k c2) := Rg.slot e115
    have e118 := hd ⟨8, .data⟩ (by simp) rfl _ _ rfl rfl
    have e118 : a.tmps[118]?.getD undef = (.slice AF (NB - k) (c2 - k)) := Rg.slot e118
    have e111 := hd ⟨1, .guard⟩ (by simp) rfl _ _ rfl rfl
    exact Rg.does_new (x := .slice (some ⟨w1.heap.size, 0, none⟩) 2 2) (ob := .cells #[.slice A2 k c2, .slice AF (NB - k) (c2 - k)] 22) (Rg.wanted_some rfl rfl rfl e111) (by simp [execOp, e115, e118, go_sem]) (below_alloc hS _) ⟨_, 2, rfl, rows_two w1 ⟨A2, k, c2, lb.take k⟩ ⟨AF, NB - k, c2 - k, lb.drop k⟩ (Rws.upto encU_len (OwnU.uns (OwnR.then_ B0.out hS)) HKB.out) HKS.out.1 (HF0 w1 hS).out HKS.out.2⟩
  · intro a w1 hS hb hd
    have e112 := hd ⟨2, .data⟩ (by simp) rfl _ _ rfl rfl
    have e112 : a.tmps[112]?.getD undef = (.slice A1 NA c1) := Rg.slot e112
    have e119 := hd ⟨9, .data⟩ (by simp) rfl _ _ rfl rfl
    have e111 := hd ⟨1, .guard⟩ (by simp) rfl _ _ rfl rfl
    obtain ⟨Ar, cr, er, hr⟩ := e119; have eh := Rg.slot er; refine Rg.does_call (f := 13) (args := #[.slice A1 NA c1, .slice Ar 2 cr]) (Rg.wanted_some rfl rfl rfl e111) (by simp [eh, e112, go_sem]) ?_; have hp := past_any A1 NA c1 la Ar cr [⟨A2, k, c2, lb.take k⟩, ⟨AF, NB - k, c2 - k, lb.drop k⟩] w1 (OwnU.uns (OwnR.then_ A0.out hS)) hr HNS.out (by simp); simp only [List.map_cons, List.map_nil] at hp; rw [Pl.past_two, List.take_append_drop] at hp; exact hp.mono fun e w3 ⟨A9, c9, h1, h2, h3⟩ => ⟨_, h1, ⟨A9, c9, rfl, OwnU.uns h2⟩, below_then hS h3, h3⟩
  · intro a w1 hS hb hd
    have e9 := hb 9 (Rg.nw (by decide))
    simp [Act.eval] at e9
    have e111 := hd ⟨1, .guard⟩ (by simp) rfl _ _ rfl rfl
    exact Rg.does_pure (Rg.wanted_some rfl rfl rfl e111) (by simp [execOp, e9, go_sem]) hS rfl
  · intro a w1 hS hb hd
    have e120 := hd ⟨10, .data⟩ (by simp) rfl _ _ rfl rfl
    have e121 := hd ⟨11, .data⟩ (by simp) rfl _ _ rfl rfl
    have e121 : a.tmps[121]?.getD undef = (.slice A3 NA c3) := Rg.slot e121
    have e111 := hd ⟨1, .guard⟩ (by simp) rfl _ _ rfl rfl
    obtain ⟨Ar, cr, er, hr⟩ := e120; have eh := Rg.slot er; refine Rg.does_call (f := 20) (args := #[.slice Ar (Pl.bothR la lb).1.length cr, .slice A3 NA c3]) (Rg.wanted_some rfl rfl rfl e111) (by simp [eh, e121, go_sem]) ?_; have hq := equalU_any Ar A3 _ cr NA c3 _ _ w1 hr (OwnU.uns (OwnR.then_ X0.out hS)); rw [decide_eq_true rfl] at hq; exact hq.mono fun e w3 ⟨h1, h2⟩ => ⟨_, h1, rfl, below_then hS h2, h2⟩
  · intro a w1 hS hb hd
    have e111 := hd ⟨1, .data⟩ (by simp) rfl _ _ rfl rfl
    have e111 : a.tmps[111]?.getD undef = (.bool true) := Rg.slot e111
    have e122 := hd ⟨12, .data⟩ (by simp) rfl _ _ rfl rfl
    have e122 : a.tmps[122]?.getD undef = (.bool true) := Rg.slot e122
    exact Rg.does_pure (Rg.wanted_none rfl) (by simp [execOp, e111, e122, go_sem]) hS rfl
  · intro a w1 hS hb hd
    have e123 := hd ⟨13, .data⟩ (by simp) rfl _ _ rfl rfl
    have e123 : a.tmps[123]?.getD undef = (.bool true) := Rg.slot e123
    exact Rg.does_pure (Rg.wanted_none rfl) (by simp [execOp, e123, go_sem]) hS rfl
  · intro a w1 hS hb hd
    have e0 := hb 0 (Rg.nw (by decide))
    simp [Act.eval] at e0
    have e124 := hd ⟨14, .guard⟩ (by simp) rfl _ _ rfl rfl
    exact Rg.does_pure (Rg.wanted_some rfl rfl rfl e124) (by simp [execOp, e0, go_sem]) hS rfl
  · intro a w1 hS hb hd
    have e125 := hd ⟨15, .data⟩ (by simp) rfl _ _ rfl rfl
    have e125 : a.tmps[125]?.getD undef = (.slice A1 NA c1) := Rg.slot e125
    have e124 := hd ⟨14, .guard⟩ (by simp) rfl _ _ rfl rfl
    refine Rg.does_call (f := 13) (args := #[.slice A1 NA c1, .slice none 0 0]) (Rg.wanted_some rfl rfl rfl e124) (by simp [e125, go_sem]) ?_; have hp := past_any A1 NA c1 la none 0 [] w1 (OwnU.uns (OwnR.then_ A0.out hS)) (RowsV.none_ _ _) HNS.out (by simp); exact hp.mono fun e w3 ⟨A9, c9, h1, h2, h3⟩ => ⟨_, h1, ⟨A9, c9, rfl, OwnU.uns h2⟩, below_then hS h3, h3⟩
  · intro a w1 hS hb hd
    have e0 := hb 0 (Rg.nw (by decide))
    simp [Act.eval] at e0
    have e124 := hd ⟨14, .guard⟩ (by simp) rfl _ _ rfl rfl
    exact Rg.does_pure (Rg.wanted_some rfl rfl rfl e124) (by simp [execOp, e0, go_sem]) hS rfl
  · intro a w1 hS hb hd
    have e126 := hd ⟨16, .data⟩ (by simp) rfl _ _ rfl rfl
    have e127 := hd ⟨17, .data⟩ (by simp) rfl _ _ rfl rfl
    have e127 : a.tmps[127]?.getD undef = (.slice A1 NA c1) := Rg.slot e127
    have e124 := hd ⟨14, .guard⟩ (by simp) rfl _ _ rfl rfl
    obtain ⟨Ar, cr, er, hr⟩ := e126; have eh := Rg.slot er; refine Rg.does_call (f := 20) (args := #[.slice Ar la.length cr, .slice A1 NA c1]) (Rg.wanted_some rfl rfl rfl e124) (by simp [eh, e127, go_sem]) ?_; have hq := equalU_any Ar A1 _ cr NA c1 _ _ w1 hr (OwnU.uns (OwnR.then_ A0.out hS)); rw [decide_eq_true rfl] at hq; exact hq.mono fun e w3 ⟨h1, h2⟩ => ⟨_, h1, rfl, below_then hS h2, h2⟩
  · intro a w1 hS hb hd
    have e124 := hd ⟨14, .data⟩ (by simp) rfl _ _ rfl rfl
    have e124 : a.tmps[124]?.getD undef = (.bool true) := Rg.slot e124
    have e128 := hd ⟨18, .data⟩ (by simp) rfl _ _ rfl rfl
    have e128 : a.tmps[128]?.getD undef = (.bool true) := Rg.slot e128
    exact Rg.does_pure (Rg.wanted_none rfl) (by simp [execOp, e124, e128, go_sem]) hS rfl
  · intro a w1 hS hb hd
    have e129 := hd ⟨19, .data⟩ (by simp) rfl _ _ rfl rfl
    have e129 : a.tmps[129]?.getD undef = (.bool true) := Rg.slot e129
    exact Rg.does_pure (Rg.wanted_none rfl) (by simp [execOp, e129, go_sem]) hS rfl
  · intro v w3 hS hv
    have HB3 := Lib.hid (below_then' HBW.out hS HBW.out.size)
    have h0 : v 20 = .bool true := hv 20 _ _ rfl rfl
    clear hS hv
    simp only [Rg.putAll, Nat.zero_add, Nat.reduceAdd]
    simp only [Act.put, List.setIfInBounds_toArray, List.set_cons_succ, List.set_cons_zero]
    rw [h0]
    go_wp2_with fail
    go_ret
    exact ⟨rfl, HB3.out⟩
end weaveParts
end Go.Proofs.Ytaboamkfpolpbaa
