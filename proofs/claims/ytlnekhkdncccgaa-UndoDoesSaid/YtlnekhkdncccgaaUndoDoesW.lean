/-
  The walk of UndoDoes: whatever text and whatever two rows come in, it returns true; nothing that was there turned. Conditions: those that it states.
-/
import Derived.Test.YtlnekhkdncccgaaUnX
import Derived.BigQuiet
namespace Go.Proofs.Ytlnekhkdncccgaa
open Go.RowKit
open Pl (Un)

namespace Pl
/-- a row filled, or none where it does not fit -/
def fillE (l : List Un) (cs : List Int) : List Un := if (longL l cs.length).2 = 0 then fillL l cs else []
theorem goL_ok : ∀ {row : List Un} {cs : List Int}, (goL row cs.length).2 = 0 → FitR row cs
  | [], _, _ => trivial
  | u :: r, cs, h => by
    unfold goL at h
    by_cases hf : Fit u cs.length
    · rw [if_pos hf, ← len_behind hf] at h
      exact ⟨hf, goL_ok h⟩
    · rw [if_neg hf] at h
      exact absurd h (by decide)
theorem longL_ok {row : List Un} {cs : List Int} (h : (longL row cs.length).2 = 0) : FitR row cs := by
  unfold longL at h
  split at h
  · exact goL_ok h
  · exact absurd h (by decide)
end Pl
/-- what both Fills tell -/
def RetFE (w : World) (l : List Un) (cs : List Int) (e : Ending) (w' : World) : Prop := ∃ A c, e = .returned (.tuple #[.slice A (Pl.fillE l cs).length c, .int .i64 (Pl.longL l cs.length).2]) ∧ OwnU w' w.heap.size (.slice A (Pl.fillE l cs).length c) (Pl.fillE l cs) ∧ Below w.heap.size w w'
theorem fillE_any (B : Option Addr) (m d : Nat) (l : List Un) (A : Option Addr) (n c : Nat) (cs : List Int) (w : World) (h2 : Uns w w.heap.size B m d l) (h1 : Crs w w.heap.size A n c cs) (hn : n ≤ 300) (hm : m ≤ 100) :
    Calls Try.prog 10 #[.slice B m d, .slice A n c] w (RetFE w l cs) := by
  by_cases h : (Pl.longL l cs.length).2 = 0
  · have hf := Pl.longL_ok h
    have he : Pl.fillE l cs = Pl.fillL l cs := if_pos h
    refine (fill_any B m d l A n c cs w h2 h1 (by omega) (by omega) hf).mono ?_
    rintro e w' ⟨A', c', rfl, ho, hb⟩
    refine ⟨A', c', ?_, ?_, hb⟩
    · rw [he, h, Pl.fill_len]
    · rw [he, Pl.fill_len]; exact ho
  · have he : Pl.fillE l cs = [] := if_neg h
    refine (fill_bad B m d l A n c w h2 (by omega) (by omega) (Pl.longL l cs.length).2 (Pl.longL l cs.length).1 (by rw [h1.len]) h).mono ?_
    rintro e w' ⟨rfl, hb⟩
    refine ⟨none, 0, ?_, ?_, hb⟩
    · rw [he]; rfl
    · rw [he]; exact OwnR.nil_ _ _ _ _ _
theorem fill9E_any (B : Option Addr) (m d : Nat) (l : List Un) (A : Option Addr) (n c : Nat) (cs : List Int) (w : World) (h2 : Uns w w.heap.size B m d l) (h1 : Crs w w.heap.size A n c cs) (hn : n ≤ 300) (hm : m ≤ 100) :
    Calls Try.prog 11 #[.slice B m d, .slice A n c] w (RetFE w l cs) := by
  by_cases h : (Pl.longL l cs.length).2 = 0
  · have hf := Pl.longL_ok h
    have he : Pl.fillE l cs = Pl.fillL l cs := if_pos h
    refine (fill9_any B m d l A n c cs w h2 h1 (by omega) (by omega) hf).mono ?_
    rintro e w' ⟨A', c', rfl, ho, hb⟩
    refine ⟨A', c', ?_, ?_, hb⟩
    · rw [he, h, Pl.fill_len]
    · rw [he, Pl.fill_len]; exact ho
  · have he : Pl.fillE l cs = [] := if_neg h
    refine (fill9_bad B m d l A n c w h2 (by omega) (by omega) (Pl.longL l cs.length).2 (Pl.longL l cs.length).1 (by rw [h1.len]) h).mono ?_
    rintro e w' ⟨rfl, hb⟩
    refine ⟨none, 0, ?_, ?_, hb⟩
    · rw [he]; rfl
    · rw [he]; exact OwnR.nil_ _ _ _ _ _
theorem fillE_len {l : List Un} {cs : List Int} : (Pl.fillE l cs).length ≤ l.length := by
  unfold Pl.fillE; split
  · rw [Pl.fill_len]; exact Nat.le_refl _
  · exact Nat.zero_le _
namespace undoDoes
set_option maxRecDepth 100000 in
set_option maxHeartbeats 8000000 in
theorem walk (w : World) (A : Option Addr) (n c : Nat) (cs : List Int) (hT : Crs w w.heap.size A n c cs) (A' : Option Addr) (n' c' : Nat) (l' : List Un) (hA : Units w w.heap.size A' n' c' l') (A'' : Option Addr) (n'' c'' : Nat) (l'' : List Un) (hB : Units w w.heap.size A'' n'' c'' l'') :
    Calls Try.prog 3 #[.slice A n c, .slice A' n' c', .slice A'' n'' c''] w fun e w' => e = .returned (.bool true) ∧ Below w.heap.size w w' := by
  obtain ⟨K, hK⟩ : ∃ K, K = min n 100 := ⟨_, rfl⟩
  obtain ⟨K', hK'⟩ : ∃ K, K = min n' 20 := ⟨_, rfl⟩
  obtain ⟨K'', hK''⟩ : ∃ K, K = min n'' 20 := ⟨_, rfl⟩
  have m1 : (if (100 : Int) < (n : Int) then (100 : Int) else (n : Int)) = (K : Int) := by split <;> omega
  have m2 : (if (20 : Int) < (n' : Int) then (20 : Int) else (n' : Int)) = (K' : Int) := by split <;> omega
  have m3 : (if (20 : Int) < (n'' : Int) then (20 : Int) else (n'' : Int)) = (K'' : Int) := by split <;> omega
  have s1 := slice_toC A n c K (by have := hT.le; omega)
  have s2 := slice_toU A' n' c' K' (by have := hA.1.le; omega)
  have s3 := slice_toU A'' n'' c'' K'' (by have := hB.1.le; omega)
  obtain ⟨T, hTT⟩ : ∃ x, x = cs.take K := ⟨_, rfl⟩
  obtain ⟨la, hla⟩ : ∃ x, x = l'.take K' := ⟨_, rfl⟩
  obtain ⟨lb, hlb⟩ : ∃ x, x = l''.take K'' := ⟨_, rfl⟩
  have T_0 := Lib.hid (show Crs w w.heap.size A K c T by rw [hTT]; exact hT.upto (by omega))
  have A_0 := Lib.hid (show Uns w w.heap.size A' K' c' la by rw [hla]; exact Rws.upto encU_len hA.1 (by omega))
  have B_0 := Lib.hid (show Uns w w.heap.size A'' K'' c'' lb by rw [hlb]; exact Rws.upto encU_len hB.1 (by omega))
  have hk1 : K ≤ 100 := by omega
  have hk2 : K' ≤ 20 := by omega
  have hk3 : K'' ≤ 20 := by omega
  have HKS := Lib.hid (show K ≤ 100 ∧ K' ≤ 20 ∧ K'' ≤ 20 from ⟨hk1, hk2, hk3⟩)
  have HTL := Lib.hid T_0.out.len
  have HLA := Lib.hid A_0.out.len
  have HLB := Lib.hid B_0.out.len
  clear hT hA hB hK hK' hK'' hTT hla hlb hk1 hk2 hk3
  go_enter Try.func3, Try.ntmps3
  go_wp2_with fail
  go_quiet (fail)
  obtain ⟨w0, hw0⟩ : ∃ x, x = w.drewN nq := ⟨_, rfl⟩
  have HB0 := Lib.hid (show Below w.heap.size w w0 by rw [hw0]; exact ⟨rfl, rfl, rfl, Nat.le_refl _, fun _ _ => rfl⟩)
  have T_1 := Lib.hid (Crs.then_ T_0.out HB0.out)
  have A_1 := Lib.hid (Rws.then_ A_0.out HB0.out)
  have B_1 := Lib.hid (Rws.then_ B_0.out HB0.out)
  have HW0 := Lib.hid hw0
  clear T_0 A_0 B_0 hw0
  go_wp2_with fail
  rw [← HW0.out]
  clear m1 m2 m3 s1 s2 s3
  have hk1 := HKS.out.1
  have hk2 := HKS.out.2.1
  have hk3 := HKS.out.2.2
  refine ((ownU_any A' K' c' la w0 A_1.out (by omega))).mono ?_
  rintro e w_2 ⟨A1, c1, rfl, ho, hb⟩
  have T_3 := Lib.hid (Crs.then_ T_1.out hb)
  have A_4 := Lib.hid (Rws.then_ A_1.out hb)
  have B_5 := Lib.hid (Rws.then_ B_1.out hb)
  have HB_6 := Lib.hid (below_then' HB0.out hb HB0.out.size)
  clear T_1 A_1 B_1 HB0
  rw [HLA.out] at ho ⊢
  have P_7 := Lib.hid (ho)
  clear hb ho
  have HPW := P_7
  have HBW := HB_6
  have AW := A_4
  have BF := Lib.hid (Below.refl w_2.heap.size w_2)
  go_wp2_with fail
  refine ((fillE_any A1 K' c1 la A K c T w_2 (OwnU.uns P_7.out) T_3.out (by omega) (by omega))).mono ?_
  rintro e w_8 ⟨A2, c2, rfl, ho, hb⟩
  obtain ⟨FE, hFE⟩ : ∃ x, x = Pl.fillE la T := ⟨_, rfl⟩
  obtain ⟨EE, hEE⟩ : ∃ x, x = (Pl.longL la (T.length : Int)).2 := ⟨_, rfl⟩
  rw [← hFE] at ho ⊢
  rw [← hEE]
  have HFE := Lib.hid hFE
  have HEE := Lib.hid hEE
  have hfl : FE.length ≤ 20 := by rw [hFE]; have h1 := fillE_len (l := la) (cs := T); have h2 := HLA.out; omega
  clear hFE hEE
  obtain ⟨NF, hNF⟩ : ∃ k, k = FE.length := ⟨_, rfl⟩
  rw [← hNF] at ho hfl ⊢
  have HNF := Lib.hid hNF
  clear hNF
  have HSX := Lib.hid (show ∀ g, Value.ownBlock (.slice A2 NF c2) = some g → w_2.heap.size ≤ g from fun g hg => (ho.lt g hg).1)
  have HZX := Lib.hid (show w_2.heap.size ≤ w_2.heap.size from BF.out.size)
  have BF_9 := Lib.hid (below_then' BF.out hb BF.out.size)
  clear BF
  have T_10 := Lib.hid (Crs.then_ T_3.out hb)
  have A_11 := Lib.hid (Rws.then_ A_4.out hb)
  have B_12 := Lib.hid (Rws.then_ B_5.out hb)
  have P_13 := Lib.hid (OwnR.then_ P_7.out hb)
  have HB_14 := Lib.hid (below_then' HB_6.out hb HB_6.out.size)
  clear T_3 A_4 B_5 P_7 HB_6
  have X_15 := Lib.hid (ho)
  clear hb ho
  go_wp2_with fail
  refine ((fill9E_any A' K' c' la A K c T w_8 A_11.out T_10.out (by omega) (by omega))).mono ?_
  rintro e w_16 ⟨A3, c3, rfl, ho, hb⟩
  rw [← HFE.out, ← HNF.out] at ho
  rw [← HFE.out, ← HNF.out, ← HEE.out]
  have BF_17 := Lib.hid (below_then' BF_9.out hb BF_9.out.size)
  clear BF_9
  have T_18 := Lib.hid (Crs.then_ T_10.out hb)
  have A_19 := Lib.hid (Rws.then_ A_11.out hb)
  have B_20 := Lib.hid (Rws.then_ B_12.out hb)
  have P_21 := Lib.hid (OwnR.then_ P_13.out hb)
  have X_22 := Lib.hid (OwnR.then_ X_15.out hb)
  have HB_23 := Lib.hid (below_then' HB_14.out hb HB_14.out.size)
  clear T_10 A_11 B_12 P_13 X_15 HB_14
  have XR_24 := Lib.hid (ho)
  clear hb ho
  clear T_18
  go_wp2_with fail
  refine ((me_any w_16)).mono ?_
  rintro e w_25 ⟨rfl, hb⟩
  have BF_26 := Lib.hid (below_then' BF_17.out hb BF_17.out.size)
  clear BF_17
  have A_27 := Lib.hid (Rws.then_ A_19.out hb)
  have B_28 := Lib.hid (Rws.then_ B_20.out hb)
  have P_29 := Lib.hid (OwnR.then_ P_21.out hb)
  have X_30 := Lib.hid (OwnR.then_ X_22.out hb)
  have XR_31 := Lib.hid (OwnR.then_ XR_24.out hb)
  have HB_32 := Lib.hid (below_then' HB_23.out hb HB_23.out.size)
  clear A_19 B_20 P_21 X_22 XR_24 HB_23
  clear hb
  go_wp2_with fail
  refine ((inverse_any A1 K' c1 la 1 7 w_25 (OwnU.uns P_29.out) (by omega))).mono ?_
  rintro e w_33 ⟨A4, c4, rfl, ho, hb⟩
  rw [Pl.inv_len, HLA.out] at ho ⊢
  have HXXY := Lib.hid (show ∀ g, Value.ownBlock (.slice A2 NF c2) = some g → g < w_25.heap.size from fun g hg => (OwnR.lt X_30.out g hg).2)
  have HSY := Lib.hid (show ∀ g, Value.ownBlock (.slice A4 K' c4) = some g → w_25.heap.size ≤ g from fun g hg => (ho.lt g hg).1)
  have HZY := Lib.hid (show w_2.heap.size ≤ w_25.heap.size from BF_26.out.size)
  have BF_34 := Lib.hid (below_then' BF_26.out hb BF_26.out.size)
  clear BF_26
  have A_35 := Lib.hid (Rws.then_ A_27.out hb)
  have B_36 := Lib.hid (Rws.then_ B_28.out hb)
  have P_37 := Lib.hid (OwnR.then_ P_29.out hb)
  have X_38 := Lib.hid (OwnR.then_ X_30.out hb)
  have XR_39 := Lib.hid (OwnR.then_ XR_31.out hb)
  have HB_40 := Lib.hid (below_then' HB_32.out hb HB_32.out.size)
  clear A_27 B_28 P_29 X_30 XR_31 HB_32
  have Y_41 := Lib.hid (ho)
  clear hb ho
  go_wp2_with fail
  refine ((clean_any A1 K' c1 la w_33 (OwnU.uns P_37.out) (by omega))).mono ?_
  rintro e w_42 ⟨A5, c5, rfl, ho, hb⟩
  obtain ⟨ND, hND⟩ : ∃ k, k = (Pl.cleanL la).length := ⟨_, rfl⟩
  have hnd : ND ≤ 20 := by rw [hND]; have h1 := Pl.len_clean la; rw [HLA.out] at h1; omega
  rw [← hND] at ho ⊢
  have HND := Lib.hid hND
  clear hND
  have HXXZ := Lib.hid (show ∀ g, Value.ownBlock (.slice A2 NF c2) = some g → g < w_33.heap.size from fun g hg => (OwnR.lt X_38.out g hg).2)
  have HXYZ := Lib.hid (show ∀ g, Value.ownBlock (.slice A4 K' c4) = some g → g < w_33.heap.size from fun g hg => (OwnR.lt Y_41.out g hg).2)
  have HSZ := Lib.hid (show ∀ g, Value.ownBlock (.slice A5 ND c5) = some g → w_33.heap.size ≤ g from fun g hg => (ho.lt g hg).1)
  have HZZ := Lib.hid (show w_2.heap.size ≤ w_33.heap.size from BF_34.out.size)
  have BF_43 := Lib.hid (below_then' BF_34.out hb BF_34.out.size)
  clear BF_34
  have A_44 := Lib.hid (Rws.then_ A_35.out hb)
  have B_45 := Lib.hid (Rws.then_ B_36.out hb)
  have P_46 := Lib.hid (OwnR.then_ P_37.out hb)
  have X_47 := Lib.hid (OwnR.then_ X_38.out hb)
  have XR_48 := Lib.hid (OwnR.then_ XR_39.out hb)
  have Y_49 := Lib.hid (OwnR.then_ Y_41.out hb)
  have HB_50 := Lib.hid (below_then' HB_40.out hb HB_40.out.size)
  clear A_35 B_36 P_37 X_38 XR_39 Y_41 HB_40
  have Z_51 := Lib.hid (ho)
  clear hb ho
  go_wp2_with fail
  refine ((me_any w_42)).mono ?_
  rintro e w_52 ⟨rfl, hb⟩
  have BF_53 := Lib.hid (below_then' BF_43.out hb BF_43.out.size)
  clear BF_43
  have A_54 := Lib.hid (Rws.then_ A_44.out hb)
  have B_55 := Lib.hid (Rws.then_ B_45.out hb)
  have P_56 := Lib.hid (OwnR.then_ P_46.out hb)
  have X_57 := Lib.hid (OwnR.then_ X_47.out hb)
  have XR_58 := Lib.hid (OwnR.then_ XR_48.out hb)
  have Y_59 := Lib.hid (OwnR.then_ Y_49.out hb)
  have Z_60 := Lib.hid (OwnR.then_ Z_51.out hb)
  have HB_61 := Lib.hid (below_then' HB_50.out hb HB_50.out.size)
  clear A_44 B_45 P_46 X_47 XR_48 Y_49 Z_51 HB_50
  clear hb
  obtain ⟨w_62, hw⟩ : ∃ x, x = w_52.alloc (.cells #[.slice A'' K'' c'', .slice A' K' c'] 23) := ⟨_, rfl⟩
  have hx : RowsV (w_52.alloc (.cells #[.slice A'' K'' c'', .slice A' K' c'] 23)) (some ⟨w_52.heap.size, 0, none⟩) [⟨A'', K'', c'', lb⟩, ⟨A', K', c', la⟩] := rows_two w_52 ⟨A'', K'', c'', lb⟩ ⟨A', K', c', la⟩ (B_55.out) (by simp only; omega) (A_54.out) (by simp only; omega)
  have hb : Below w_52.heap.size w_52 w_62 := by rw [hw]; exact below_box _ _
  rw [← hw] at hx
  have HWw_62 := Lib.hid hw
  have HSw_62 := Lib.hid (show w_62.heap.size = w_52.heap.size + 1 by rw [hw]; simp)
  have A_63 := Lib.hid (Rws.then_ A_54.out hb)
  have B_64 := Lib.hid (Rws.then_ B_55.out hb)
  have P_65 := Lib.hid (OwnR.then_ P_56.out hb)
  have X_66 := Lib.hid (OwnR.then_ X_57.out hb)
  have XR_67 := Lib.hid (OwnR.then_ XR_58.out hb)
  have Y_68 := Lib.hid (OwnR.then_ Y_59.out hb)
  have Z_69 := Lib.hid (OwnR.then_ Z_60.out hb)
  have HB_70 := Lib.hid (below_then' HB_61.out hb HB_61.out.size)
  clear A_54 B_55 P_56 X_57 XR_58 Y_59 Z_60 HB_61
  have R_71 := Lib.hid (hx)
  clear hw hx hb
  have BF_72 := Lib.hid (below_then' BF_53.out (show Below w_52.heap.size w_52 w_62 by rw [HWw_62.out]; exact below_box _ _) BF_53.out.size)
  clear BF_53
  go_wp2_with fail
  rw [← HWw_62.out]
  refine ((back_any A1 K' c1 la 1 7 _ 2 [⟨A'', K'', c'', lb⟩, ⟨A', K', c', la⟩] w_62 (OwnU.uns P_65.out) R_71.out (by omega) (by simp))).mono ?_
  rintro e w_73 ⟨A6, c6, rfl, ho, hb⟩
  obtain ⟨BK, hBK⟩ : ∃ x, x = Pl.cleanL (Pl.pastR (Pl.invR 1 7 la) (([⟨A'', K'', c'', lb⟩, ⟨A', K', c', la⟩] : List RowV).map RowV.l)) := ⟨_, rfl⟩
  rw [← hBK] at ho ⊢
  have hbk : BK.length ≤ 20 := by
    rw [hBK]
    have h1 := Pl.len_clean (Pl.pastR (Pl.invR 1 7 la) (([⟨A'', K'', c'', lb⟩, ⟨A', K', c', la⟩] : List RowV).map RowV.l))
    rw [len_pastR, Pl.inv_len, HLA.out] at h1; omega
  have HBK := Lib.hid hBK
  clear hBK
  obtain ⟨NK, hNK⟩ : ∃ k, k = BK.length := ⟨_, rfl⟩
  rw [← hNK] at ho hbk ⊢
  have HNK := Lib.hid hNK
  clear hNK
  have HXXV := Lib.hid (show ∀ g, Value.ownBlock (.slice A2 NF c2) = some g → g < w_62.heap.size from fun g hg => (OwnR.lt X_66.out g hg).2)
  have HXYV := Lib.hid (show ∀ g, Value.ownBlock (.slice A4 K' c4) = some g → g < w_62.heap.size from fun g hg => (OwnR.lt Y_68.out g hg).2)
  have HXZV := Lib.hid (show ∀ g, Value.ownBlock (.slice A5 ND c5) = some g → g < w_62.heap.size from fun g hg => (OwnR.lt Z_69.out g hg).2)
  have HSV := Lib.hid (show ∀ g, Value.ownBlock (.slice A6 NK c6) = some g → w_62.heap.size ≤ g from fun g hg => (ho.lt g hg).1)
  have HZV := Lib.hid (show w_2.heap.size ≤ w_62.heap.size from BF_72.out.size)
  have BF_74 := Lib.hid (below_then' BF_72.out hb BF_72.out.size)
  clear BF_72
  have A_75 := Lib.hid (Rws.then_ A_63.out hb)
  have B_76 := Lib.hid (Rws.then_ B_64.out hb)
  have P_77 := Lib.hid (OwnR.then_ P_65.out hb)
  have X_78 := Lib.hid (OwnR.then_ X_66.out hb)
  have XR_79 := Lib.hid (OwnR.then_ XR_67.out hb)
  have Y_80 := Lib.hid (OwnR.then_ Y_68.out hb)
  have Z_81 := Lib.hid (OwnR.then_ Z_69.out hb)
  have R_82 := Lib.hid (RowsV.then_ R_71.out hb)
  have HB_83 := Lib.hid (below_then' HB_70.out hb HB_70.out.size)
  clear A_63 B_64 P_65 X_66 XR_67 Y_68 Z_69 R_71 HB_70
  clear R_82
  have V_84 := Lib.hid (ho)
  clear hb ho
  go_wp2_with fail
  refine ((me_any w_73)).mono ?_
  rintro e w_85 ⟨rfl, hb⟩
  have BF_86 := Lib.hid (below_then' BF_74.out hb BF_74.out.size)
  clear BF_74
  have A_87 := Lib.hid (Rws.then_ A_75.out hb)
  have B_88 := Lib.hid (Rws.then_ B_76.out hb)
  have P_89 := Lib.hid (OwnR.then_ P_77.out hb)
  have X_90 := Lib.hid (OwnR.then_ X_78.out hb)
  have XR_91 := Lib.hid (OwnR.then_ XR_79.out hb)
  have Y_92 := Lib.hid (OwnR.then_ Y_80.out hb)
  have Z_93 := Lib.hid (OwnR.then_ Z_81.out hb)
  have V_94 := Lib.hid (OwnR.then_ V_84.out hb)
  have HB_95 := Lib.hid (below_then' HB_83.out hb HB_83.out.size)
  clear A_75 B_76 P_77 X_78 XR_79 Y_80 Z_81 V_84 HB_83
  clear hb
  obtain ⟨w_96, hw⟩ : ∃ x, x = w_85.alloc (.cells #[.slice A'' K'' c'', .slice A' K' c'] 23) := ⟨_, rfl⟩
  have hx : RowsV (w_85.alloc (.cells #[.slice A'' K'' c'', .slice A' K' c'] 23)) (some ⟨w_85.heap.size, 0, none⟩) [⟨A'', K'', c'', lb⟩, ⟨A', K', c', la⟩] := rows_two w_85 ⟨A'', K'', c'', lb⟩ ⟨A', K', c', la⟩ (B_88.out) (by simp only; omega) (A_87.out) (by simp only; omega)
  have hb : Below w_85.heap.size w_85 w_96 := by rw [hw]; exact below_box _ _
  rw [← hw] at hx
  have HWw_96 := Lib.hid hw
  have HSw_96 := Lib.hid (show w_96.heap.size = w_85.heap.size + 1 by rw [hw]; simp)
  have A_97 := Lib.hid (Rws.then_ A_87.out hb)
  have B_98 := Lib.hid (Rws.then_ B_88.out hb)
  have P_99 := Lib.hid (OwnR.then_ P_89.out hb)
  have X_100 := Lib.hid (OwnR.then_ X_90.out hb)
  have XR_101 := Lib.hid (OwnR.then_ XR_91.out hb)
  have Y_102 := Lib.hid (OwnR.then_ Y_92.out hb)
  have Z_103 := Lib.hid (OwnR.then_ Z_93.out hb)
  have V_104 := Lib.hid (OwnR.then_ V_94.out hb)
  have HB_105 := Lib.hid (below_then' HB_95.out hb HB_95.out.size)
  clear A_87 B_88 P_89 X_90 XR_91 Y_92 Z_93 V_94 HB_95
  have R_106 := Lib.hid (hx)
  clear hw hx hb
  have BF_107 := Lib.hid (below_then' BF_86.out (show Below w_85.heap.size w_85 w_96 by rw [HWw_96.out]; exact below_box _ _) BF_86.out.size)
  clear BF_86
  go_wp2_with fail
  rw [← HWw_96.out]
  refine ((back9_any A' K' c' la 1 7 _ 2 [⟨A'', K'', c'', lb⟩, ⟨A', K', c', la⟩] w_96 A_97.out R_106.out (by omega) (by simp))).mono ?_
  rintro e w_108 ⟨A7, c7, rfl, ho, hb⟩
  rw [← HBK.out, ← HNK.out] at ho
  rw [← HBK.out, ← HNK.out]
  have BF_109 := Lib.hid (below_then' BF_107.out hb BF_107.out.size)
  clear BF_107
  have A_110 := Lib.hid (Rws.then_ A_97.out hb)
  have B_111 := Lib.hid (Rws.then_ B_98.out hb)
  have P_112 := Lib.hid (OwnR.then_ P_99.out hb)
  have X_113 := Lib.hid (OwnR.then_ X_100.out hb)
  have XR_114 := Lib.hid (OwnR.then_ XR_101.out hb)
  have Y_115 := Lib.hid (OwnR.then_ Y_102.out hb)
  have Z_116 := Lib.hid (OwnR.then_ Z_103.out hb)
  have V_117 := Lib.hid (OwnR.then_ V_104.out hb)
  have R_118 := Lib.hid (RowsV.then_ R_106.out hb)
  have HB_119 := Lib.hid (below_then' HB_105.out hb HB_105.out.size)
  clear A_97 B_98 P_99 X_100 XR_101 Y_102 Z_103 V_104 R_106 HB_105
  clear R_118
  clear B_111
  have VR_120 := Lib.hid (ho)
  clear hb ho
  have hq := sameU_any A2 A3 NF c2 NF c3 _ _ w_108 (OwnU.uns X_113.out) (OwnU.uns XR_114.out)
  rw [decide_eq_true rfl] at hq
  go_wp2_with fail
  refine (hq).mono ?_
  rintro e w_121 ⟨rfl, hb⟩
  have BF_122 := Lib.hid (below_then' BF_109.out hb BF_109.out.size)
  clear BF_109
  have A_123 := Lib.hid (Rws.then_ A_110.out hb)
  have P_124 := Lib.hid (OwnR.then_ P_112.out hb)
  have X_125 := Lib.hid (OwnR.then_ X_113.out hb)
  have XR_126 := Lib.hid (OwnR.then_ XR_114.out hb)
  have Y_127 := Lib.hid (OwnR.then_ Y_115.out hb)
  have Z_128 := Lib.hid (OwnR.then_ Z_116.out hb)
  have V_129 := Lib.hid (OwnR.then_ V_117.out hb)
  have VR_130 := Lib.hid (OwnR.then_ VR_120.out hb)
  have HB_131 := Lib.hid (below_then' HB_119.out hb HB_119.out.size)
  clear A_110 P_112 X_113 XR_114 Y_115 Z_116 V_117 VR_120 HB_119
  clear hb hq
  clear XR_126
  go_wp2_with fail
  refine ((me_any w_121)).mono ?_
  rintro e w_132 ⟨rfl, hb⟩
  have BF_133 := Lib.hid (below_then' BF_122.out hb BF_122.out.size)
  clear BF_122
  have A_134 := Lib.hid (Rws.then_ A_123.out hb)
  have P_135 := Lib.hid (OwnR.then_ P_124.out hb)
  have X_136 := Lib.hid (OwnR.then_ X_125.out hb)
  have Y_137 := Lib.hid (OwnR.then_ Y_127.out hb)
  have Z_138 := Lib.hid (OwnR.then_ Z_128.out hb)
  have V_139 := Lib.hid (OwnR.then_ V_129.out hb)
  have VR_140 := Lib.hid (OwnR.then_ VR_130.out hb)
  have HB_141 := Lib.hid (below_then' HB_131.out hb HB_131.out.size)
  clear A_123 P_124 X_125 Y_127 Z_128 V_129 VR_130 HB_131
  clear hb
  go_wp2_with fail
  refine ((inv9_any A' K' c' la 1 7 w_132 A_134.out (by omega))).mono ?_
  rintro e w_142 ⟨A8, c8, rfl, ho, hb⟩
  rw [Pl.inv_len, HLA.out] at ho ⊢
  have BF_143 := Lib.hid (below_then' BF_133.out hb BF_133.out.size)
  clear BF_133
  have A_144 := Lib.hid (Rws.then_ A_134.out hb)
  have P_145 := Lib.hid (OwnR.then_ P_135.out hb)
  have X_146 := Lib.hid (OwnR.then_ X_136.out hb)
  have Y_147 := Lib.hid (OwnR.then_ Y_137.out hb)
  have Z_148 := Lib.hid (OwnR.then_ Z_138.out hb)
  have V_149 := Lib.hid (OwnR.then_ V_139.out hb)
  have VR_150 := Lib.hid (OwnR.then_ VR_140.out hb)
  have HB_151 := Lib.hid (below_then' HB_141.out hb HB_141.out.size)
  clear A_134 P_135 X_136 Y_137 Z_138 V_139 VR_140 HB_141
  have YR_152 := Lib.hid (ho)
  clear hb ho
  have hq := sameU_any A4 A8 K' c4 K' c8 _ _ w_142 (OwnU.uns Y_147.out) (OwnU.uns YR_152.out)
  rw [decide_eq_true rfl] at hq
  go_wp2_with fail
  refine (hq).mono ?_
  rintro e w_153 ⟨rfl, hb⟩
  have BF_154 := Lib.hid (below_then' BF_143.out hb BF_143.out.size)
  clear BF_143
  have A_155 := Lib.hid (Rws.then_ A_144.out hb)
  have P_156 := Lib.hid (OwnR.then_ P_145.out hb)
  have X_157 := Lib.hid (OwnR.then_ X_146.out hb)
  have Y_158 := Lib.hid (OwnR.then_ Y_147.out hb)
  have Z_159 := Lib.hid (OwnR.then_ Z_148.out hb)
  have V_160 := Lib.hid (OwnR.then_ V_149.out hb)
  have VR_161 := Lib.hid (OwnR.then_ VR_150.out hb)
  have YR_162 := Lib.hid (OwnR.then_ YR_152.out hb)
  have HB_163 := Lib.hid (below_then' HB_151.out hb HB_151.out.size)
  clear A_144 P_145 X_146 Y_147 Z_148 V_149 VR_150 YR_152 HB_151
  clear hb hq
  clear YR_162
  go_wp2_with fail
  refine ((clean9_any A' K' c' la w_153 A_155.out (by omega))).mono ?_
  rintro e w_164 ⟨A9, c9, rfl, ho, hb⟩
  rw [← HND.out] at ho ⊢
  have BF_165 := Lib.hid (below_then' BF_154.out hb BF_154.out.size)
  clear BF_154
  have A_166 := Lib.hid (Rws.then_ A_155.out hb)
  have P_167 := Lib.hid (OwnR.then_ P_156.out hb)
  have X_168 := Lib.hid (OwnR.then_ X_157.out hb)
  have Y_169 := Lib.hid (OwnR.then_ Y_158.out hb)
  have Z_170 := Lib.hid (OwnR.then_ Z_159.out hb)
  have V_171 := Lib.hid (OwnR.then_ V_160.out hb)
  have VR_172 := Lib.hid (OwnR.then_ VR_161.out hb)
  have HB_173 := Lib.hid (below_then' HB_163.out hb HB_163.out.size)
  clear A_155 P_156 X_157 Y_158 Z_159 V_160 VR_161 HB_163
  have ZR_174 := Lib.hid (ho)
  clear hb ho
  have hq := sameU_any A5 A9 ND c5 ND c9 _ _ w_164 (OwnU.uns Z_170.out) (OwnU.uns ZR_174.out)
  rw [decide_eq_true rfl] at hq
  go_wp2_with fail
  refine (hq).mono ?_
  rintro e w_175 ⟨rfl, hb⟩
  have BF_176 := Lib.hid (below_then' BF_165.out hb BF_165.out.size)
  clear BF_165
  have A_177 := Lib.hid (Rws.then_ A_166.out hb)
  have P_178 := Lib.hid (OwnR.then_ P_167.out hb)
  have X_179 := Lib.hid (OwnR.then_ X_168.out hb)
  have Y_180 := Lib.hid (OwnR.then_ Y_169.out hb)
  have Z_181 := Lib.hid (OwnR.then_ Z_170.out hb)
  have V_182 := Lib.hid (OwnR.then_ V_171.out hb)
  have VR_183 := Lib.hid (OwnR.then_ VR_172.out hb)
  have ZR_184 := Lib.hid (OwnR.then_ ZR_174.out hb)
  have HB_185 := Lib.hid (below_then' HB_173.out hb HB_173.out.size)
  clear A_166 P_167 X_168 Y_169 Z_170 V_171 VR_172 ZR_174 HB_173
  clear hb hq
  clear ZR_184
  have hq := sameU_any A6 A7 NK c6 NK c7 _ _ w_175 (OwnU.uns V_182.out) (OwnU.uns VR_183.out)
  rw [decide_eq_true rfl] at hq
  go_wp2_with fail
  refine (hq).mono ?_
  rintro e w_186 ⟨rfl, hb⟩
  have BF_187 := Lib.hid (below_then' BF_176.out hb BF_176.out.size)
  clear BF_176
  have A_188 := Lib.hid (Rws.then_ A_177.out hb)
  have P_189 := Lib.hid (OwnR.then_ P_178.out hb)
  have X_190 := Lib.hid (OwnR.then_ X_179.out hb)
  have Y_191 := Lib.hid (OwnR.then_ Y_180.out hb)
  have Z_192 := Lib.hid (OwnR.then_ Z_181.out hb)
  have V_193 := Lib.hid (OwnR.then_ V_182.out hb)
  have VR_194 := Lib.hid (OwnR.then_ VR_183.out hb)
  have HB_195 := Lib.hid (below_then' HB_185.out hb HB_185.out.size)
  clear A_177 P_178 X_179 Y_180 Z_181 V_182 VR_183 HB_185
  clear hb hq
  clear VR_194
  have HFO := Lib.hid (four_of (w := w_186) (base := w_2.heap.size) (a := .slice A2 NF c2) (b := .slice A4 K' c4) (c := .slice A5 ND c5) (d := .slice A6 NK c6)
    ⟨_, _, _, _, rfl, by omega, OwnR.lower X_190.out HZX.out⟩ ⟨_, _, _, _, rfl, by omega, OwnR.lower Y_191.out HZY.out⟩ ⟨_, _, _, _, rfl, by omega, OwnR.lower Z_192.out HZZ.out⟩ ⟨_, _, _, _, rfl, by omega, OwnR.lower V_193.out HZV.out⟩
    (fun g hg => ⟨(fun h => by have h1 := HSY.out g h; have h2 := HXXY.out g hg; omega), (fun h => by have h1 := HSZ.out g h; have h2 := HXXZ.out g hg; omega), (fun h => by have h1 := HSV.out g h; have h2 := HXXV.out g hg; omega)⟩)
    (fun g hg => ⟨(fun h => by have h1 := HSZ.out g h; have h2 := HXYZ.out g hg; omega), (fun h => by have h1 := HSV.out g h; have h2 := HXYV.out g hg; omega)⟩)
    (fun g hg h => by have h1 := HSV.out g h; have h2 := HXZV.out g hg; omega))
  obtain ⟨V, hV⟩ : ∃ V : List Value, V = [.slice A2 NF c2, .slice A4 K' c4, .slice A5 ND c5, .slice A6 NK c6] := ⟨_, rfl⟩
  obtain ⟨wr, hwr⟩ : ∃ x, x = w_186.alloc (.cells #[.slice A2 NF c2, .slice A4 K' c4, .slice A5 ND c5, .slice A6 NK c6] 23) := ⟨_, rfl⟩
  have hbr : Below w_186.heap.size w_186 wr := by rw [hwr]; exact below_box _ _
  have HR := Lib.hid (show FoR w_2 w_186.heap.size V (.int .i64 ((0 : Nat) : Int)) wr from ⟨0, rfl, Nat.zero_le _, by rw [hV]; exact HFO.out.then_ hbr, by rw [hwr, hV]; exact heap_new rfl, below_then' BF_187.out hbr BF_187.out.size⟩)
  have HVL := Lib.hid (show V.length = 4 by rw [hV]; rfl)
  have HWR := Lib.hid hwr
  have HGR := Lib.hid (show w_2.heap.size ≤ w_186.heap.size from BF_187.out.size)
  clear hV hwr hbr HFO
  clear A_188 P_189 X_190 Y_191 Z_192 V_193 HSX HSY HSZ HSV HXXY HXXZ HXXV HXYZ HXYV HXZV HZX HZY HZZ HZV BF_187 HB_195
  go_wp2_with fail
  rw [← HWR.out]
  have hgr0 := HGR.out
  obtain ⟨gr, hgr⟩ : ∃ gr, gr = w_186.heap.size := ⟨_, rfl⟩
  rw [← hgr] at HR hgr0 ⊢
  have HGR2 := Lib.hid hgr0
  clear hgr0 hgr HGR HWR
  go_loopw [93] (fun i wr => FoR w_2 gr V i wr) (fun i _ => 4 - (intOf i).toNat)
  case atStart => exact HR.out
  case round =>
    obtain ⟨j, rfl, hj, hf, hh, hb⟩ := hrel
    have HF := Lib.hid hf
    have HH := Lib.hid hh
    have HB := Lib.hid hb
    rw [HVL.out] at hj
    clear HR
    by_cases hlt : j < 4
    · have hjv : j < V.length := by rw [HVL.out]; exact hlt
      obtain ⟨A10, m, c10, l10, hv, hm, ho⟩ := hf.any j hjv
      have hcv := cellV hh hjv
      rw [hv] at hcv
      have HV := Lib.hid hv
      have HJV := Lib.hid hjv
      have z0 : (0 : Int) ≤ (j : Int) := Int.natCast_nonneg j
      have z1 : (j : Int) < 4 := by omega
      have HMS := Lib.hid (fi_meas hlt)
      have HRI := Lib.hid (show FiV w_2 gr V m (.int .i64 ((0 : Nat) : Int)) wr from ⟨0, rfl, Nat.zero_le _, hf, hh, hb⟩)
      clear hf hh hb hv ho hjv HF HH HB
      go_wp2_with fail
      clear hcv
      go_loopw [99] (fun i wr => FiV w_2 gr V m i wr) (fun i _ => m - (intOf i).toNat)
      case atStart => exact HRI.out
      case round =>
        obtain ⟨k, rfl, hk, hf, hh, hb⟩ := hrel
        have HH := Lib.hid hh
        have HB := Lib.hid hb
        have HF := Lib.hid hf
        clear HRI
        by_cases hlk : k < m
        · obtain ⟨A11, m2, c11, l11, hv2, hm2, ho⟩ := hf.any j HJV.out
          rw [HV.out] at hv2
          injection hv2 with e1 e2 e3
          subst e1 e2 e3
          obtain ⟨g, rfl, hbg, hgw⟩ := OwnR.pos_ ho (by omega)
          obtain ⟨x0, x1, x2, x3, x4, fx⟩ := OwnU.cells ho hlk
          obtain ⟨⟨kx, px, cx, xx, yx⟩, hx⟩ : ∃ y, y = l11.getD k default := ⟨_, rfl⟩
          rw [← hx] at x0 x1 x2 x3 x4
          simp only at x0 x1 x2 x3 x4
          have HST := Lib.hid (hf.set_ HJV.out HV.out hm ho hlk (wrap64 (px + 1)))
          have hng : gr ≠ g := fun e => by
            subst e
            have h1 := OwnR.lt ho gr rfl
            rcases ho.2 with ⟨e1, _⟩ | ⟨g3, cap3, cur3, e1, _, hg3, _⟩
            · cases e1
            · injection e1 with e1 _ _
              injection e1 with e1
              injection e1 with e1
              subst e1
              rw [hh] at hg3
              injection hg3 with hg3
              injection hg3 with _ ht _
              exact absurd ht (by decide)
          have z2 : (0 : Int) ≤ (k : Int) := Int.natCast_nonneg k
          have z3 : (k : Int) < (m : Int) := Int.ofNat_lt.2 hlk
          have HMS2 := Lib.hid (fi_meas hlk)
          have HKN := Lib.hid (show k + 1 ≤ m from hlk)
          have HNG := Lib.hid hng
          clear hf hh hb ho hx hng HF
          go_wp2_with fail
          go_roundw
          case rel => exact ⟨k + 1, by go_num, HKN.out, HST.out.1, HST.out.2.old HH.out (fun e => HNG.out e), HST.out.2.below HB.out HB.out.size (fun b hb => by omega)⟩
          case measure => simp [intOf]; exact HMS2.out
        · clear hf hh hb
          go_wp2_with fail
          go_roundw
          case rel => exact ⟨j + 1, by go_num, HJV.out, HF.out, HH.out, HB.out⟩
          case measure => simp [intOf]; have := HMS.out; omega
    · have P_1 := Lib.hid (OwnR.then_ HPW.out hb)
      have A_1 := Lib.hid (Rws.then_ AW.out hb)
      have HB2 := Lib.hid (below_then' HBW.out hb HBW.out.size)
      clear hf hh hb HF HH HB HPW AW HBW
      go_wp2_with fail
      refine ((awake_any wr)).mono ?_
      rintro e w_197 ⟨rfl, hb⟩
      have P_198 := Lib.hid (OwnR.then_ P_1.out hb)
      have A_199 := Lib.hid (Rws.then_ A_1.out hb)
      have HB_200 := Lib.hid (below_then' HB2.out hb HB2.out.size)
      clear P_1 A_1 HB2
      clear hb
      have hq := sameU_any A1 A' K' c1 K' c' _ _ w_197 (OwnU.uns P_198.out) A_199.out
      rw [decide_eq_true rfl] at hq
      go_wp2_with fail
      refine (hq).mono ?_
      rintro e w_201 ⟨rfl, hb⟩
      have P_202 := Lib.hid (OwnR.then_ P_198.out hb)
      have A_203 := Lib.hid (Rws.then_ A_199.out hb)
      have HB_204 := Lib.hid (below_then' HB_200.out hb HB_200.out.size)
      clear P_198 A_199 HB_200
      clear hb hq
      go_wp2_with fail
      go_ret
      exact ⟨rfl, HB_204.out⟩
end undoDoes
end Go.Proofs.Ytlnekhkdncccgaa
