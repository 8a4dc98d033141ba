/-
  The walk of UndoSelects: whatever number and whatever two rows come in, it returns true; nothing that was there turned. Conditions: those that it states.
-/
import Derived.Test.YtlnekhkdncccgaaUnK
namespace Go.Proofs.Ytlnekhkdncccgaa
open Go.RowKit
open Pl (Un)

/-- between one code point and the next: what q keeps of those ahead -/
def FlR (w : World) (cs : List Int) (q : Int → Bool) (s i : Value) (wr : World) : Prop :=
  ∃ (j M : Nat) (A : Option Addr) (c : Nat) (P : List Int), i = .int .i64 (j : Int) ∧ s = .slice A M c ∧ P = (cs.take j).filter q ∧ M = P.length ∧ j ≤ cs.length ∧ OwnC wr w.heap.size (.slice A M c) P ∧ Below w.heap.size w wr
theorem FlR.start (w : World) (cs : List Int) (q : Int → Bool) : FlR w cs q (.slice none 0 0) (.int .i64 ((0 : Nat) : Int)) w := ⟨0, 0, none, 0, [], rfl, rfl, rfl, rfl, Nat.zero_le _, OwnC.nil_ _ _, Below.refl _ _⟩
theorem fl_yes {cs : List Int} {q : Int → Bool} {j : Nat} (hj : j < cs.length) (h : q (cs.getD j 0) = true) : (cs.take (j + 1)).filter q = (cs.take j).filter q ++ [cs.getD j 0] := by
  rw [List.take_add_one, List.getElem?_eq_getElem hj, List.filter_append]
  rw [List.getD_eq_getElem?_getD, List.getElem?_eq_getElem hj] at h ⊢
  simp only [Option.toList, Option.getD_some] at h ⊢
  rw [List.filter_cons_of_pos h]; rfl
theorem fl_no {cs : List Int} {q : Int → Bool} {j : Nat} (hj : j < cs.length) (h : q (cs.getD j 0) = false) : (cs.take (j + 1)).filter q = (cs.take j).filter q := by
  rw [List.take_add_one, List.getElem?_eq_getElem hj, List.filter_append]
  rw [List.getD_eq_getElem?_getD, List.getElem?_eq_getElem hj] at h
  simp only [Option.toList, Option.getD_some] at h ⊢
  rw [List.filter_cons_of_neg (by rw [h]; decide)]; simp
theorem fl_len {cs : List Int} {q : Int → Bool} {j : Nat} : ((cs.take j).filter q).length ≤ j := Nat.le_trans (List.length_filter_le _ _) (by rw [List.length_take]; omega)
theorem mem_getC {cs : List Int} {j : Nat} (hj : j < cs.length) : cs.getD j 0 ∈ cs := by
  rw [List.getD_eq_getElem?_getD, List.getElem?_eq_getElem hj]; exact List.getElem_mem hj
namespace undoSelects
/-- what a row took stands once -/
theorem once_more {T N E : List Int} (hT : T.Nodup) (h4 : E.filter (fun c => decide (c ∈ T ∧ c ∉ N)) = T.filter (fun c => decide (c ∈ T ∧ c ∉ N))) {c : Int} (hc : c ∈ T ∧ c ∉ N) : c ∈ E ∧ ∀ i, E[i]? = some c → c ∉ E.drop (i + 1) := by
  have hm : c ∈ E.filter (fun c => decide (c ∈ T ∧ c ∉ N)) := by rw [h4]; exact List.mem_filter.2 ⟨hc.1, by simpa using hc⟩
  refine ⟨(List.mem_filter.1 hm).1, fun i hi hd => ?_⟩
  have hlt : i < E.length := (List.getElem?_eq_some_iff.1 hi).1
  have he : E[i] = c := (List.getElem?_eq_some_iff.1 hi).2
  have e : E = E.take i ++ c :: E.drop (i + 1) := by rw [← he, ← List.drop_eq_getElem_cons hlt, List.take_append_drop]
  have hn : (E.filter (fun c => decide (c ∈ T ∧ c ∉ N))).Nodup := by rw [h4]; exact List.Nodup.sublist List.filter_sublist hT
  rw [e, List.filter_append, List.filter_cons_of_pos (by simpa using hc), List.nodup_append] at hn
  have h2 := (List.nodup_cons.1 hn.2.1).1
  exact h2 (List.mem_filter.2 ⟨hd, by simpa using hc⟩)
theorem sorted_of {l m : List Int} (h : l.Sublist m) (hm : m.Pairwise (· ≤ ·)) : ∀ t, t + 1 < l.length → l.getD t 0 ≤ l.getD (t + 1) 0 := fun t ht => by
  have h2 := List.Pairwise.sublist h hm
  rw [List.pairwise_iff_getElem] at h2
  have := h2 t (t + 1) (by omega) ht (by omega)
  rw [List.getD_eq_getElem?_getD, List.getD_eq_getElem?_getD, List.getElem?_eq_getElem ht, List.getElem?_eq_getElem (show t < l.length by omega)]
  exact this
set_option maxRecDepth 100000 in
set_option maxHeartbeats 8000000 in
theorem walk (w : World) (n : Nat) (hn : n < 256) (B : Option Addr) (m d : Nat) (l : List Un) (hB : Units w w.heap.size B m d l) (B' : Option Addr) (m' d' : Nat) (l' : List Un) (hB' : Units w w.heap.size B' m' d' l') :
    Calls Try.prog 5 #[.int .u8 (n : Int), .slice B m d, .slice B' m' d'] w fun e w' => e = .returned (.bool true) ∧ Below w.heap.size w w' := by
  obtain ⟨K, hK⟩ : ∃ K, K = n % 41 := ⟨_, rfl⟩
  have hK40 : K ≤ 40 := by omega
  have hk1 : (n : Int) % 41 = (K : Int) := by omega
  have HK40 := Lib.hid hK40
  have B_0 := Lib.hid hB.1
  have B2_0 := Lib.hid hB'.1
  clear hB hB' hK hK40
  go_enter Try.func5, Try.ntmps5
  go_wp2_with fail
  rw [hk1]
  clear hk1 hn
  refine ((numbered_any K (by have := HK40.out; omega) w)).mono ?_
  rintro e w_1 ⟨A0, c0, rfl, ho, hb⟩
  have B_2 := Lib.hid (Rws.then_ B_0.out hb)
  have B2_3 := Lib.hid (Rws.then_ B2_0.out hb)
  have HB_4 := Lib.hid (hb)
  clear B_0 B2_0
  obtain ⟨T, hT⟩ : ∃ T, T = Pl.numL K := ⟨_, rfl⟩
  rw [← hT] at ho
  have HT := Lib.hid hT
  have HTL := Lib.hid (show T.length = K by rw [hT]; exact Pl.num_len K)
  have T_5 := Lib.hid (ho.crs.2)
  clear hb ho hT
  go_wp2_with fail
  refine ((me_any w_1)).mono ?_
  rintro e w_6 ⟨rfl, hb⟩
  have B_7 := Lib.hid (Rws.then_ B_2.out hb)
  have B2_8 := Lib.hid (Rws.then_ B2_3.out hb)
  have T_9 := Lib.hid (Crs.then_ T_5.out hb)
  have HB_10 := Lib.hid (below_then' HB_4.out hb HB_4.out.size)
  clear B_2 B2_3 T_5 HB_4
  clear hb
  go_wp2_with fail
  refine ((fit_any B m d l K 1 7 2000 w_6 B_7.out (by have := HK40.out; omega) (by omega))).mono ?_
  rintro e w_11 ⟨A1, c1, la, rfl, hla, ho, hbr, _, hb⟩
  clear B_7
  have B2_12 := Lib.hid (Rws.then_ B2_8.out hb)
  have T_13 := Lib.hid (Crs.then_ T_9.out hb)
  have HB_14 := Lib.hid (below_then' HB_10.out hb HB_10.out.size)
  clear B2_8 T_9 HB_10
  have LA_15 := Lib.hid (ho)
  have HLA := Lib.hid (And.intro hla hbr)
  have hp := Pl.back_plain hbr hla HK40.out
  rw [← HT.out] at hp
  clear hb ho hla hbr
  obtain ⟨NA, hNA⟩ : ∃ k, k = (la).length := ⟨_, rfl⟩
  rw [← hNA] at LA_15 ⊢
  have HNA := Lib.hid hNA
  clear hNA
  obtain ⟨FA, hFA⟩ : ∃ x, x = Pl.fillL la T := ⟨_, rfl⟩
  rw [← hFA] at hp
  have HFA := Lib.hid hFA
  have HP := Lib.hid hp
  have HFL := Lib.hid (show FA.length = NA by rw [hp.2.1, HNA.out])
  have hna : NA ≤ 20 := by rw [HNA.out]; exact HLA.out.1
  have hk40 := HK40.out
  clear hp hFA
  go_wp2_with fail
  refine ((fill_any A1 NA c1 la A0 K c0 T w_11 (OwnU.uns LA_15.out) T_13.out (by omega) (by omega) HP.out.1)).mono ?_
  rintro e w_16 ⟨A2, c2, rfl, ho, hb⟩
  rw [← HFA.out] at ho
  rw [← HNA.out] at ho ⊢
  clear LA_15
  have B2_17 := Lib.hid (Rws.then_ B2_12.out hb)
  have T_18 := Lib.hid (Crs.then_ T_13.out hb)
  have HB_19 := Lib.hid (below_then' HB_14.out hb HB_14.out.size)
  clear B2_12 T_13 HB_14
  have A_20 := Lib.hid (ho)
  clear hb ho
  go_wp2_with fail
  refine ((applyR_fit A0 K c0 T A2 NA c2 FA w_16 T_18.out (OwnU.uns A_20.out) (by omega) (by omega) HP.out.2.2.1)).mono ?_
  rintro e w_21 ⟨A3, c3, rfl, ho, hb⟩
  obtain ⟨NW, hNW⟩ : ∃ x, x = Pl.leave FA T := ⟨_, rfl⟩
  rw [← hNW] at ho ⊢
  have h60 : NW.length ≤ 60 := by have h := Pl.len_leave_le HP.out.2.2.1; rw [← hNW, HTL.out, HFL.out] at h; omega
  have HNW := Lib.hid hNW
  clear hNW
  obtain ⟨N3, hN3⟩ : ∃ k, k = (NW).length := ⟨_, rfl⟩
  rw [← hN3] at ho h60 ⊢
  have HN3 := Lib.hid hN3
  clear hN3
  have B2_22 := Lib.hid (Rws.then_ B2_17.out hb)
  have T_23 := Lib.hid (Crs.then_ T_18.out hb)
  have A_24 := Lib.hid (OwnR.then_ A_20.out hb)
  have HB_25 := Lib.hid (below_then' HB_19.out hb HB_19.out.size)
  clear B2_17 T_18 A_20 HB_19
  have N_26 := Lib.hid (ho.crs.2)
  clear hb ho
  go_wp2_with fail
  refine ((you_any w_21)).mono ?_
  rintro e w_27 ⟨rfl, hb⟩
  have B2_28 := Lib.hid (Rws.then_ B2_22.out hb)
  have T_29 := Lib.hid (Crs.then_ T_23.out hb)
  have A_30 := Lib.hid (OwnR.then_ A_24.out hb)
  have N_31 := Lib.hid (Crs.then_ N_26.out hb)
  have HB_32 := Lib.hid (below_then' HB_25.out hb HB_25.out.size)
  clear B2_22 T_23 A_24 N_26 HB_25
  clear hb
  go_wp2_with fail
  refine ((fit_any B' m' d' l' N3 2 1 3000 w_27 B2_28.out (by omega) (by omega))).mono ?_
  rintro e w_33 ⟨A4, c4, lb, rfl, hlb, ho, hbr, _, hb⟩
  clear B2_28
  have T_34 := Lib.hid (Crs.then_ T_29.out hb)
  have A_35 := Lib.hid (OwnR.then_ A_30.out hb)
  have N_36 := Lib.hid (Crs.then_ N_31.out hb)
  have HB_37 := Lib.hid (below_then' HB_32.out hb HB_32.out.size)
  clear T_29 A_30 N_31 HB_32
  have LB_38 := Lib.hid (ho)
  have HLB := Lib.hid (And.intro hlb hbr)
  have HFB := Lib.hid (Pl.fi_fit (by omega) hbr HN3.out.symm (by omega) (by omega))
  clear hb ho hlb hbr
  obtain ⟨NB, hNB⟩ : ∃ k, k = (lb).length := ⟨_, rfl⟩
  rw [← hNB] at LB_38 ⊢
  have HNB := Lib.hid hNB
  clear hNB
  have hnb : NB ≤ 20 := by rw [HNB.out]; exact HLB.out.1
  have HSEL := Lib.hid (Pl.selects (A := FA) (B := lb) (T := T) (x := 1) (y := 7) (by rw [HTL.out, HFL.out, ← HNB.out]; omega) HP.out.2.2.1 HP.out.2.2.2 (by
      rw [HFA.out]
      refine Pl.fill_brings fun u hu hk => ?_
      have := Pl.fi_brings HLA.out.2 u hu hk
      have := HLA.out.1
      unfold Pl.R2; omega) (by rw [← HNW.out]; exact HFB.out) (fun u hu hk => by
      have := Pl.fi_brings HLB.out.2 u hu hk
      show 3000 ≤ u.c
      omega) (fun v hv => by rw [(Pl.fi_of HLB.out.2 v hv).1]; decide) (fun c hc => by
      rw [HT.out] at hc
      obtain ⟨i, hi, rfl⟩ := Pl.num_mem hc
      omega) (by rw [HT.out]; exact Pl.num_nodup K))
  rw [← HNW.out] at HSEL
  go_wp2_with fail
  refine ((applyR_fit A3 N3 c3 NW A4 NB c4 lb w_33 N_36.out (OwnU.uns LB_38.out) (by omega) (by omega) HFB.out)).mono ?_
  rintro e w_39 ⟨A5, c5, rfl, ho, hb⟩
  obtain ⟨TH, hTH⟩ : ∃ x, x = Pl.leave lb NW := ⟨_, rfl⟩
  rw [← hTH] at ho HSEL ⊢
  have h80 : TH.length ≤ 80 := by have h := Pl.len_leave_le HFB.out; rw [← hTH, ← HN3.out, ← HNB.out] at h; omega
  clear hTH
  obtain ⟨N5, hN5⟩ : ∃ k, k = (TH).length := ⟨_, rfl⟩
  rw [← hN5] at ho h80 ⊢
  have HN5 := Lib.hid hN5
  clear hN5
  have T_40 := Lib.hid (Crs.then_ T_34.out hb)
  have A_41 := Lib.hid (OwnR.then_ A_35.out hb)
  have N_42 := Lib.hid (Crs.then_ N_36.out hb)
  have LB_43 := Lib.hid (OwnR.then_ LB_38.out hb)
  have HB_44 := Lib.hid (below_then' HB_37.out hb HB_37.out.size)
  clear T_34 A_35 N_36 LB_38 HB_37
  have H_45 := Lib.hid (ho.crs.2)
  clear hb ho
  go_wp2_with fail
  refine ((me_any w_39)).mono ?_
  rintro e w_46 ⟨rfl, hb⟩
  have T_47 := Lib.hid (Crs.then_ T_40.out hb)
  have A_48 := Lib.hid (OwnR.then_ A_41.out hb)
  have N_49 := Lib.hid (Crs.then_ N_42.out hb)
  have LB_50 := Lib.hid (OwnR.then_ LB_43.out hb)
  have H_51 := Lib.hid (Crs.then_ H_45.out hb)
  have HB_52 := Lib.hid (below_then' HB_44.out hb HB_44.out.size)
  clear T_40 A_41 N_42 LB_43 H_45 HB_44
  clear hb
  obtain ⟨w_53, hw⟩ : ∃ x, x = w_46.alloc (.cells #[.slice A4 NB c4] 23) := ⟨_, rfl⟩
  have hx : RowsV (w_46.alloc (.cells #[.slice A4 NB c4] 23)) (some ⟨w_46.heap.size, 0, none⟩) [⟨A4, NB, c4, lb⟩] := rows_one w_46 ⟨A4, NB, c4, lb⟩ (OwnU.uns LB_50.out) (by simp only; omega)
  have hb : Below w_46.heap.size w_46 w_53 := by rw [hw]; exact below_box _ _
  rw [← hw] at hx
  have HWw_53 := Lib.hid hw
  have HSw_53 := Lib.hid (show w_53.heap.size = w_46.heap.size + 1 by rw [hw]; simp)
  have T_54 := Lib.hid (Crs.then_ T_47.out hb)
  have A_55 := Lib.hid (OwnR.then_ A_48.out hb)
  have N_56 := Lib.hid (Crs.then_ N_49.out hb)
  have LB_57 := Lib.hid (OwnR.then_ LB_50.out hb)
  have H_58 := Lib.hid (Crs.then_ H_51.out hb)
  have HB_59 := Lib.hid (below_then' HB_52.out hb HB_52.out.size)
  clear T_47 A_48 N_49 LB_50 H_51 HB_52
  have V_60 := Lib.hid (hx)
  clear hw hx hb
  go_wp2_with fail
  rw [← HWw_53.out]
  refine ((back_any A2 NA c2 FA 1 7 _ 1 [⟨A4, NB, c4, lb⟩] w_53 (OwnU.uns A_55.out) V_60.out (by omega) (by simp))).mono ?_
  rintro e w_61 ⟨A6, c6, rfl, ho, hb⟩
  simp only [List.map_cons, List.map_nil] at ho ⊢
  obtain ⟨BK, hBK⟩ : ∃ x, x = Pl.back1 1 7 FA lb := ⟨_, rfl⟩
  rw [show Pl.cleanL (Pl.pastR (Pl.invR 1 7 FA) [lb]) = BK from hBK.symm] at ho ⊢
  rw [← hBK] at HSEL
  have h20 : BK.length ≤ 20 := by
    rw [hBK]; unfold Pl.back1
    have h1 := Pl.len_clean (Pl.bothR (Pl.invR 1 7 FA) lb).1
    rw [both_len1, Pl.inv_len, HFL.out] at h1; omega
  clear hBK
  obtain ⟨N6, hN6⟩ : ∃ k, k = (BK).length := ⟨_, rfl⟩
  rw [← hN6] at ho h20 ⊢
  have HN6 := Lib.hid hN6
  clear hN6
  clear V_60
  clear LB_57
  clear A_55
  have T_62 := Lib.hid (Crs.then_ T_54.out hb)
  have N_63 := Lib.hid (Crs.then_ N_56.out hb)
  have H_64 := Lib.hid (Crs.then_ H_58.out hb)
  have HB_65 := Lib.hid (below_then' HB_59.out hb HB_59.out.size)
  clear T_54 N_56 H_58 HB_59
  have K_66 := Lib.hid (ho)
  clear hb ho
  go_wp2_with fail
  refine ((applyR_fit A5 N5 c5 TH A6 N6 c6 BK w_61 H_64.out (OwnU.uns K_66.out) (by omega) (by omega) HSEL.out.1)).mono ?_
  rintro e w_67 ⟨A7, c7, rfl, ho, hb⟩
  obtain ⟨EN, hEN⟩ : ∃ x, x = Pl.leave BK TH := ⟨_, rfl⟩
  have h100 : EN.length ≤ 100 := by have h := Pl.len_leave_le HSEL.out.1; rw [← hEN, ← HN5.out, ← HN6.out] at h; omega
  rw [← hEN] at ho HSEL ⊢
  clear hEN
  obtain ⟨N7, hN7⟩ : ∃ k, k = (EN).length := ⟨_, rfl⟩
  rw [← hN7] at ho h100 ⊢
  have HN7 := Lib.hid hN7
  clear hN7
  clear K_66
  have T_68 := Lib.hid (Crs.then_ T_62.out hb)
  have N_69 := Lib.hid (Crs.then_ N_63.out hb)
  have H_70 := Lib.hid (Crs.then_ H_64.out hb)
  have HB_71 := Lib.hid (below_then' HB_65.out hb HB_65.out.size)
  clear T_62 N_63 H_64 HB_65
  have E_72 := Lib.hid (ho.crs.2)
  have O_73 := Lib.hid (ho)
  clear hb ho
  go_wp2_with fail
  have NOWF := N_69
  have SRC := T_68
  have HST := Lib.hid (FlR.start w_67 T (fun c => !decide (c ∈ NW)))
  go_loopw [16, 89] (fun s i wr1 => FlR w_67 T (fun c => !decide (c ∈ NW)) s i wr1) (fun _ i _ => K - (intOf i).toNat)
  case atStart => exact HST.out
  case round =>
    clear HST
    obtain ⟨wr1, hwz⟩ : ∃ z, z = wr := ⟨_, rfl⟩
    subst hwz
    obtain ⟨j, M1, AL1, cL1, P1, rfl, rfl, hP, hM, hj, ho, hb⟩ := hrel
    have HB := Lib.hid hb
    have HO := Lib.hid ho
    have HMP := Lib.hid hM
    have hlen := SRC.out.len
    by_cases hlt : j < K
    · as_aux_lemma =>
        have hjl : j < (T).length := by rw [hlen]; exact hlt
        have hcr := SRC.out.then_ hb
        obtain ⟨g1, o1, eA, _, hc1⟩ := hcr.at_ hlt
        have a0 := hc1 j hlt
        have hxj := SRC.out.getJ j
        have hM2 : M1 ≤ j := by rw [hM, hP]; exact fl_len
        have hyes := fun h => fl_yes (cs := T) (q := fun c => !decide (c ∈ NW)) (j := j) hjl h
        have hno := fun h => fl_no (cs := T) (q := fun c => !decide (c ∈ NW)) (j := j) hjl h
        have HME := Lib.hid (mem_getC hjl)
        obtain ⟨x, hx⟩ : ∃ x, x = (T).getD j 0 := ⟨_, rfl⟩
        rw [← hx] at a0 hxj hyes hno HME
        rw [← hP] at hyes hno
        have HXJ := Lib.hid hxj
        have HYS := Lib.hid hyes
        have HNS := Lib.hid hno
        have HMS := Lib.hid (show K - (j + 1) < K - j by omega)
        have HJ1 := Lib.hid (show j + 1 ≤ (T).length from hjl)
        have HCR := Lib.hid hcr
        have z0 : (0 : Int) ≤ (j : Int) := Int.natCast_nonneg j
        have z1 : (j : Int) < (K : Int) := Int.ofNat_lt.2 hlt
        have hM3 : M1 ≤ 1000 := by omega
        clear ho hb hM hP hcr hc1 hxj hyes hno hx hjl hM2 hj
        subst eA
        have HM := Lib.hid (has_any A3 N3 c3 NW x wr1 (NOWF.out.then_ HB.out))
        by_cases hx : x ∈ NW
        · rw [decide_eq_true hx] at HM
          have HNO := Lib.hid (HNS.out (by simpa using hx))
          clear hx
          go_wp2_with fail
          refine HM.out.mono ?_
          rintro e wq ⟨rfl, hbq⟩
          have HOQ := Lib.hid (OwnC.then_ HO.out hbq)
          have HBQ := Lib.hid (below_then HB.out hbq)
          clear hbq HM a0
          go_wp2_with fail
          go_roundw
          case rel => exact ⟨j + 1, M1, AL1, cL1, P1, by go_num, rfl, (HNO.out).symm, HMP.out, HJ1.out, HOQ.out, HBQ.out⟩
          case measure => simp [intOf]; exact HMS.out
        · rw [decide_eq_false hx] at HM
          have HYES := Lib.hid (HYS.out (by simpa using hx))
          clear hx
          go_wp2_with fail
          refine HM.out.mono ?_
          rintro e wq ⟨rfl, hbq⟩
          have HOQ := Lib.hid (OwnC.then_ HO.out hbq)
          have HBQ := Lib.hid (below_then HB.out hbq)
          clear hbq HM a0
          have HSV := Lib.hid (show Crs (World.alloc wq (.cells #[.int .i32 x] 40)) (World.alloc wq (.cells #[.int .i32 x] 40)).heap.size (some ⟨wq.heap.size, 0, none⟩) 1 1 [x] from (crs_lit wq [x] (fun y hy => by rw [List.mem_singleton.1 hy]; exact HXJ.out) (by simp [maxLen])).crs.2)
          have hbx := below_box wq (.cells #[.int .i32 x] 40)
          have HOV := Lib.hid (OwnC.then_ HOQ.out hbx)
          have HBV := Lib.hid (below_then HBQ.out hbx)
          have hsz := HBV.out.size
          clear hbx
          go_wp2_with (at_builtin; refine wpList_append_crs (World.alloc wq (.cells #[.int .i32 x] 40)) rfl (.tmp 97) (.tmp 99) rfl w_67.heap.size AL1 M1 cL1 P1 (by rfl) HOV.out _ (some ⟨wq.heap.size, 0, none⟩) 1 1 [x] (by rfl) HSV.out (by omega) hsz ?_)
          intro A5 c5 w5 hO5 hg5 _
          have HO5 := Lib.hid (show OwnC w5 w_67.heap.size (.slice A5 (M1 + 1) c5) (P1 ++ [x]) from hO5)
          have HB5 := Lib.hid (below_appendC HOV.out hg5 HBV.out hsz)
          clear hO5 hg5 hsz HSV HOV HBV
          go_wp2_with fail
          go_roundw
          case rel => exact ⟨j + 1, M1 + 1, A5, c5, P1 ++ [x], by go_num, rfl, (HYES.out).symm, by rw [List.length_append, ← HMP.out]; rfl, HJ1.out, HO5.out, HB5.out⟩
          case measure => simp [intOf]; exact HMS.out
    · as_aux_lemma =>
        have hjn : (T).take j = T := List.take_of_length_le (by rw [hlen]; omega)
        rw [hjn] at hP
        clear hjn hlen HMP HO
        have T_74 := Lib.hid (Crs.then_ T_68.out hb)
        have N_75 := Lib.hid (Crs.then_ N_69.out hb)
        have H_76 := Lib.hid (Crs.then_ H_70.out hb)
        have E_77 := Lib.hid (Crs.then_ E_72.out hb)
        have O_78 := Lib.hid (OwnC.then_ O_73.out hb)
        have HB_79 := Lib.hid (below_then' HB_71.out hb HB_71.out.size)
        clear T_68 N_69 H_70 E_72 O_73 HB_71
        have L1_80 := Lib.hid (ho.crs.2)
        have HL1 := Lib.hid hP
        have HLM1 := Lib.hid hM
        clear SRC HB ho hP hM
        clear NOWF
        have HIN := Lib.hid (show ∀ c, c ∈ P1 ↔ c ∈ T ∧ c ∉ NW from fun c => by rw [HL1.out, List.mem_filter]; simp)
        go_wp2_with fail
        clear hlt hj
        have TKF := L1_80
        have SRC := E_77
        have HST := Lib.hid (FlR.start wr1 EN (fun c => !decide (c ∈ P1)))
        go_loopw [19, 104] (fun s i wr2 => FlR wr1 EN (fun c => !decide (c ∈ P1)) s i wr2) (fun _ i _ => N7 - (intOf i).toNat)
        case atStart => exact HST.out
        case round =>
          clear HST
          obtain ⟨wr2, hwz⟩ : ∃ z, z = wr := ⟨_, rfl⟩
          subst hwz
          obtain ⟨j, M2, AL2, cL2, P2, rfl, rfl, hP, hM, hj, ho, hb⟩ := hrel
          have HB := Lib.hid hb
          have HO := Lib.hid ho
          have HMP := Lib.hid hM
          have hlen := SRC.out.len
          by_cases hlt : j < N7
          · as_aux_lemma =>
              have hjl : j < (EN).length := by rw [hlen]; exact hlt
              have hcr := SRC.out.then_ hb
              obtain ⟨g1, o1, eA, _, hc1⟩ := hcr.at_ hlt
              have a0 := hc1 j hlt
              have hxj := SRC.out.getJ j
              have hM2 : M2 ≤ j := by rw [hM, hP]; exact fl_len
              have hyes := fun h => fl_yes (cs := EN) (q := fun c => !decide (c ∈ P1)) (j := j) hjl h
              have hno := fun h => fl_no (cs := EN) (q := fun c => !decide (c ∈ P1)) (j := j) hjl h
              have HME := Lib.hid (mem_getC hjl)
              obtain ⟨x, hx⟩ : ∃ x, x = (EN).getD j 0 := ⟨_, rfl⟩
              rw [← hx] at a0 hxj hyes hno HME
              rw [← hP] at hyes hno
              have HXJ := Lib.hid hxj
              have HYS := Lib.hid hyes
              have HNS := Lib.hid hno
              have HMS := Lib.hid (show N7 - (j + 1) < N7 - j by omega)
              have HJ1 := Lib.hid (show j + 1 ≤ (EN).length from hjl)
              have HCR := Lib.hid hcr
              have z0 : (0 : Int) ≤ (j : Int) := Int.natCast_nonneg j
              have z1 : (j : Int) < (N7 : Int) := Int.ofNat_lt.2 hlt
              have hM3 : M2 ≤ 1000 := by omega
              clear ho hb hM hP hcr hc1 hxj hyes hno hx hjl hM2 hj
              subst eA
              have hr2 : ¬ (2000 ≤ x ∧ x < 3000) := HSEL.out.2.1 x HME.out
              by_cases h2 : 2000 ≤ x
              · have h3 : ¬ x < 3000 := fun h => hr2 ⟨h2, h⟩
                clear hr2
                have HM := Lib.hid (has_any AL1 M1 cL1 P1 x wr2 (TKF.out.then_ HB.out))
                by_cases hx : x ∈ P1
                · rw [decide_eq_true hx] at HM
                  have HNO := Lib.hid (HNS.out (by simpa using hx))
                  clear hx
                  go_wp2_with fail
                  refine HM.out.mono ?_
                  rintro e wq ⟨rfl, hbq⟩
                  have HOQ := Lib.hid (OwnC.then_ HO.out hbq)
                  have HBQ := Lib.hid (below_then HB.out hbq)
                  clear hbq HM a0
                  go_wp2_with fail
                  go_roundw
                  case rel => exact ⟨j + 1, M2, AL2, cL2, P2, by go_num, rfl, (HNO.out).symm, HMP.out, HJ1.out, HOQ.out, HBQ.out⟩
                  case measure => simp [intOf]; exact HMS.out
                · rw [decide_eq_false hx] at HM
                  have HYES := Lib.hid (HYS.out (by simpa using hx))
                  clear hx
                  go_wp2_with fail
                  refine HM.out.mono ?_
                  rintro e wq ⟨rfl, hbq⟩
                  have HOQ := Lib.hid (OwnC.then_ HO.out hbq)
                  have HBQ := Lib.hid (below_then HB.out hbq)
                  clear hbq HM a0
                  have HSV := Lib.hid (show Crs (World.alloc wq (.cells #[.int .i32 x] 40)) (World.alloc wq (.cells #[.int .i32 x] 40)).heap.size (some ⟨wq.heap.size, 0, none⟩) 1 1 [x] from (crs_lit wq [x] (fun y hy => by rw [List.mem_singleton.1 hy]; exact HXJ.out) (by simp [maxLen])).crs.2)
                  have hbx := below_box wq (.cells #[.int .i32 x] 40)
                  have HOV := Lib.hid (OwnC.then_ HOQ.out hbx)
                  have HBV := Lib.hid (below_then HBQ.out hbx)
                  have hsz := HBV.out.size
                  clear hbx
                  go_wp2_with (at_builtin; refine wpList_append_crs (World.alloc wq (.cells #[.int .i32 x] 40)) rfl (.tmp 120) (.tmp 122) rfl wr1.heap.size AL2 M2 cL2 P2 (by rfl) HOV.out _ (some ⟨wq.heap.size, 0, none⟩) 1 1 [x] (by rfl) HSV.out (by omega) hsz ?_)
                  intro A5 c5 w5 hO5 hg5 _
                  have HO5 := Lib.hid (show OwnC w5 wr1.heap.size (.slice A5 (M2 + 1) c5) (P2 ++ [x]) from hO5)
                  have HB5 := Lib.hid (below_appendC HOV.out hg5 HBV.out hsz)
                  clear hO5 hg5 hsz HSV HOV HBV
                  go_wp2_with fail
                  go_roundw
                  case rel => exact ⟨j + 1, M2 + 1, A5, c5, P2 ++ [x], by go_num, rfl, (HYES.out).symm, by rw [List.length_append, ← HMP.out]; rfl, HJ1.out, HO5.out, HB5.out⟩
                  case measure => simp [intOf]; exact HMS.out
              · clear hr2
                have HM := Lib.hid (has_any AL1 M1 cL1 P1 x wr2 (TKF.out.then_ HB.out))
                by_cases hx : x ∈ P1
                · rw [decide_eq_true hx] at HM
                  have HNO := Lib.hid (HNS.out (by simpa using hx))
                  clear hx
                  go_wp2_with fail
                  refine HM.out.mono ?_
                  rintro e wq ⟨rfl, hbq⟩
                  have HOQ := Lib.hid (OwnC.then_ HO.out hbq)
                  have HBQ := Lib.hid (below_then HB.out hbq)
                  clear hbq HM a0
                  go_wp2_with fail
                  go_roundw
                  case rel => exact ⟨j + 1, M2, AL2, cL2, P2, by go_num, rfl, (HNO.out).symm, HMP.out, HJ1.out, HOQ.out, HBQ.out⟩
                  case measure => simp [intOf]; exact HMS.out
                · rw [decide_eq_false hx] at HM
                  have HYES := Lib.hid (HYS.out (by simpa using hx))
                  clear hx
                  go_wp2_with fail
                  refine HM.out.mono ?_
                  rintro e wq ⟨rfl, hbq⟩
                  have HOQ := Lib.hid (OwnC.then_ HO.out hbq)
                  have HBQ := Lib.hid (below_then HB.out hbq)
                  clear hbq HM a0
                  have HSV := Lib.hid (show Crs (World.alloc wq (.cells #[.int .i32 x] 40)) (World.alloc wq (.cells #[.int .i32 x] 40)).heap.size (some ⟨wq.heap.size, 0, none⟩) 1 1 [x] from (crs_lit wq [x] (fun y hy => by rw [List.mem_singleton.1 hy]; exact HXJ.out) (by simp [maxLen])).crs.2)
                  have hbx := below_box wq (.cells #[.int .i32 x] 40)
                  have HOV := Lib.hid (OwnC.then_ HOQ.out hbx)
                  have HBV := Lib.hid (below_then HBQ.out hbx)
                  have hsz := HBV.out.size
                  clear hbx
                  go_wp2_with (at_builtin; refine wpList_append_crs (World.alloc wq (.cells #[.int .i32 x] 40)) rfl (.tmp 120) (.tmp 122) rfl wr1.heap.size AL2 M2 cL2 P2 (by rfl) HOV.out _ (some ⟨wq.heap.size, 0, none⟩) 1 1 [x] (by rfl) HSV.out (by omega) hsz ?_)
                  intro A5 c5 w5 hO5 hg5 _
                  have HO5 := Lib.hid (show OwnC w5 wr1.heap.size (.slice A5 (M2 + 1) c5) (P2 ++ [x]) from hO5)
                  have HB5 := Lib.hid (below_appendC HOV.out hg5 HBV.out hsz)
                  clear hO5 hg5 hsz HSV HOV HBV
                  go_wp2_with fail
                  go_roundw
                  case rel => exact ⟨j + 1, M2 + 1, A5, c5, P2 ++ [x], by go_num, rfl, (HYES.out).symm, by rw [List.length_append, ← HMP.out]; rfl, HJ1.out, HO5.out, HB5.out⟩
                  case measure => simp [intOf]; exact HMS.out
          · as_aux_lemma =>
              have hjn : (EN).take j = EN := List.take_of_length_le (by rw [hlen]; omega)
              rw [hjn] at hP
              clear hjn hlen HMP HO
              have T_81 := Lib.hid (Crs.then_ T_74.out hb)
              have N_82 := Lib.hid (Crs.then_ N_75.out hb)
              have H_83 := Lib.hid (Crs.then_ H_76.out hb)
              have E_84 := Lib.hid (Crs.then_ E_77.out hb)
              have O_85 := Lib.hid (OwnC.then_ O_78.out hb)
              have L1_86 := Lib.hid (Crs.then_ L1_80.out hb)
              have HB_87 := Lib.hid (below_then' HB_79.out hb HB_79.out.size)
              clear T_74 N_75 H_76 E_77 O_78 L1_80 HB_79
              have L2_88 := Lib.hid (ho.crs.2)
              have HL2 := Lib.hid hP
              have HLM2 := Lib.hid hM
              clear SRC HB ho hP hM
              clear TKF
              go_wp2_with fail
              clear hlt hj
              have SRC := H_83
              have HST := Lib.hid (FlR.start wr2 TH (fun c => !decide (Pl.R2 c)))
              go_loopw [20, 127] (fun s i wr3 => FlR wr2 TH (fun c => !decide (Pl.R2 c)) s i wr3) (fun _ i _ => N5 - (intOf i).toNat)
              case atStart => exact HST.out
              case round =>
                clear HST
                obtain ⟨wr3, hwz⟩ : ∃ z, z = wr := ⟨_, rfl⟩
                subst hwz
                obtain ⟨j, M3, AL3, cL3, P3, rfl, rfl, hP, hM, hj, ho, hb⟩ := hrel
                have HB := Lib.hid hb
                have HO := Lib.hid ho
                have HMP := Lib.hid hM
                have hlen := SRC.out.len
                by_cases hlt : j < N5
                · as_aux_lemma =>
                    have hjl : j < (TH).length := by rw [hlen]; exact hlt
                    have hcr := SRC.out.then_ hb
                    obtain ⟨g1, o1, eA, _, hc1⟩ := hcr.at_ hlt
                    have a0 := hc1 j hlt
                    have hxj := SRC.out.getJ j
                    have hM2 : M3 ≤ j := by rw [hM, hP]; exact fl_len
                    have hyes := fun h => fl_yes (cs := TH) (q := fun c => !decide (Pl.R2 c)) (j := j) hjl h
                    have hno := fun h => fl_no (cs := TH) (q := fun c => !decide (Pl.R2 c)) (j := j) hjl h
                    have HME := Lib.hid (mem_getC hjl)
                    obtain ⟨x, hx⟩ : ∃ x, x = (TH).getD j 0 := ⟨_, rfl⟩
                    rw [← hx] at a0 hxj hyes hno HME
                    rw [← hP] at hyes hno
                    have HXJ := Lib.hid hxj
                    have HYS := Lib.hid hyes
                    have HNS := Lib.hid hno
                    have HMS := Lib.hid (show N5 - (j + 1) < N5 - j by omega)
                    have HJ1 := Lib.hid (show j + 1 ≤ (TH).length from hjl)
                    have HCR := Lib.hid hcr
                    have z0 : (0 : Int) ≤ (j : Int) := Int.natCast_nonneg j
                    have z1 : (j : Int) < (N5 : Int) := Int.ofNat_lt.2 hlt
                    have hM3 : M3 ≤ 1000 := by omega
                    clear ho hb hM hP hcr hc1 hxj hyes hno hx hjl hM2 hj
                    subst eA
                    by_cases h2 : x < 2000
                    · have HYES := Lib.hid (HYS.out (by have : ¬ Pl.R2 x := fun h => by unfold Pl.R2 at h; omega
                                                        simpa using this))
                      have HSV := Lib.hid (show Crs (World.alloc wr3 (.cells #[.int .i32 x] 40)) (World.alloc wr3 (.cells #[.int .i32 x] 40)).heap.size (some ⟨wr3.heap.size, 0, none⟩) 1 1 [x] from (crs_lit wr3 [x] (fun y hy => by rw [List.mem_singleton.1 hy]; exact HXJ.out) (by simp [maxLen])).crs.2)
                      have hbx := below_box wr3 (.cells #[.int .i32 x] 40)
                      have HOV := Lib.hid (OwnC.then_ HO.out hbx)
                      have HBV := Lib.hid (below_then HB.out hbx)
                      have hsz := HBV.out.size
                      clear hbx
                      go_wp2_with (at_builtin; refine wpList_append_crs (World.alloc wr3 (.cells #[.int .i32 x] 40)) rfl (.tmp 137) (.tmp 139) rfl wr2.heap.size AL3 M3 cL3 P3 (by rfl) HOV.out _ (some ⟨wr3.heap.size, 0, none⟩) 1 1 [x] (by rfl) HSV.out (by omega) hsz ?_)
                      intro A5 c5 w5 hO5 hg5 _
                      have HO5 := Lib.hid (show OwnC w5 wr2.heap.size (.slice A5 (M3 + 1) c5) (P3 ++ [x]) from hO5)
                      have HB5 := Lib.hid (below_appendC HOV.out hg5 HBV.out hsz)
                      clear hO5 hg5 hsz HSV HOV HBV
                      go_wp2_with fail
                      go_roundw
                      case rel => exact ⟨j + 1, M3 + 1, A5, c5, P3 ++ [x], by go_num, rfl, (HYES.out).symm, by rw [List.length_append, ← HMP.out]; rfl, HJ1.out, HO5.out, HB5.out⟩
                      case measure => simp [intOf]; exact HMS.out
                    · by_cases h3 : 3000 ≤ x
                      · have HYES := Lib.hid (HYS.out (by have : ¬ Pl.R2 x := fun h => by unfold Pl.R2 at h; omega
                                                          simpa using this))
                        have HSV := Lib.hid (show Crs (World.alloc wr3 (.cells #[.int .i32 x] 40)) (World.alloc wr3 (.cells #[.int .i32 x] 40)).heap.size (some ⟨wr3.heap.size, 0, none⟩) 1 1 [x] from (crs_lit wr3 [x] (fun y hy => by rw [List.mem_singleton.1 hy]; exact HXJ.out) (by simp [maxLen])).crs.2)
                        have hbx := below_box wr3 (.cells #[.int .i32 x] 40)
                        have HOV := Lib.hid (OwnC.then_ HO.out hbx)
                        have HBV := Lib.hid (below_then HB.out hbx)
                        have hsz := HBV.out.size
                        clear hbx
                        go_wp2_with (at_builtin; refine wpList_append_crs (World.alloc wr3 (.cells #[.int .i32 x] 40)) rfl (.tmp 137) (.tmp 139) rfl wr2.heap.size AL3 M3 cL3 P3 (by rfl) HOV.out _ (some ⟨wr3.heap.size, 0, none⟩) 1 1 [x] (by rfl) HSV.out (by omega) hsz ?_)
                        intro A5 c5 w5 hO5 hg5 _
                        have HO5 := Lib.hid (show OwnC w5 wr2.heap.size (.slice A5 (M3 + 1) c5) (P3 ++ [x]) from hO5)
                        have HB5 := Lib.hid (below_appendC HOV.out hg5 HBV.out hsz)
                        clear hO5 hg5 hsz HSV HOV HBV
                        go_wp2_with fail
                        go_roundw
                        case rel => exact ⟨j + 1, M3 + 1, A5, c5, P3 ++ [x], by go_num, rfl, (HYES.out).symm, by rw [List.length_append, ← HMP.out]; rfl, HJ1.out, HO5.out, HB5.out⟩
                        case measure => simp [intOf]; exact HMS.out
                      · have HNO := Lib.hid (HNS.out (by have : Pl.R2 x := by unfold Pl.R2; omega
                                                         simpa using this))
                        go_wp2_with fail
                        go_roundw
                        case rel => exact ⟨j + 1, M3, AL3, cL3, P3, by go_num, rfl, (HNO.out).symm, HMP.out, HJ1.out, HO.out, HB.out⟩
                        case measure => simp [intOf]; exact HMS.out
                · as_aux_lemma =>
                    have hjn : (TH).take j = TH := List.take_of_length_le (by rw [hlen]; omega)
                    rw [hjn] at hP
                    clear hjn hlen HMP HO
                    have T_89 := Lib.hid (Crs.then_ T_81.out hb)
                    have N_90 := Lib.hid (Crs.then_ N_82.out hb)
                    have H_91 := Lib.hid (Crs.then_ H_83.out hb)
                    have E_92 := Lib.hid (Crs.then_ E_84.out hb)
                    have O_93 := Lib.hid (OwnC.then_ O_85.out hb)
                    have L1_94 := Lib.hid (Crs.then_ L1_86.out hb)
                    have L2_95 := Lib.hid (Crs.then_ L2_88.out hb)
                    have HB_96 := Lib.hid (below_then' HB_87.out hb HB_87.out.size)
                    clear T_81 N_82 H_83 E_84 O_85 L1_86 L2_88 HB_87
                    have L3_97 := Lib.hid (ho.crs.2)
                    have HL3 := Lib.hid hP
                    have HLM3 := Lib.hid hM
                    clear SRC HB ho hP hM
                    go_wp2_with fail
                    clear hlt hj
                    have hm1 : M1 ≤ 40 := by have h1 := HLM1.out; have h2 : P1.length ≤ T.length := (by rw [HL1.out]; exact List.length_filter_le _ _); have h3 := HTL.out; omega
                    have TKF := L1_94
                    have ENF := O_93
                    go_loopw [144] (fun i wr => Rnd wr3 M1 i wr) (fun i _ => M1 - (intOf i).toNat)
                    case atStart => exact ⟨0, rfl, Nat.zero_le _, Below.refl _ _⟩
                    case round =>
                      obtain ⟨wr4, hwz⟩ : ∃ z, z = wr := ⟨_, rfl⟩
                      subst hwz
                      obtain ⟨j, rfl, hj, hb⟩ := hrel
                      have HB := Lib.hid hb
                      have hlen := TKF.out.len
                      by_cases hlt : j < M1
                      · as_aux_lemma =>
                          have hcr := TKF.out.then_ hb
                          obtain ⟨g1, o1, eA, _, hc1⟩ := hcr.at_ hlt
                          have a0 := hc1 j hlt
                          have hme := mem_getC (cs := P1) (j := j) (by omega)
                          obtain ⟨x, hx⟩ : ∃ x, x = P1.getD j 0 := ⟨_, rfl⟩
                          rw [← hx] at a0 hme
                          have hon := once_more (T := T) (N := NW) (E := EN) (by rw [HT.out]; exact Pl.num_nodup K) HSEL.out.2.2.2.1 ((HIN.out x).1 hme)
                          have HON := Lib.hid hon
                          have HMS := Lib.hid (show M1 - (j + 1) < M1 - j by omega)
                          have HJ1 := Lib.hid (show j + 1 ≤ M1 from hlt)
                          have HX := Lib.hid (indexC_any A7 N7 c7 EN x wr4 ((OwnC.then_ ENF.out hb).crs.2))
                          have z0 : (0 : Int) ≤ (j : Int) := Int.natCast_nonneg j
                          have z1 : (j : Int) < (M1 : Int) := Int.ofNat_lt.2 hlt
                          clear hcr hc1 hx hb hme hon
                          subst eA
                          go_wp2_with fail
                          refine HX.out.mono ?_
                          rintro e wq ⟨r, rfl, h, hbq⟩
                          rcases h with ⟨rfl, h⟩ | ⟨i, rfl, h, _⟩
                          · exfalso
                            obtain ⟨t, ht, et⟩ := List.getElem_of_mem HON.out.1
                            exact h t ht (by rw [List.getD_eq_getElem?_getD, List.getElem?_eq_getElem ht]; exact et)
                          · have hnd := HON.out.2 i h
                            have hil : i < EN.length := (List.getElem?_eq_some_iff.1 h).1
                            have henq := OwnC.then_ (OwnC.then_ ENF.out HB.out) hbq
                            have hen := henq.crs
                            have hin : i + 1 ≤ N7 := by omega
                            obtain ⟨g7, rfl, _⟩ := OwnC.pos_ henq (by omega)
                            obtain ⟨A9, hsl, hcr9⟩ := crs_from hen.2 (i + 1) hin ((i : Int) + 1) (by omega)
                            have hw1 : wrap64 ((i : Int) + 1) = (i : Int) + 1 := by unfold wrap64; omega
                            have HC9 := Lib.hid (has_any A9 (N7 - (i + 1)) (c7 - (i + 1)) _ x wq hcr9)
                            rw [decide_eq_false hnd] at HC9
                            have HBQ := Lib.hid (below_then HB.out hbq)
                            have y0 : ¬ (i : Int) < 0 := Int.not_lt.2 (Int.natCast_nonneg i)
                            have y1 : (0 : Int) ≤ (i : Int) + 1 := Int.natCast_nonneg (i + 1)
                            have y2 : (i : Int) + 1 ≤ (N7 : Int) := Int.ofNat_le.2 hin
                            clear hbq henq hen hcr9 hnd HX h hil
                            go_wp2_with fail
                            refine HC9.out.mono ?_
                            rintro e wz ⟨rfl, hbz⟩
                            have HBZ := Lib.hid (below_then HBQ.out hbz)
                            clear hbz hsl hw1 a0
                            go_wp2_with fail
                            go_roundw
                            case rel => exact ⟨j + 1, by go_num, HJ1.out, HBZ.out⟩
                            case measure => simp [intOf]; exact HMS.out
                      · as_aux_lemma =>
                          have hjn : j = M1 := by omega
                          clear hjn hlen TKF ENF
                          have T_98 := Lib.hid (Crs.then_ T_89.out hb)
                          have N_99 := Lib.hid (Crs.then_ N_90.out hb)
                          have H_100 := Lib.hid (Crs.then_ H_91.out hb)
                          have E_101 := Lib.hid (Crs.then_ E_92.out hb)
                          have O_102 := Lib.hid (OwnC.then_ O_93.out hb)
                          have L1_103 := Lib.hid (Crs.then_ L1_94.out hb)
                          have L2_104 := Lib.hid (Crs.then_ L2_95.out hb)
                          have L3_105 := Lib.hid (Crs.then_ L3_97.out hb)
                          have HB_106 := Lib.hid (below_then' HB_96.out hb HB_96.out.size)
                          clear T_89 N_90 H_91 E_92 O_93 L1_94 L2_95 L3_97 HB_96
                          clear HB hb
                          go_wp2_with fail
                          clear hlt hj
                          have SRC := E_101
                          have HST := Lib.hid (FlR.start wr4 EN (fun c => decide (c < 2000)))
                          go_loopw [28, 164] (fun s i wr5 => FlR wr4 EN (fun c => decide (c < 2000)) s i wr5) (fun _ i _ => N7 - (intOf i).toNat)
                          case atStart => exact HST.out
                          case round =>
                            clear HST
                            obtain ⟨wr5, hwz⟩ : ∃ z, z = wr := ⟨_, rfl⟩
                            subst hwz
                            obtain ⟨j, M5, AL5, cL5, P5, rfl, rfl, hP, hM, hj, ho, hb⟩ := hrel
                            have HB := Lib.hid hb
                            have HO := Lib.hid ho
                            have HMP := Lib.hid hM
                            have hlen := SRC.out.len
                            by_cases hlt : j < N7
                            · as_aux_lemma =>
                                have hjl : j < (EN).length := by rw [hlen]; exact hlt
                                have hcr := SRC.out.then_ hb
                                obtain ⟨g1, o1, eA, _, hc1⟩ := hcr.at_ hlt
                                have a0 := hc1 j hlt
                                have hxj := SRC.out.getJ j
                                have hM2 : M5 ≤ j := by rw [hM, hP]; exact fl_len
                                have hyes := fun h => fl_yes (cs := EN) (q := fun c => decide (c < 2000)) (j := j) hjl h
                                have hno := fun h => fl_no (cs := EN) (q := fun c => decide (c < 2000)) (j := j) hjl h
                                have HME := Lib.hid (mem_getC hjl)
                                obtain ⟨x, hx⟩ : ∃ x, x = (EN).getD j 0 := ⟨_, rfl⟩
                                rw [← hx] at a0 hxj hyes hno HME
                                rw [← hP] at hyes hno
                                have HXJ := Lib.hid hxj
                                have HYS := Lib.hid hyes
                                have HNS := Lib.hid hno
                                have HMS := Lib.hid (show N7 - (j + 1) < N7 - j by omega)
                                have HJ1 := Lib.hid (show j + 1 ≤ (EN).length from hjl)
                                have HCR := Lib.hid hcr
                                have z0 : (0 : Int) ≤ (j : Int) := Int.natCast_nonneg j
                                have z1 : (j : Int) < (N7 : Int) := Int.ofNat_lt.2 hlt
                                have hM3 : M5 ≤ 1000 := by omega
                                clear ho hb hM hP hcr hc1 hxj hyes hno hx hjl hM2 hj
                                subst eA
                                by_cases h2 : x < 2000
                                · have HYES := Lib.hid (HYS.out (by simpa using h2))
                                  have HSV := Lib.hid (show Crs (World.alloc wr5 (.cells #[.int .i32 x] 40)) (World.alloc wr5 (.cells #[.int .i32 x] 40)).heap.size (some ⟨wr5.heap.size, 0, none⟩) 1 1 [x] from (crs_lit wr5 [x] (fun y hy => by rw [List.mem_singleton.1 hy]; exact HXJ.out) (by simp [maxLen])).crs.2)
                                  have hbx := below_box wr5 (.cells #[.int .i32 x] 40)
                                  have HOV := Lib.hid (OwnC.then_ HO.out hbx)
                                  have HBV := Lib.hid (below_then HB.out hbx)
                                  have hsz := HBV.out.size
                                  clear hbx
                                  go_wp2_with (at_builtin; refine wpList_append_crs (World.alloc wr5 (.cells #[.int .i32 x] 40)) rfl (.tmp 170) (.tmp 172) rfl wr4.heap.size AL5 M5 cL5 P5 (by rfl) HOV.out _ (some ⟨wr5.heap.size, 0, none⟩) 1 1 [x] (by rfl) HSV.out (by omega) hsz ?_)
                                  intro A5 c5 w5 hO5 hg5 _
                                  have HO5 := Lib.hid (show OwnC w5 wr4.heap.size (.slice A5 (M5 + 1) c5) (P5 ++ [x]) from hO5)
                                  have HB5 := Lib.hid (below_appendC HOV.out hg5 HBV.out hsz)
                                  clear hO5 hg5 hsz HSV HOV HBV
                                  go_wp2_with fail
                                  go_roundw
                                  case rel => exact ⟨j + 1, M5 + 1, A5, c5, P5 ++ [x], by go_num, rfl, (HYES.out).symm, by rw [List.length_append, ← HMP.out]; rfl, HJ1.out, HO5.out, HB5.out⟩
                                  case measure => simp [intOf]; exact HMS.out
                                · have HNO := Lib.hid (HNS.out (by simpa using h2))
                                  go_wp2_with fail
                                  go_roundw
                                  case rel => exact ⟨j + 1, M5, AL5, cL5, P5, by go_num, rfl, (HNO.out).symm, HMP.out, HJ1.out, HO.out, HB.out⟩
                                  case measure => simp [intOf]; exact HMS.out
                            · as_aux_lemma =>
                                have hjn : (EN).take j = EN := List.take_of_length_le (by rw [hlen]; omega)
                                rw [hjn] at hP
                                clear hjn hlen HMP HO
                                have T_107 := Lib.hid (Crs.then_ T_98.out hb)
                                have N_108 := Lib.hid (Crs.then_ N_99.out hb)
                                have H_109 := Lib.hid (Crs.then_ H_100.out hb)
                                have E_110 := Lib.hid (Crs.then_ E_101.out hb)
                                have O_111 := Lib.hid (OwnC.then_ O_102.out hb)
                                have L1_112 := Lib.hid (Crs.then_ L1_103.out hb)
                                have L2_113 := Lib.hid (Crs.then_ L2_104.out hb)
                                have L3_114 := Lib.hid (Crs.then_ L3_105.out hb)
                                have HB_115 := Lib.hid (below_then' HB_106.out hb HB_106.out.size)
                                clear T_98 N_99 H_100 E_101 O_102 L1_103 L2_104 L3_105 HB_106
                                have L5_116 := Lib.hid (ho.crs.2)
                                have HL5 := Lib.hid hP
                                have HLM5 := Lib.hid hM
                                clear SRC HB ho hP hM
                                go_wp2_with fail
                                clear hlt hj
                                refine ((awake_any wr5)).mono ?_
                                rintro e w_117 ⟨rfl, hb⟩
                                have T_118 := Lib.hid (Crs.then_ T_107.out hb)
                                have N_119 := Lib.hid (Crs.then_ N_108.out hb)
                                have H_120 := Lib.hid (Crs.then_ H_109.out hb)
                                have E_121 := Lib.hid (Crs.then_ E_110.out hb)
                                have O_122 := Lib.hid (OwnC.then_ O_111.out hb)
                                have L1_123 := Lib.hid (Crs.then_ L1_112.out hb)
                                have L2_124 := Lib.hid (Crs.then_ L2_113.out hb)
                                have L3_125 := Lib.hid (Crs.then_ L3_114.out hb)
                                have L5_126 := Lib.hid (Crs.then_ L5_116.out hb)
                                have HB_127 := Lib.hid (below_then' HB_115.out hb HB_115.out.size)
                                clear T_107 N_108 H_109 E_110 O_111 L1_112 L2_113 L3_114 L5_116 HB_115
                                clear hb
                                go_wp2_with fail
                                have hq := equalC_any AL2 AL3 M2 cL2 M3 cL3 P2 P3 w_117 L2_124.out L3_125.out
                                rw [decide_eq_true (show P2 = P3 by
                                  rw [HL2.out, HL3.out, ← HSEL.out.2.2.1]
                                  refine List.filter_congr fun c _ => ?_
                                  rw [Bool.eq_iff_iff]
                                  simp [HIN.out c])] at hq
                                refine (hq).mono ?_
                                rintro e w_128 ⟨rfl, hb⟩
                                have T_129 := Lib.hid (Crs.then_ T_118.out hb)
                                have N_130 := Lib.hid (Crs.then_ N_119.out hb)
                                have H_131 := Lib.hid (Crs.then_ H_120.out hb)
                                have E_132 := Lib.hid (Crs.then_ E_121.out hb)
                                have O_133 := Lib.hid (OwnC.then_ O_122.out hb)
                                have L1_134 := Lib.hid (Crs.then_ L1_123.out hb)
                                have L2_135 := Lib.hid (Crs.then_ L2_124.out hb)
                                have L3_136 := Lib.hid (Crs.then_ L3_125.out hb)
                                have L5_137 := Lib.hid (Crs.then_ L5_126.out hb)
                                have HB_138 := Lib.hid (below_then' HB_127.out hb HB_127.out.size)
                                clear T_118 N_119 H_120 E_121 O_122 L1_123 L2_124 L3_125 L5_126 HB_127
                                clear hb hq
                                go_wp2_with fail
                                have hq := sorted_any AL5 M5 cL5 P5 w_128 L5_137.out (sorted_of (by rw [HL5.out]; exact HSEL.out.2.2.2.2) (List.Pairwise.sublist List.filter_sublist (by rw [HT.out]; exact Pl.num_sorted K))) (by have := HLM5.out; have := HN7.out; have h5 : P5.length ≤ EN.length := (by rw [HL5.out]; exact List.length_filter_le _ _); omega)
                                refine (hq).mono ?_
                                rintro e w_139 ⟨rfl, hb⟩
                                have T_140 := Lib.hid (Crs.then_ T_129.out hb)
                                have N_141 := Lib.hid (Crs.then_ N_130.out hb)
                                have H_142 := Lib.hid (Crs.then_ H_131.out hb)
                                have E_143 := Lib.hid (Crs.then_ E_132.out hb)
                                have O_144 := Lib.hid (OwnC.then_ O_133.out hb)
                                have L1_145 := Lib.hid (Crs.then_ L1_134.out hb)
                                have L2_146 := Lib.hid (Crs.then_ L2_135.out hb)
                                have L3_147 := Lib.hid (Crs.then_ L3_136.out hb)
                                have L5_148 := Lib.hid (Crs.then_ L5_137.out hb)
                                have HB_149 := Lib.hid (below_then' HB_138.out hb HB_138.out.size)
                                clear T_129 N_130 H_131 E_132 O_133 L1_134 L2_135 L3_136 L5_137 HB_138
                                clear hb hq
                                go_wp2_with fail
                                go_ret
                                exact ⟨rfl, HB_149.out⟩
end undoSelects
end Go.Proofs.Ytlnekhkdncccgaa
