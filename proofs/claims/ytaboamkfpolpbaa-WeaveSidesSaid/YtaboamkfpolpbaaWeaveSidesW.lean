/-
  The walk of WeaveSides: whatever length, whatever place and whatever row come in, it returns true; nothing that was there turned. Conditions: those that it states.
-/
import Derived.Test.YtaboamkfpolpbaaWvJ
namespace Go.Proofs.Ytaboamkfpolpbaa
open Go.RowKit
open Pl (Un)

namespace weaveSides
set_option maxRecDepth 100000 in
set_option maxHeartbeats 4000000 in
theorem walk (w : World) (n : Nat) (hn : n < 256) (pos : Nat) (hp : pos < 256) (B : Option Addr) (m d : Nat) (l : List Un) (hB : Units w w.heap.size B m d l) :
    Calls Try.prog 6 #[.int .u8 (n : Int), .int .u8 (pos : Int), .slice B m d] w fun e w' => e = .returned (.bool true) ∧ Below w.heap.size w w' := by
  obtain ⟨K, hK⟩ : ∃ K, K = n % 41 := ⟨_, rfl⟩
  have hK40 : K ≤ 40 := by omega
  have hk1 : (n : Int) % 41 = (K : Int) := by omega
  obtain ⟨a, ha⟩ : ∃ a, a = pos % (K + 1) := ⟨_, rfl⟩
  have haK : a ≤ K := by have := Nat.mod_lt pos (show 0 < K + 1 by omega); omega
  have hk2 : wrap64 ((K : Int) + 1) = ((K + 1 : Nat) : Int) := by unfold wrap64; omega
  have hk3 : (pos : Int) % ((K : Int) + 1) = (a : Int) := by rw [ha, Int.natCast_emod]; rfl
  have HK2 := Lib.hid hk2
  have HK3 := Lib.hid hk3
  have HK4 := Lib.hid (And.intro hK40 haK)
  have B_0 := Lib.hid hB.1
  have HUB := Lib.hid hB.2
  have HP := Lib.hid hp
  clear hB hK ha hk2 hk3 haK hK40 hp
  go_enter Try.func6, Try.ntmps6
  go_wp2_with fail
  rw [hk1]
  clear hk1 hn
  go_loopw [8, 25] (fun s i wr => TxR w K s i wr) (fun _ i _ => K - (intOf i).toNat)
  case atStart => exact ⟨0, none, 0, rfl, rfl, Nat.zero_le _, OwnC.nil_ _ _, Below.refl _ _⟩
  case round =>
    obtain ⟨j, A3, c3, rfl, rfl, hj, ho, hb⟩ := hrel
    have HB := Lib.hid hb
    have HO := Lib.hid ho
    have hK40 := HK4.out.1
    clear hb ho
    by_cases hlt : j < K
    · have hwa : wrap64 (1000 + (j : Int)) = 1000 + (j : Int) := by unfold wrap64; omega
      have hwc : IntKind.i32.wrap (1000 + (j : Int)) = 1000 + (j : Int) := by rw [IntKind.wrap_i32]; omega
      have z1 : (j : Int) < (K : Int) := by omega
      have hJ : Pl.J (1000 + (j : Int)) := by unfold Pl.J; omega
      have HJN := Lib.hid (show j + 1 ≤ K from hlt)
      have HSR := Lib.hid (show Crs (wr.alloc (.cells #[.int .i32 (1000 + (j : Int))] 30)) (wr.alloc (.cells #[.int .i32 (1000 + (j : Int))] 30)).heap.size (some ⟨wr.heap.size, 0, none⟩) 1 1 [1000 + (j : Int)] from (crs_lit wr [1000 + (j : Int)] (fun y hy => by simp at hy; rw [hy]; exact hJ) (by simp [maxLen])).crs.2)
      have HOW := Lib.hid (show OwnC (wr.alloc (.cells #[.int .i32 (1000 + (j : Int))] 30)) w.heap.size (.slice A3 j c3) (Pl.txt j) from OwnC.then_ HO.out (below_box wr _))
      have HBW := Lib.hid (below_then' HB.out (below_box wr (.cells #[.int .i32 (1000 + (j : Int))] 30)) HB.out.size)
      clear hJ
      go_wp2_with (at_builtin; refine wpList_append_crs (wr.alloc (.cells #[.int .i32 (1000 + (j : Int))] 30)) rfl (.tmp 28) (.tmp 32) rfl w.heap.size A3 j c3 (Pl.txt j) (by rfl) HOW.out _ (some ⟨wr.heap.size, 0, none⟩) 1 1 [1000 + (j : Int)] (by rfl) HSR.out (by omega) HBW.out.size ?_)
      intro A4 c4 w4 hO4 hg4 hat4
      have HO4 := Lib.hid (show OwnC w4 w.heap.size (.slice A4 (j + 1) c4) (Pl.txt (j + 1)) by rw [Pl.txt_succ]; exact hO4)
      have HB4 := Lib.hid (below_appendC HOW.out hg4 HBW.out HBW.out.size)
      clear hO4 hg4 hat4
      go_wp2_with fail
      go_roundw
      case rel => exact ⟨j + 1, A4, c4, by go_num, rfl, HJN.out, HO4.out, HB4.out⟩
      case measure => simp [intOf]; exact fi_meas hlt
    · have hjn : j = K := by omega
      subst hjn
      have T_0 := HO
      have hk2 := HK2.out
      have hk3 := HK3.out
      have hp := HP.out
      have hk5 : ¬ (j : Int) + 1 = 0 := by omega
      have haK := HK4.out.2
      have haK2 : (a : Int) ≤ (j : Int) := by omega
      clear HO hlt
      have B_00 := B_0
      clear B_0
      have B_0 := Lib.hid (Rws.then_ B_00.out HB.out)
      clear B_00
      have HTW := T_0
      obtain ⟨V0, hV0⟩ : ∃ V0 : World, V0 = wr := ⟨_, rfl⟩
      subst hV0
      go_wp2_with fail
      rw [hk3]
      have HBV := HB
      refine ((fit_any B m d l j 2 V0 B_0.out HUB.out (by omega))).mono ?_
      rintro e w_1 ⟨A1, c1, lb, rfl, hlb, ho, hbr, hb⟩
      clear B_0
      have T_2 := Lib.hid (OwnC.then_ T_0.out hb)
      have HB_3 := Lib.hid (below_then' HB.out hb HB.out.size)
      clear T_0 HB
      have LB_4 := Lib.hid (ho)
      have HBF := Lib.hid hb
      have HBR := Lib.hid hbr
      have HLN := Lib.hid hlb
      clear hb ho hbr hlb hk2 hk3 hp hk5
      obtain ⟨NB, hNB⟩ : ∃ k, k = lb.length := ⟨_, rfl⟩
      rw [← hNB] at LB_4 ⊢
      have HNB := Lib.hid hNB
      have hnb : NB ≤ 20 := by rw [hNB]; exact HLN.out
      clear hNB
      go_wp2_with fail
      have HR0 := Lib.hid (show PtR V0 (.slice A1 NB c1) lb (.int .i64 ((0 : Nat) : Int)) w_1 from ⟨0, rfl, Nat.zero_le _, LB_4.out, HBF.out⟩)
      go_loopw [45] (fun i wr => PtR V0 (.slice A1 NB c1) lb i wr) (fun i _ => NB - (intOf i).toNat)
      case atStart => exact HR0.out
      case round =>
        obtain ⟨t, rfl, ht, ho, hb⟩ := hrel
        have HB2 := Lib.hid hb
        have HO2 := Lib.hid ho
        rw [← HNB.out] at ht
        clear HR0
        by_cases hlt : t < NB
        · obtain ⟨g, rfl, hbg, hgw⟩ := OwnR.pos_ ho (by omega)
          obtain ⟨c0, c1', c2', c3', c4', f2⟩ := OwnU.cells ho hlt
          have hjl : t < lb.length := by rw [← HNB.out]; exact hlt
          have hpl : (Pl.paint 0 (lb.take t)).length = t := by rw [Pl.len_paint, List.length_take]; omega
          rw [list_at hpl t rfl] at c0 c1' c2' c3' c4'
          have hsn : Pl.paint 0 (lb.take (t + 1)) = Pl.paint 0 (lb.take t) ++ [if (lb.getD t default).k = 1 then ⟨(lb.getD t default).k, (lb.getD t default).p, 2000 + (t : Int), (lb.getD t default).x, (lb.getD t default).y⟩ else lb.getD t default] := by
            rw [List.take_add_one, getD_of_get hjl, Option.toList_some, Pl.paint_snoc, List.length_take, show 0 + min t lb.length = t by omega]
          have hst : ∀ u, (Pl.paint 0 (lb.take t) ++ lb.drop t).set t u = (Pl.paint 0 (lb.take t) ++ [u]) ++ lb.drop (t + 1) := fun u => list_set hpl hjl u
          obtain ⟨⟨k, p, ch, x1, y1⟩, hu⟩ : ∃ u, u = lb.getD t default := ⟨_, rfl⟩
          rw [← hu] at c0 c1' c2' c3' c4' hsn
          simp only at c0 c1' c2' c3' c4' hsn
          have hself : Pl.paint 0 (lb.take t) ++ lb.drop t = (Pl.paint 0 (lb.take t) ++ [⟨k, p, ch, x1, y1⟩]) ++ lb.drop (t + 1) := by
            rw [← hst ⟨k, p, ch, x1, y1⟩, hu]
            exact (List.ext_getElem? fun i => by
              rw [List.getElem?_set]
              split
              · rename_i e; subst e
                rw [if_pos (by rw [List.length_append, hpl, List.length_drop]; omega), List.getElem?_append_right (by omega), hpl, Nat.sub_self, List.getElem?_drop, Nat.add_zero, getD_of_get hjl]
              · rfl)
          have z4 : (0 : Int) ≤ (t : Int) := Int.natCast_nonneg t
          have z5 : (t : Int) < (NB : Int) := Int.ofNat_lt.2 hlt
          have HMS := Lib.hid (fi_meas hlt)
          have HJN := Lib.hid (show t + 1 ≤ lb.length from hjl)
          have hw0 : wrap64 (2000 + (t : Int)) = 2000 + (t : Int) := by unfold wrap64; omega
          have hw1 : IntKind.i32.wrap (2000 + (t : Int)) = 2000 + (t : Int) := by rw [IntKind.wrap_i32]; omega
          clear ho hb hpl hu hjl
          by_cases h1 : k = 1
          · subst h1
            have HNX := Lib.hid (show (Pl.paint 0 (lb.take t) ++ lb.drop t).set t ⟨1, p, 2000 + (t : Int), x1, y1⟩ = Pl.paint 0 (lb.take (t + 1)) ++ lb.drop (t + 1) from by rw [hst, hsn, if_pos rfl])
            have hx := OwnR.set_ encU_len HO2.out t 2 (.int .i32 (2000 + (t : Int))) (by decide) ⟨1, p, ch, x1, y1⟩ ⟨1, p, 2000 + (t : Int), x1, y1⟩ (by rw [hself, List.append_assoc, List.getElem?_append_right (by rw [Pl.len_paint, List.length_take]; omega), Pl.len_paint, List.length_take, show t - min t lb.length = 0 by have := HJN.out; omega]; rfl) rfl
            rw [HNX.out] at hx
            have HO3 := Lib.hid hx.1
            have HB3 := Lib.hid (HB2.out.grown hx.2 HB2.out.size (fun k e => by cases e; exact hbg))
            clear hsn hst hself hx
            go_wp2_with fail
            go_roundw
            case rel => exact ⟨t + 1, by go_num, HJN.out, HO3.out, HB3.out⟩
            case measure => simp [intOf]; exact HMS.out
          · have hk : (k == 1) = false := by simpa using h1
            have HNX := Lib.hid (show Pl.paint 0 (lb.take t) ++ lb.drop t = Pl.paint 0 (lb.take (t + 1)) ++ lb.drop (t + 1) from by rw [hself, hsn, if_neg h1])
            clear hsn hst hself
            go_wp2_with fail
            go_roundw
            case rel => exact ⟨t + 1, by go_num, HJN.out, by rw [← HNX.out]; exact HO2.out, HB2.out⟩
            case measure => simp [intOf]; exact HMS.out
        · have htn : t = lb.length := by have := HNB.out; omega
          rw [htn, List.take_length, List.drop_length, List.append_nil] at ho
          have htn2 : t = NB := by omega
          clear htn
          subst htn2
          clear T_2 LB_4 HB_3
          have T_900 := Lib.hid (OwnC.then_ HTW.out hb)
          have P_901 := Lib.hid ho
          have HB_902 := Lib.hid (below_then' HBV.out hb HBV.out.size)
          clear HTW HBV HBF hb ho HO2 HB2
          have HPB := Lib.hid (Pl.br_paint (s := 0) HBR.out (by have := HLN.out; omega))
          have HPL := Lib.hid (show (Pl.paint 0 lb).length = t from (Pl.len_paint 0 lb).trans HNB.out.symm)
          have HFR := Lib.hid (Pl.br_fit HPB.out (Pl.len_txt j))
          have HST := Lib.hid (Pl.br_strange Pl.pt_strange HPB.out)
          obtain ⟨q, hq1, hq2, hq3⟩ := Pl.side_cut (Pl.paint 0 lb) (a : Int) 1 1 1 (by unfold Pl.May; omega) (Pl.txt j) a (by rw [Pl.len_txt, Pl.len_paint]; have := HLN.out; omega) HFR.out HST.out (Pl.cut_txt j a) (by rw [Pl.len_txt]; exact haK)
          have HQ := Lib.hid hq1
          have HQ2 := Lib.hid hq2
          have HQ3 := Lib.hid hq3
          clear hq1 hq2 hq3 hlt
          go_wp2_with fail
          refine ((ins_any (a : Int) 1 1 wr)).mono ?_
          rintro e w_904 ⟨rfl, hb⟩
          have T_905 := Lib.hid (OwnC.then_ T_900.out hb)
          have P_906 := Lib.hid (OwnR.then_ P_901.out hb)
          have HB_907 := Lib.hid (below_then' HB_902.out hb HB_902.out.size)
          clear T_900 P_901 HB_902
          clear hb
          unfold uval; simp only
          obtain ⟨w_908, hw⟩ : ∃ x, x = w_904.alloc (.cells #[.int .i64 1, .int .i64 (a : Int), .int .i32 1, .int .u32 1, .int .u64 1] 36) := ⟨_, rfl⟩
          have hx : OwnU (w_904.alloc (.cells #[.int .i64 1, .int .i64 (a : Int), .int .i32 1, .int .u32 1, .int .u64 1] 36)) w_904.heap.size (.slice (some ⟨w_904.heap.size, 0, none⟩) 1 1) [⟨1, (a : Int), 1, 1, 1⟩] := units_lit w_904 [⟨1, (a : Int), 1, 1, 1⟩] (by simp [maxLen])
          have hb : Below w_904.heap.size w_904 w_908 := by rw [hw]; exact below_box _ _
          rw [← hw] at hx
          have HWw_908 := Lib.hid hw
          have HSw_908 := Lib.hid (show w_908.heap.size = w_904.heap.size + 1 by rw [hw]; simp)
          have T_909 := Lib.hid (OwnC.then_ T_905.out hb)
          have P_910 := Lib.hid (OwnR.then_ P_906.out hb)
          have HB_911 := Lib.hid (below_then' HB_907.out hb HB_907.out.size)
          clear T_905 P_906 HB_907
          have X_912 := Lib.hid (hx)
          clear hw hx hb
          obtain ⟨w_913, hw⟩ : ∃ x, x = w_908.alloc (.cells #[.slice A1 t c1] 22) := ⟨_, rfl⟩
          have hx : RowsV (w_908.alloc (.cells #[.slice A1 t c1] 22)) (some ⟨w_908.heap.size, 0, none⟩) [⟨A1, t, c1, Pl.paint 0 lb⟩] := rows_one w_908 ⟨A1, t, c1, Pl.paint 0 lb⟩ (OwnU.uns P_910.out) (show t ≤ 1000 by omega)
          have hb : Below w_908.heap.size w_908 w_913 := by rw [hw]; exact below_box _ _
          rw [← hw] at hx
          have HWw_913 := Lib.hid hw
          have HSw_913 := Lib.hid (show w_913.heap.size = w_908.heap.size + 1 by rw [hw]; simp)
          have T_914 := Lib.hid (OwnC.then_ T_909.out hb)
          have P_915 := Lib.hid (OwnR.then_ P_910.out hb)
          have X_916 := Lib.hid (OwnR.then_ X_912.out hb)
          have HB_917 := Lib.hid (below_then' HB_911.out hb HB_911.out.size)
          clear T_909 P_910 X_912 HB_911
          have R_918 := Lib.hid (hx)
          clear hw hx hb
          rw [HSw_908.out] at R_918
          have HWL := Lib.hid (show w_913 = (w_904.alloc (.cells #[.int .i64 1, .int .i64 (a : Int), .int .i32 1, .int .u32 1, .int .u64 1] 36)).alloc (.cells #[.slice A1 t c1] 22) from by rw [HWw_913.out, HWw_908.out])
          go_wp2_with fail
          rw [← HWL.out]
          have HPR := Lib.hid (show Pl.pastR [⟨1, (a : Int), 1, 1, 1⟩] [Pl.paint 0 lb] = [⟨1, (q : Int), 1, 1, 1⟩] from by
            show [(Pl.thru ⟨1, (a : Int), 1, 1, 1⟩ (Pl.paint 0 lb)).1] = _
            rw [HQ.out])
          have hpc := past_any _ 1 1 [⟨1, (a : Int), 1, 1, 1⟩] _ 1 [⟨A1, t, c1, Pl.paint 0 lb⟩] w_913 (OwnU.uns X_916.out) R_918.out (by decide) (by simp)
          simp only [List.map_cons, List.map_nil] at hpc
          rw [HPR.out] at hpc
          refine (hpc).mono ?_
          rintro e w_919 ⟨A5, c5, rfl, ho, hb⟩
          have T_920 := Lib.hid (OwnC.then_ T_914.out hb)
          have P_921 := Lib.hid (OwnR.then_ P_915.out hb)
          have X_922 := Lib.hid (OwnR.then_ X_916.out hb)
          have R_923 := Lib.hid (RowsV.then_ R_918.out hb)
          have HB_924 := Lib.hid (below_then' HB_917.out hb HB_917.out.size)
          clear T_914 P_915 X_916 R_918 HB_917
          clear X_922
          clear R_923
          have X_925 := Lib.hid (ho)
          clear hb ho hpc
          simp only [List.length_cons, List.length_nil, Nat.zero_add] at X_925 ⊢
          go_wp2_with fail
          refine ((applyR_fit _ j _ (Pl.txt j) _ _ _ (Pl.paint 0 lb) w_919 (by have h := (OwnC.crs T_920.out).2; exact h) (OwnU.uns P_921.out) (by omega) (by omega) HFR.out)).mono ?_
          rintro e w_926 ⟨A6, c6, rfl, ho, hb⟩
          have T_927 := Lib.hid (OwnC.then_ T_920.out hb)
          have P_928 := Lib.hid (OwnR.then_ P_921.out hb)
          have X_929 := Lib.hid (OwnR.then_ X_925.out hb)
          have HB_930 := Lib.hid (below_then' HB_924.out hb HB_924.out.size)
          clear T_920 P_921 X_925 HB_924
          have hc := ho.crs.2
          have Q_931 := Lib.hid (hc)
          clear T_927
          clear P_928
          clear hb ho hc
          obtain ⟨TQ, hTQ⟩ : ∃ k, k = Pl.leave (Pl.paint 0 lb) (Pl.txt j) := ⟨_, rfl⟩
          rw [← hTQ] at HQ2 HQ3 Q_931 ⊢
          have HTQ := Lib.hid hTQ
          clear hTQ
          have hlen : TQ.length ≤ 100 := by
            have h := Pl.len_leave_le HFR.out
            rw [← HTQ.out, Pl.len_txt, Pl.len_paint] at h
            have := HLN.out
            omega
          obtain ⟨N, hN⟩ : ∃ k, k = TQ.length := ⟨_, rfl⟩
          rw [← hN] at hlen HQ2 Q_931 ⊢
          have HN := Lib.hid hN
          clear hN
          have HFX := Lib.hid (show Pl.FitR [⟨1, (q : Int), 1, 1, 1⟩] TQ from ⟨by rw [← HN.out]; exact Pl.fit_ins 1 1 HQ2.out (by unfold Pl.May; omega), trivial⟩)
          have HLX := Lib.hid (show Pl.leave [⟨1, (q : Int), 1, 1, 1⟩] TQ = Pl.insL q 1 TQ from Pl.behind_ins q 1 1 1 TQ)
          have HLL := Lib.hid (show (Pl.insL q 1 TQ).length = N + 1 from by rw [Pl.len_insL (by rw [← HN.out]; exact HQ2.out), HN.out])
          go_wp2_with fail
          have hap := applyR_fit A6 N c6 TQ A5 1 c5 [⟨1, (q : Int), 1, 1, 1⟩] w_926 Q_931.out (OwnU.uns X_929.out) (by omega) (by decide) HFX.out
          rw [HLX.out, HLL.out] at hap
          refine (hap).mono ?_
          rintro e w_932 ⟨A7, c7, rfl, ho, hb⟩
          have X_933 := Lib.hid (OwnR.then_ X_929.out hb)
          have Q_934 := Lib.hid (Crs.then_ Q_931.out hb)
          have HB_935 := Lib.hid (below_then' HB_930.out hb HB_930.out.size)
          clear X_929 Q_931 HB_930
          have hc := ho.crs.2
          clear Q_934
          clear X_933
          have V_936 := Lib.hid (hc)
          clear hb ho hc hap
          go_wp2_with fail
          refine ((indexC_any A7 (N + 1) c7 _ 1 w_932 V_936.out)).mono ?_
          rintro e w_937 ⟨r, rfl, hr, hb⟩
          have V_938 := Lib.hid (Crs.then_ V_936.out hb)
          have HB_939 := Lib.hid (below_then' HB_935.out hb HB_935.out.size)
          clear V_936 HB_935
          clear hb
          have hrq : r = (q : Int) := by
            rcases hr with ⟨_, h⟩ | ⟨i, e, h1, h2⟩
            · exact absurd h (Pl.has_one (by rw [← HN.out]; exact HQ2.out))
            · rw [e, Pl.first_one (by rw [← HN.out]; exact HQ2.out) (by rw [HTQ.out]; exact Pl.no_one HPB.out) h1 h2]
          clear hr
          subst hrq
          have HCV := Lib.hid (Pl.cut_ins (pos' := q) HQ3.out (by rw [← HN.out]; exact HQ2.out) (show ¬ (1000 ≤ (1 : Int) ∧ (1 : Int) < 2000) by omega) (Or.inr (Or.inl ⟨rfl, Or.inl rfl⟩)))
          have z8 : ¬ ((q : Int) < 0) := by omega
          obtain ⟨M, hM⟩ : ∃ M, M = N + 1 := ⟨_, rfl⟩
          have hMM : (M : Int) = (N : Int) + 1 := by omega
          rw [← hM] at V_938 HLL ⊢
          have HM := Lib.hid hM
          have hcap := (V_938.out).cap
          have hle := (V_938.out).le
          unfold maxLen at hcap
          clear hM hMM
          go_wp2_with fail
          go_loopw [92] (fun i wr => SeR w_937 M i wr) (fun i _ => M - (intOf i).toNat)
          case atStart => exact ⟨0, rfl, Nat.zero_le _, Below.refl _ _⟩
          case round =>
            obtain ⟨t, rfl, ht, hb⟩ := hrel
            have HB2 := Lib.hid hb
            by_cases hlt : t < M
            · obtain ⟨g, o, rfl, hg, hc⟩ := ((V_938.out).below hb (Nat.le_refl _)).at_ hlt
              have a0 := hc t hlt
              have hJ := (V_938.out).getJ t
              obtain ⟨x, hx⟩ : ∃ x, x = (Pl.insL q 1 TQ).getD t 0 := ⟨_, rfl⟩
              have hcut := HCV.out t x (by rw [hx]; exact get_of_getD (by rw [HLL.out]; exact hlt))
              rw [← hx] at a0 hJ
              unfold Pl.J at hJ
              have hw0 : wrap64 x = x := by unfold wrap64; omega
              have hw1 : wrap64 (x - 1000) = x - 1000 := by unfold wrap64; omega
              have z4 : (0 : Int) ≤ (t : Int) := Int.natCast_nonneg t
              have z5 : (t : Int) < (M : Int) := Int.ofNat_lt.2 hlt
              have HMS := Lib.hid (fi_meas hlt)
              have HJN := Lib.hid (show t + 1 ≤ M from hlt)
              clear hc hx hb
              by_cases h1 : 1000 ≤ x
              · by_cases h2 : x < 2000
                · have h3 := hcut h1 h2
                  clear hcut hJ
                  by_cases h4 : x - 1000 < (a : Int)
                  · have h5 : (t : Int) < (q : Int) := Int.ofNat_lt.2 (h3.1 (by omega))
                    clear h3
                    go_wp2_with fail
                    go_roundw
                    case rel => exact ⟨t + 1, by go_num, HJN.out, HB2.out⟩
                    case measure => simp [intOf]; exact HMS.out
                  · have h5 : (q : Int) ≤ (t : Int) := Int.not_lt.1 fun h => h4 (by have := h3.2 (Int.ofNat_lt.1 h); omega)
                    replace h4 := Int.not_lt.1 h4
                    have h6 : ¬ (t : Int) < (q : Int) := Int.not_lt.2 h5
                    have h7 : ¬ x - 1000 < (a : Int) := Int.not_lt.2 h4
                    clear h3
                    go_wp2_with fail
                    go_roundw
                    case rel => exact ⟨t + 1, by go_num, HJN.out, HB2.out⟩
                    case measure => simp [intOf]; exact HMS.out
                · clear hcut hJ
                  go_wp2_with fail
                  go_roundw
                  case rel => exact ⟨t + 1, by go_num, HJN.out, HB2.out⟩
                  case measure => simp [intOf]; exact HMS.out
              · clear hcut hJ
                go_wp2_with fail
                go_roundw
                case rel => exact ⟨t + 1, by go_num, HJN.out, HB2.out⟩
                case measure => simp [intOf]; exact HMS.out
            · clear hb
              have HB3 := Lib.hid (below_then' HB_939.out HB2.out HB_939.out.size)
              go_wp2_with fail
              refine (awake_any _).mono ?_
              rintro e w9 ⟨rfl, hb⟩
              have HB4 := Lib.hid (below_then' HB3.out hb HB3.out.size)
              clear hb
              go_wp2_with fail
              go_ret
              exact ⟨rfl, HB4.out⟩
end weaveSides
end Go.Proofs.Ytaboamkfpolpbaa
