/-
  The walk of EditClean: whatever text and row come in, it returns true; nothing that was there turned. Conditions: those that it states.
-/
import Derived.Test.YthnenmglmebljaaEdU
import Derived.BigQuiet
namespace Go.Proofs.Ythnenmglmebljaa
open Go.RowKit
open Pl (Un)

namespace editClean
/-- ahead: how many Nops -/
def NoR (w1 w : World) (l : List Un) (s i : Value) (wr : World) : Prop := ∃ j : Nat, i = .int .i64 (j : Int) ∧ s = .int .i64 ((Pl.nops (l.take j) : Nat) : Int) ∧ j ≤ l.length ∧ Below w1.heap.size w1 wr ∧ Below w.heap.size w wr
theorem nops_le (l : List Un) : Pl.nops l ≤ l.length := by unfold Pl.nops; exact List.length_filter_le _ _
theorem nops_take {l : List Un} {j : Nat} (hj : j < l.length) : Pl.nops (l.take (j + 1)) = if (l.getD j default).k = 0 then Pl.nops (l.take j) + 1 else Pl.nops (l.take j) := by
  rw [take_snoc hj, Pl.nops_snoc]
set_option maxRecDepth 100000 in
set_option maxHeartbeats 4000000 in
theorem walk (w : World) (A : Option Addr) (n c : Nat) (cs0 : List Int) (hA : Crs w w.heap.size A n c cs0) (R : Option Addr) (q d : Nat) (l : List Un) (hB : Units w w.heap.size R q d l) :
    Calls Try.prog 6 #[.slice A n c, .slice R q d] w fun e w' => e = .returned (.bool true) ∧ Below w.heap.size w w' := by
  obtain ⟨K, hK⟩ : ∃ K, K = min n 100 := ⟨_, rfl⟩
  obtain ⟨Q, hQ⟩ : ∃ K, K = min q 100 := ⟨_, rfl⟩
  have m1 : (if (100 : Int) < (n : Int) then (100 : Int) else (n : Int)) = (K : Int) := by split <;> omega
  have m2 : (if (100 : Int) < (q : Int) then (100 : Int) else (q : Int)) = (Q : Int) := by split <;> omega
  have s1 := slice_toC A n c K (by have := hA.le; omega)
  have s2 := slice_toU R q d Q (by have := hB.1.le; omega)
  obtain ⟨cs, hcs⟩ : ∃ x, x = cs0.take K := ⟨_, rfl⟩
  obtain ⟨la, hla⟩ : ∃ x, x = l.take Q := ⟨_, rfl⟩
  have hUB : Units w w.heap.size R Q d la := by rw [hla]; exact hB.upto (by omega)
  have A_0 := Lib.hid (show Crs w w.heap.size A K c cs by rw [hcs]; exact hA.upto (by omega))
  have B_0 := Lib.hid hUB.1
  have HIB := Lib.hid (units_I hUB).2
  have HIC := Lib.hid (show ∀ u ∈ Pl.cleanL la, Pl.J u.c from fun u hu => HIB.out u (List.mem_filter.1 hu).1)
  have hk1 : K ≤ 100 := by omega
  have hk2 : Q ≤ 100 := by omega
  have HLB := Lib.hid B_0.out.len
  have HLN := Lib.hid (Pl.len_clean la)
  have HGC := Lib.hid (Pl.grows_clean la)
  have HCC := Lib.hid (Pl.clean_clean la)
  have HLV := Lib.hid (Pl.leave_clean la cs)
  have HFC := Lib.hid (Pl.fit_clean la cs)
  obtain ⟨lc, hlc⟩ : ∃ lc, lc = Pl.cleanL la := ⟨_, rfl⟩
  rw [← hlc] at HIC HLN HGC HCC HLV HFC
  obtain ⟨nc, hnc⟩ : ∃ nc, nc = lc.length := ⟨_, rfl⟩
  obtain ⟨z, hz⟩ : ∃ z, z = Pl.nops la := ⟨_, rfl⟩
  rw [← hnc, ← hz, HLB.out] at HLN
  have HLC := Lib.hid hlc
  have HNC := Lib.hid hnc
  have HZ := Lib.hid hz
  have hz1 : z ≤ Q := by have := HLN.out; omega
  have hnc1 : nc ≤ 100 := by have := HLN.out; omega
  clear hA hB hK hQ hcs hla hUB hlc hnc hz
  go_enter Try.func6, Try.ntmps6
  go_wp2_with fail
  go_quiet (fail)
  obtain ⟨w0, hw0⟩ : ∃ x, x = w.drewN nq := ⟨_, rfl⟩
  have HB0 := Lib.hid (show Below w.heap.size w w0 by rw [hw0]; exact below_drewN (Below.refl _ _) _)
  have A_1 := Lib.hid (Crs.then_ A_0.out HB0.out)
  have B_1 := Lib.hid (Rws.then_ B_0.out HB0.out)
  have HW0 := Lib.hid hw0
  clear A_0 B_0 hw0
  go_wp2_with fail
  rw [← HW0.out]
  clear m1 m2 s1 s2
  refine (clean_any R Q d la w0 B_1.out (by omega)).mono ?_
  rintro e w_2 ⟨C1, C2, rfl, ho, hb⟩
  have A_3 := Lib.hid (Crs.then_ A_1.out hb)
  have B_4 := Lib.hid (Rws.then_ B_1.out hb)
  have HB_5 := Lib.hid (below_then' HB0.out hb HB0.out.size)
  clear A_1 B_1 HB0
  rw [← HLC.out] at ho ⊢
  rw [← HNC.out] at ho ⊢
  have C_6 := Lib.hid (ho)
  clear hb ho
  go_wp2_with fail
  go_loopw [6, 7] (fun s i wr => NoR w_2 w la s i wr) (fun _ i _ => Q - (intOf i).toNat)
  case atStart => exact ⟨0, rfl, rfl, Nat.zero_le _, Below.refl _ _, HB_5.out⟩
  case round =>
    obtain ⟨j, rfl, rfl, hj, hbb, hb⟩ := hrel
    have HBB := Lib.hid hbb
    have HB := Lib.hid hb
    rw [HLB.out] at hj
    clear hbb hb
    by_cases hlt : j < Q
    · have hjl : j < la.length := by rw [HLB.out]; exact hlt
      obtain ⟨g, o, rfl, _, hc⟩ := Uns.at_ (Rws.then_ B_4.out HBB.out) hlt
      have a0 := (hc j hlt).1
      have hs1 := nops_take hjl
      have hs2 := nops_le (la.take j)
      rw [List.length_take] at hs2
      obtain ⟨u, hu⟩ : ∃ u, u = la.getD j default := ⟨_, rfl⟩
      rw [← hu] at a0 hs1
      obtain ⟨k, p, ch, x, y⟩ := u
      simp only at a0 hs1
      obtain ⟨S, hS⟩ : ∃ S, S = Pl.nops (la.take j) := ⟨_, rfl⟩
      rw [← hS] at hs1 hs2
      have hb1 : S ≤ 100 := by omega
      have z0 : (0 : Int) ≤ (j : Int) := Int.natCast_nonneg j
      have z1 : (j : Int) < (Q : Int) := Int.ofNat_lt.2 hlt
      have HMS := Lib.hid (show Q - (j + 1) < Q - j by omega)
      have HJ1 := Lib.hid (show j + 1 ≤ la.length from hjl)
      rw [← hS]
      clear hc hu hs2 hS
      by_cases hk : k = 0
      · have HSN := Lib.hid (show Value.int .i64 ((S : Int) + 1) = .int .i64 ((Pl.nops (la.take (j + 1)) : Nat) : Int) by rw [hs1, if_pos hk, Int.natCast_add]; rfl)
        subst hk
        clear hs1
        go_wp2_with fail
        go_roundw
        case rel => exact ⟨j + 1, by go_num, HSN.out, HJ1.out, HBB.out, HB.out⟩
        case measure => simp [intOf]; exact HMS.out
      · have HSN := Lib.hid (show Value.int .i64 (S : Int) = .int .i64 ((Pl.nops (la.take (j + 1)) : Nat) : Int) by rw [hs1, if_neg hk])
        have hkb : (k == 0) = false := by simpa using hk
        clear hs1 hk
        go_wp2_with fail
        go_roundw
        case rel => exact ⟨j + 1, by go_num, HSN.out, HJ1.out, HBB.out, HB.out⟩
        case measure => simp [intOf]; exact HMS.out
    · obtain rfl : j = Q := by omega
      have hsN : Pl.nops (la.take j) = z := by rw [← HLB.out, List.take_length, HZ.out]
      rw [hsN]
      clear hsN
      have hne : ((nc : Int) != (j : Int) - (z : Int)) = false := by
        have e : (nc : Int) = (j : Int) - (z : Int) := by have := HLN.out; omega
        rw [e]; simp
      have A_7 := Lib.hid (Crs.then_ A_3.out HBB.out)
      have B_8 := Lib.hid (Rws.then_ B_4.out HBB.out)
      have C_9 := Lib.hid (OwnR.then_ C_6.out HBB.out)
      have HB_10 := Lib.hid (below_then' HB_5.out HBB.out HB_5.out.size)
      clear A_3 B_4 C_6 HB_5
      obtain ⟨gg, hgg⟩ : ∃ g, g = Pl.growsL la := ⟨_, rfl⟩
      have HGG := Lib.hid hgg
      have HGG2 := Lib.hid (show Pl.growsL lc = gg by rw [HGC.out, hgg])
      clear hgg
      go_wp2_with fail
      refine (growsL_any _ nc _ lc wr (OwnU.uns C_9.out) (by omega)).mono ?_
      rintro e w_11 ⟨rfl, hb⟩
      have A_12 := Lib.hid (Crs.then_ A_7.out hb)
      have B_13 := Lib.hid (Rws.then_ B_8.out hb)
      have C_14 := Lib.hid (OwnR.then_ C_9.out hb)
      have HB_15 := Lib.hid (below_then' HB_10.out hb HB_10.out.size)
      clear A_7 B_8 C_9 HB_10
      clear hb
      rw [HGG2.out]
      go_wp2_with fail
      refine (growsL_any _ j d la w_11 B_13.out (by omega)).mono ?_
      rintro e w_16 ⟨rfl, hb⟩
      have A_17 := Lib.hid (Crs.then_ A_12.out hb)
      have B_18 := Lib.hid (Rws.then_ B_13.out hb)
      have C_19 := Lib.hid (OwnR.then_ C_14.out hb)
      have HB_20 := Lib.hid (below_then' HB_15.out hb HB_15.out.size)
      clear A_12 B_13 C_14 HB_15
      clear hb
      rw [← HGG.out]
      go_wp2_with fail
      refine (clean_any _ nc _ lc w_16 (OwnU.uns C_19.out) (by omega)).mono ?_
      rintro e w_21 ⟨D1, D2, rfl, ho, hb⟩
      have A_22 := Lib.hid (Crs.then_ A_17.out hb)
      have B_23 := Lib.hid (Rws.then_ B_18.out hb)
      have C_24 := Lib.hid (OwnR.then_ C_19.out hb)
      have HB_25 := Lib.hid (below_then' HB_20.out hb HB_20.out.size)
      clear A_17 B_18 C_19 HB_20
      rw [HCC.out] at ho ⊢
      rw [← HNC.out] at ho ⊢
      have D_26 := Lib.hid (ho)
      clear hb ho
      have hq := same_any _ _ _ _ _ _ lc lc w_21 (OwnU.uns D_26.out) (OwnU.uns C_24.out)
      rw [decide_eq_true rfl] at hq
      go_wp2_with fail
      refine (hq).mono ?_
      rintro e w_27 ⟨rfl, hb⟩
      have A_28 := Lib.hid (Crs.then_ A_22.out hb)
      have B_29 := Lib.hid (Rws.then_ B_23.out hb)
      have C_30 := Lib.hid (OwnR.then_ C_24.out hb)
      have D_31 := Lib.hid (OwnR.then_ D_26.out hb)
      have HB_32 := Lib.hid (below_then' HB_25.out hb HB_25.out.size)
      clear A_22 B_23 C_24 D_26 HB_25
      clear hb hq
      clear D_31
      go_wp2_with fail
      refine (apply8_any _ j d la A K c cs w_27 B_29.out A_28.out (by omega) HIB.out).mono ?_
      rintro e w_33 ⟨hb, ⟨hnf, rfl⟩ | ⟨hf, X, m, cx, rfl, hx⟩⟩
      · have hnn := hnf
        clear hnf hnn
        have A_34 := Lib.hid (Crs.then_ A_28.out hb)
        have B_35 := Lib.hid (Rws.then_ B_29.out hb)
        have C_36 := Lib.hid (OwnR.then_ C_30.out hb)
        have HB_37 := Lib.hid (below_then' HB_32.out hb HB_32.out.size)
        clear A_28 B_29 C_30 HB_32
        clear hb
        go_wp2_with fail
        refine (apply8_any _ nc _ lc A K c cs w_33 (OwnU.uns C_36.out) A_34.out (by omega) HIC.out).mono ?_
        rintro e w_38 ⟨hb, ⟨_, rfl⟩ | ⟨_, Y, my, cy, rfl, hy⟩⟩
        · have hb1 := hb
          have A_39 := Lib.hid (Crs.then_ A_34.out hb1)
          have B_40 := Lib.hid (Rws.then_ B_35.out hb1)
          have C_41 := Lib.hid (OwnR.then_ C_36.out hb1)
          have HB_42 := Lib.hid (below_then' HB_37.out hb1 HB_37.out.size)
          clear A_34 B_35 C_36 HB_37
          clear hb hb1
          go_wp2_with fail
          refine (awake_any w_38).mono ?_
          rintro e w_43 ⟨rfl, hb⟩
          have A_44 := Lib.hid (Crs.then_ A_39.out hb)
          have B_45 := Lib.hid (Rws.then_ B_40.out hb)
          have C_46 := Lib.hid (OwnR.then_ C_41.out hb)
          have HB_47 := Lib.hid (below_then' HB_42.out hb HB_42.out.size)
          clear A_39 B_40 C_41 HB_42
          clear hb
          go_wp2_with fail
          go_ret
          exact ⟨rfl, HB_47.out⟩
        · have hb1 := hb
          have A_48 := Lib.hid (Crs.then_ A_34.out hb1)
          have B_49 := Lib.hid (Rws.then_ B_35.out hb1)
          have C_50 := Lib.hid (OwnR.then_ C_36.out hb1)
          have HB_51 := Lib.hid (below_then' HB_37.out hb1 HB_37.out.size)
          clear A_34 B_35 C_36 HB_37
          clear hb hb1 hy
          go_wp2_with fail
          refine (awake_any w_38).mono ?_
          rintro e w_52 ⟨rfl, hb⟩
          have A_53 := Lib.hid (Crs.then_ A_48.out hb)
          have B_54 := Lib.hid (Rws.then_ B_49.out hb)
          have C_55 := Lib.hid (OwnR.then_ C_50.out hb)
          have HB_56 := Lib.hid (below_then' HB_51.out hb HB_51.out.size)
          clear A_48 B_49 C_50 HB_51
          clear hb
          go_wp2_with fail
          go_ret
          exact ⟨rfl, HB_56.out⟩
      · have HF := Lib.hid hf
        have A_34 := Lib.hid (Crs.then_ A_28.out hb)
        have B_35 := Lib.hid (Rws.then_ B_29.out hb)
        have C_36 := Lib.hid (OwnR.then_ C_30.out hb)
        have HB_37 := Lib.hid (below_then' HB_32.out hb HB_32.out.size)
        clear A_28 B_29 C_30 HB_32
        have X_38 := Lib.hid (hx)
        clear hb hx hf
        go_wp2_with fail
        refine (apply8_any _ nc _ lc A K c cs w_33 (OwnU.uns C_36.out) A_34.out (by omega) HIC.out).mono ?_
        rintro e w_39 ⟨hb, ⟨hnf, rfl⟩ | ⟨_, Y, my, cy, rfl, hy⟩⟩
        · exact absurd (HFC.out HF.out) hnf
        · rw [HLV.out] at hy
          have A_40 := Lib.hid (Crs.then_ A_34.out hb)
          have B_41 := Lib.hid (Rws.then_ B_35.out hb)
          have C_42 := Lib.hid (OwnR.then_ C_36.out hb)
          have X_43 := Lib.hid (Crs.then_ X_38.out hb)
          have HB_44 := Lib.hid (below_then' HB_37.out hb HB_37.out.size)
          clear A_34 B_35 C_36 X_38 HB_37
          have Y_45 := Lib.hid (hy)
          clear hb hy
          have hq := same4_any _ _ _ _ _ _ (Pl.leave la cs) (Pl.leave la cs) w_39 X_43.out Y_45.out
          rw [decide_eq_true rfl] at hq
          go_wp2_with fail
          refine (hq).mono ?_
          rintro e w_46 ⟨rfl, hb⟩
          have A_47 := Lib.hid (Crs.then_ A_40.out hb)
          have B_48 := Lib.hid (Rws.then_ B_41.out hb)
          have C_49 := Lib.hid (OwnR.then_ C_42.out hb)
          have X_50 := Lib.hid (Crs.then_ X_43.out hb)
          have Y_51 := Lib.hid (Crs.then_ Y_45.out hb)
          have HB_52 := Lib.hid (below_then' HB_44.out hb HB_44.out.size)
          clear A_40 B_41 C_42 X_43 Y_45 HB_44
          clear hb hq
          go_wp2_with fail
          refine (awake_any w_46).mono ?_
          rintro e w_53 ⟨rfl, hb⟩
          have A_54 := Lib.hid (Crs.then_ A_47.out hb)
          have B_55 := Lib.hid (Rws.then_ B_48.out hb)
          have C_56 := Lib.hid (OwnR.then_ C_49.out hb)
          have X_57 := Lib.hid (Crs.then_ X_50.out hb)
          have Y_58 := Lib.hid (Crs.then_ Y_51.out hb)
          have HB_59 := Lib.hid (below_then' HB_52.out hb HB_52.out.size)
          clear A_47 B_48 C_49 X_50 Y_51 HB_52
          clear hb
          go_wp2_with fail
          go_ret
          exact ⟨rfl, HB_59.out⟩
end editClean
end Go.Proofs.Ythnenmglmebljaa
