/-
  The walk of UndoBack: whatever number and whatever row come in, it returns true; nothing that was there turned. Conditions: those that it states.
-/
import Derived.Test.YtlnekhkdncccgaaUnJ
namespace Go.Proofs.Ytlnekhkdncccgaa
open Go.RowKit
open Pl (Un)

theorem neq_id (x y x' y' : Int) (w : World) : (binOp .neq 34 (.agg #[.int .u32 x, .int .u64 y]) (.agg #[.int .u32 x', .int .u64 y'])).run Try.prog w = .ok (.bool (!decide (x = x' ∧ y = y'))) w := by
  rw [run_neq_struct, show (10000 : Nat) = 9998 + 2 from rfl, equalIn_id]; rfl
/-- between one round and the next: nothing that was there turned -/
def Seq (w : World) (n : Nat) (i : Value) (wr : World) : Prop := ∃ j : Nat, i = .int .i64 (j : Int) ∧ j ≤ n ∧ Below w.heap.size w wr
namespace undoBack
set_option maxRecDepth 100000 in
set_option maxHeartbeats 4000000 in
theorem walk (w : World) (n : Nat) (hn : n < 256) (B : Option Addr) (m d : Nat) (l : List Un) (hB : Units w w.heap.size B m d l) :
    Calls Try.prog 4 #[.int .u8 (n : Int), .slice B m d] w fun e w' => e = .returned (.bool true) ∧ Below w.heap.size w w' := by
  obtain ⟨K, hK⟩ : ∃ K, K = n % 41 := ⟨_, rfl⟩
  have hK40 : K ≤ 40 := by omega
  have hk1 : (n : Int) % 41 = (K : Int) := by omega
  have HK40 := Lib.hid hK40
  have B_0 := Lib.hid hB.1
  clear hB hK hK40
  go_enter Try.func4, Try.ntmps4
  go_wp2_with fail
  rw [hk1]
  clear hk1 hn
  refine ((numbered_any K (by have := HK40.out; omega) w)).mono ?_
  rintro e w_1 ⟨A0, c0, rfl, ho, hb⟩
  have B_2 := Lib.hid (Rws.then_ B_0.out hb)
  have HB_3 := Lib.hid (hb)
  clear B_0
  obtain ⟨T, hT⟩ : ∃ T, T = Pl.numL K := ⟨_, rfl⟩
  rw [← hT] at ho
  have HT := Lib.hid hT
  have HTL := Lib.hid (show T.length = K by rw [hT]; exact Pl.num_len K)
  have T_4 := Lib.hid (ho.crs.2)
  clear hb ho hT
  go_wp2_with fail
  refine ((me_any w_1)).mono ?_
  rintro e w_5 ⟨rfl, hb⟩
  have B_6 := Lib.hid (Rws.then_ B_2.out hb)
  have T_7 := Lib.hid (Crs.then_ T_4.out hb)
  have HB_8 := Lib.hid (below_then' HB_3.out hb HB_3.out.size)
  clear B_2 T_4 HB_3
  clear hb
  go_wp2_with fail
  refine ((fit_any B m d l K 1 7 2000 w_5 B_6.out (by have := HK40.out; omega) (by omega))).mono ?_
  rintro e w_9 ⟨A1, c1, la, rfl, hla, ho, hbr, _, hb⟩
  clear B_6
  have T_10 := Lib.hid (Crs.then_ T_7.out hb)
  have HB_11 := Lib.hid (below_then' HB_8.out hb HB_8.out.size)
  clear T_7 HB_8
  have LA_12 := Lib.hid (ho)
  have HLA := Lib.hid (And.intro hla hbr)
  have hp := Pl.back_plain hbr hla HK40.out
  rw [← HT.out] at hp
  clear hb ho hla hbr
  obtain ⟨NA, hNA⟩ : ∃ k, k = (la).length := ⟨_, rfl⟩
  rw [← hNA] at LA_12 ⊢
  have HNA := Lib.hid hNA
  clear hNA
  obtain ⟨FA, hFA⟩ : ∃ x, x = Pl.fillL la T := ⟨_, rfl⟩
  rw [← hFA] at hp
  have HFA := Lib.hid hFA
  have HP := Lib.hid hp
  have HFL := Lib.hid (show FA.length = NA by rw [hp.2.1, HNA.out])
  have hna : NA ≤ 20 := by rw [HNA.out]; exact HLA.out.1
  have hk40 := HK40.out
  have HPA := Lib.hid (Pl.back_again hp.2.2.1 hp.2.2.2)
  clear hp hFA
  go_wp2_with fail
  refine ((fill_any A1 NA c1 la A0 K c0 T w_9 (OwnU.uns LA_12.out) T_10.out (by omega) (by omega) HP.out.1)).mono ?_
  rintro e w_13 ⟨A2, c2, rfl, ho, hb⟩
  rw [← HFA.out] at ho
  rw [← HNA.out] at ho ⊢
  clear LA_12
  have T_14 := Lib.hid (Crs.then_ T_10.out hb)
  have HB_15 := Lib.hid (below_then' HB_11.out hb HB_11.out.size)
  clear T_10 HB_11
  have A_16 := Lib.hid (ho)
  clear hb ho
  go_wp2_with fail
  refine ((applyR_fit A0 K c0 T A2 NA c2 FA w_13 T_14.out (OwnU.uns A_16.out) (by omega) (by omega) HP.out.2.2.1)).mono ?_
  rintro e w_17 ⟨A3, c3, rfl, ho, hb⟩
  obtain ⟨NW, hNW⟩ : ∃ x, x = Pl.leave FA T := ⟨_, rfl⟩
  rw [← hNW] at ho ⊢
  have HPB := HPA.out
  rw [← hNW] at HPB
  have HPA2 := Lib.hid HPB
  have h60 : NW.length ≤ 60 := by have h := Pl.len_leave_le HP.out.2.2.1; rw [← hNW, HTL.out, HFL.out] at h; omega
  have HNW := Lib.hid hNW
  clear HPA HPB hNW
  obtain ⟨N3, hN3⟩ : ∃ k, k = (NW).length := ⟨_, rfl⟩
  rw [← hN3] at ho h60 ⊢
  have HN3 := Lib.hid hN3
  clear hN3
  have T_18 := Lib.hid (Crs.then_ T_14.out hb)
  have A_19 := Lib.hid (OwnR.then_ A_16.out hb)
  have HB_20 := Lib.hid (below_then' HB_15.out hb HB_15.out.size)
  clear T_14 A_16 HB_15
  have N_21 := Lib.hid (ho.crs.2)
  clear hb ho
  go_wp2_with fail
  refine ((you_any w_17)).mono ?_
  rintro e w_22 ⟨rfl, hb⟩
  have T_23 := Lib.hid (Crs.then_ T_18.out hb)
  have A_24 := Lib.hid (OwnR.then_ A_19.out hb)
  have N_25 := Lib.hid (Crs.then_ N_21.out hb)
  have HB_26 := Lib.hid (below_then' HB_20.out hb HB_20.out.size)
  clear T_18 A_19 N_21 HB_20
  clear hb
  go_wp2_with fail
  refine ((inverse_any A2 NA c2 FA 2 1 w_22 (OwnU.uns A_24.out) (by omega))).mono ?_
  rintro e w_27 ⟨A4, c4, rfl, ho, hb⟩
  rw [Pl.inv_len, HFL.out] at ho ⊢
  obtain ⟨IV, hIV⟩ : ∃ x, x = Pl.invR 2 1 FA := ⟨_, rfl⟩
  rw [← hIV] at ho
  have HPB := HPA2.out
  rw [← hIV] at HPB
  have HPA3 := Lib.hid HPB
  have HIV := Lib.hid hIV
  have HIL := Lib.hid (show IV.length = NA by rw [hIV, Pl.inv_len]; exact HFL.out)
  clear HPA2 HPB hIV
  have T_28 := Lib.hid (Crs.then_ T_23.out hb)
  have A_29 := Lib.hid (OwnR.then_ A_24.out hb)
  have N_30 := Lib.hid (Crs.then_ N_25.out hb)
  have HB_31 := Lib.hid (below_then' HB_26.out hb HB_26.out.size)
  clear T_23 A_24 N_25 HB_26
  have I_32 := Lib.hid (ho)
  clear hb ho
  go_wp2_with fail
  refine ((applyR_fit A3 N3 c3 NW A4 NA c4 IV w_27 N_30.out (OwnU.uns I_32.out) (by omega) (by omega) HPA3.out.1)).mono ?_
  rintro e w_33 ⟨A5, c5, rfl, ho, hb⟩
  rw [HPA3.out.2.1] at ho ⊢
  rw [HTL.out] at ho ⊢
  have T_34 := Lib.hid (Crs.then_ T_28.out hb)
  have A_35 := Lib.hid (OwnR.then_ A_29.out hb)
  have N_36 := Lib.hid (Crs.then_ N_30.out hb)
  have I_37 := Lib.hid (OwnR.then_ I_32.out hb)
  have HB_38 := Lib.hid (below_then' HB_31.out hb HB_31.out.size)
  clear T_28 A_29 N_30 I_32 HB_31
  have BK_39 := Lib.hid (ho.crs.2)
  clear hb ho
  go_wp2_with fail
  refine ((fill_any A4 NA c4 IV A3 N3 c3 NW w_33 (OwnU.uns I_37.out) N_36.out (by omega) (by omega) HPA3.out.1)).mono ?_
  rintro e w_40 ⟨A6, c6, rfl, ho, hb⟩
  obtain ⟨FU, hFU⟩ : ∃ x, x = Pl.fillL IV NW := ⟨_, rfl⟩
  rw [← hFU] at ho
  rw [HIL.out] at ho ⊢
  have HPB := HPA3.out
  rw [← hFU] at HPB
  have HPA4 := Lib.hid HPB
  have HFU := Lib.hid hFU
  have HUL := Lib.hid (show FU.length = NA by rw [HPB.2.2.2.2]; exact HFL.out)
  clear HPA3 HPB hFU
  clear I_37
  have T_41 := Lib.hid (Crs.then_ T_34.out hb)
  have A_42 := Lib.hid (OwnR.then_ A_35.out hb)
  have N_43 := Lib.hid (Crs.then_ N_36.out hb)
  have BK_44 := Lib.hid (Crs.then_ BK_39.out hb)
  have HB_45 := Lib.hid (below_then' HB_38.out hb HB_38.out.size)
  clear T_34 A_35 N_36 BK_39 HB_38
  have F_46 := Lib.hid (ho)
  clear hb ho
  go_wp2_with fail
  refine ((me_any w_40)).mono ?_
  rintro e w_47 ⟨rfl, hb⟩
  have T_48 := Lib.hid (Crs.then_ T_41.out hb)
  have A_49 := Lib.hid (OwnR.then_ A_42.out hb)
  have N_50 := Lib.hid (Crs.then_ N_43.out hb)
  have BK_51 := Lib.hid (Crs.then_ BK_44.out hb)
  have F_52 := Lib.hid (OwnR.then_ F_46.out hb)
  have HB_53 := Lib.hid (below_then' HB_45.out hb HB_45.out.size)
  clear T_41 A_42 N_43 BK_44 F_46 HB_45
  clear hb
  go_wp2_with fail
  refine ((inverse_any A6 NA c6 FU 1 7 w_47 (OwnU.uns F_52.out) (by omega))).mono ?_
  rintro e w_54 ⟨A7, c7, rfl, ho, hb⟩
  rw [Pl.inv_len, HUL.out] at ho ⊢
  have T_55 := Lib.hid (Crs.then_ T_48.out hb)
  have A_56 := Lib.hid (OwnR.then_ A_49.out hb)
  have N_57 := Lib.hid (Crs.then_ N_50.out hb)
  have BK_58 := Lib.hid (Crs.then_ BK_51.out hb)
  have F_59 := Lib.hid (OwnR.then_ F_52.out hb)
  have HB_60 := Lib.hid (below_then' HB_53.out hb HB_53.out.size)
  clear T_48 A_49 N_50 BK_51 F_52 HB_53
  have G_61 := Lib.hid (ho)
  clear hb ho
  go_wp2_with fail
  refine ((applyR_fit A0 K c0 T A7 NA c7 _ w_54 T_55.out (OwnU.uns G_61.out) (by omega) (by omega) HPA4.out.2.2.1)).mono ?_
  rintro e w_62 ⟨A8, c8, rfl, ho, hb⟩
  rw [HPA4.out.2.2.2.1] at ho ⊢
  rw [← HN3.out] at ho ⊢
  clear G_61
  have T_63 := Lib.hid (Crs.then_ T_55.out hb)
  have A_64 := Lib.hid (OwnR.then_ A_56.out hb)
  have N_65 := Lib.hid (Crs.then_ N_57.out hb)
  have BK_66 := Lib.hid (Crs.then_ BK_58.out hb)
  have F_67 := Lib.hid (OwnR.then_ F_59.out hb)
  have HB_68 := Lib.hid (below_then' HB_60.out hb HB_60.out.size)
  clear T_55 A_56 N_57 BK_58 F_59 HB_60
  have AG_69 := Lib.hid (ho.crs.2)
  clear hb ho
  go_wp2_with fail
  have A0x := A_64
  have F0x := F_67
  clear A_64
  clear F_67
  go_loopw [88] (fun i wr => Seq w_62 NA i wr) (fun i _ => NA - (intOf i).toNat)
  case atStart => exact ⟨0, rfl, Nat.zero_le _, Below.refl _ _⟩
  case round =>
    obtain ⟨k, rfl, hk, hb⟩ := hrel
    have HBR := Lib.hid hb
    by_cases hlt : k < NA
    · have ha := OwnR.then_ A0x.out hb
      have hf := OwnR.then_ F0x.out hb
      obtain ⟨g2, rfl⟩ := OwnU.block ha (by omega)
      obtain ⟨g6, rfl⟩ := OwnU.block hf (by omega)
      obtain ⟨K0, K', p, ch, x, y, e1, e2, hkk⟩ := Pl.back_unit HLA.out.2 HLA.out.1 HK40.out (k := k) (by rw [← HT.out, ← HFA.out, HFL.out]; exact hlt)
      rw [← HT.out, ← HFA.out] at e1 e2
      rw [← HNW.out, ← HIV.out, ← HFU.out, HFL.out] at e2
      obtain ⟨q, hq⟩ : ∃ q, q = NA - 1 - k := ⟨_, rfl⟩
      rw [← hq] at e2
      have hqn : q < NA := by omega
      obtain ⟨d0, d1, d2, d3, d4, _⟩ := OwnU.cells hf hqn
      rw [e2] at d0 d1 d2 d3 d4
      simp only at d0 d1 d2 d3 d4
      rw [hq] at d0 d1 d2 d3 d4
      have hw1 : wrap64 ((NA : Int) - 1) = (NA : Int) - 1 := by unfold wrap64; omega
      have hw2 : wrap64 ((NA : Int) - 1 - (k : Int)) = (q : Int) := by unfold wrap64; omega
      have z0 : (0 : Int) ≤ (k : Int) := Int.natCast_nonneg k
      have z1 : (k : Int) < (NA : Int) := Int.ofNat_lt.2 hlt
      have y0 : (0 : Int) ≤ (q : Int) := Int.natCast_nonneg q
      have y1 : (q : Int) < (NA : Int) := Int.ofNat_lt.2 hqn
      obtain ⟨W5, hW5⟩ : ∃ W5, W5 = wr.alloc (.cells #[.int .i64 K', .int .i64 p, .int .i32 ch, .int .u32 2, .int .u64 1] 42) := ⟨_, rfl⟩
      have hb5 : Below wr.heap.size wr W5 := by rw [hW5]; exact below_box _ _
      obtain ⟨b, hbb⟩ : ∃ b, b = wr.heap.size := ⟨_, rfl⟩
      have HX5 := Lib.hid (show UAt W5 b K' p ch 2 1 by rw [hbb, hW5]; exact uat_new _ _ _ _ _ _)
      have ha5 := OwnR.then_ ha hb5
      have HC2 := Lib.hid (show ∀ w', Below W5.heap.size W5 w' → w'.cell? ⟨g2, k * 5, none⟩ = some (.int .i64 K0) ∧ w'.cell? ⟨g2, k * 5 + 1, none⟩ = some (.int .i64 p) ∧ w'.cell? ⟨g2, k * 5 + 2, none⟩ = some (.int .i32 ch) from fun w' h => by
        obtain ⟨a0, a1, a2, _⟩ := OwnU.cells (OwnR.then_ ha5 h) hlt
        rw [e1] at a0 a1 a2
        exact ⟨a0, a1, a2⟩)
      have HKK := Lib.hid (show (K' == K0) = false by simpa using hkk)
      have HB5 := Lib.hid (below_then' hb hb5 hb.size)
      have HW5 := Lib.hid hW5
      have HBB := Lib.hid hbb
      have HMS := Lib.hid (show NA - (k + 1) < NA - k by omega)
      have HJ1 := Lib.hid (show k + 1 ≤ NA from hlt)
      clear hb ha hf e1 e2 hkk hq hW5 hb5 hbb ha5
      go_wp2_with fail
      rw [← HW5.out, ← HBB.out]
      clear d0 d1 d2 d3 d4 hw1 hw2 y0 y1
      refine Rg.wp_region_inv (fun w' => Below W5.heap.size W5 w') (Rg.Wd.at [.is (.pointer (some ⟨b, 2, none⟩)), .is (.int .i32 ch), .is (.slice (some ⟨g2, 0, none⟩) NA c2), .is (.int .i64 (k : Int)), .is (.pointer (some ⟨g2, k * 5, none⟩)), .is (.pointer (some ⟨g2, k * 5 + 2, none⟩)), .is (.int .i32 ch), .is (.bool false), .is (.bool false), .is (.pointer (some ⟨b, 1, none⟩)), .is (.int .i64 p), .is (.slice (some ⟨g2, 0, none⟩) NA c2), .is (.int .i64 (k : Int)), .is (.pointer (some ⟨g2, k * 5, none⟩)), .is (.pointer (some ⟨g2, k * 5 + 1, none⟩)), .is (.int .i64 p), .is (.bool false), .is (.bool false), .is (.bool false), .is (.pointer (some ⟨b, 0, none⟩)), .is (.int .i64 K'), .is (.slice (some ⟨g2, 0, none⟩) NA c2), .is (.int .i64 (k : Int)), .is (.pointer (some ⟨g2, k * 5, none⟩)), .is (.pointer (some ⟨g2, k * 5, none⟩)), .is (.int .i64 K0), .is (.bool false), .is (.bool false), .is (.bool false), .is (.pointer (some ⟨b, 3, none⟩)), .is (.agg #[.int .u32 2, .int .u64 1]), .is (.agg #[.int .u32 2, .int .u64 1]), .is (.bool false), .is (.bool false)]) (by kernel_rfl) (by kernel_rfl) (Rg.Wd.stays _ _) (below_drawn (Below.refl _ _)) ⟨?_, ?_, ?_, ?_, ?_, ?_, ?_, ?_, ?_, ?_, ?_, ?_, ?_, ?_, ?_, ?_, ?_, ?_, ?_, ?_, ?_, ?_, ?_, ?_, ?_, ?_, ?_, ?_, ?_, ?_, ?_, ?_, ?_, ?_, trivial⟩ ?_
      · intro a w1 hS hb hd
        have e17 := hb 17 (Rg.nw (by decide))
        simp [Act.eval] at e17
        exact Rg.does_pure (Rg.wanted_none rfl) (by simp [execOp, e17, go_sem]) hS rfl
      · intro a w1 hS hb hd
        have e99 := hd ⟨0, .data⟩ (by simp) rfl _ _ rfl rfl
        have e99 : a.tmps[99]?.getD undef = (.pointer (some ⟨b, 2, none⟩)) := Rg.slot e99
        exact Rg.does_pure (Rg.wanted_none rfl) (by simp [execOp, e99, (HX5.out.then_ hS).cells, go_sem]) hS rfl
      · intro a w1 hS hb hd
        have e1 := hb 1 (Rg.nw (by decide))
        simp [Act.eval] at e1
        exact Rg.does_pure (Rg.wanted_none rfl) (by simp [execOp, e1, go_sem]) hS rfl
      · intro a w1 hS hb hd
        have e16 := hb 16 (Rg.nw (by decide))
        simp [Act.eval] at e16
        exact Rg.does_pure (Rg.wanted_none rfl) (by simp [execOp, e16, go_sem]) hS rfl
      · intro a w1 hS hb hd
        have e101 := hd ⟨2, .data⟩ (by simp) rfl _ _ rfl rfl
        have e101 : a.tmps[101]?.getD undef = (.slice (some ⟨g2, 0, none⟩) NA c2) := Rg.slot e101
        have e102 := hd ⟨3, .data⟩ (by simp) rfl _ _ rfl rfl
        have e102 : a.tmps[102]?.getD undef = (.int .i64 (k : Int)) := Rg.slot e102
        exact Rg.does_pure (Rg.wanted_none rfl) (by simp [execOp, e101, e102, z0, z1, go_sem]) hS rfl
      · intro a w1 hS hb hd
        have e103 := hd ⟨4, .data⟩ (by simp) rfl _ _ rfl rfl
        have e103 : a.tmps[103]?.getD undef = (.pointer (some ⟨g2, k * 5, none⟩)) := Rg.slot e103
        exact Rg.does_pure (Rg.wanted_none rfl) (by simp [execOp, e103, go_sem]) hS rfl
      · intro a w1 hS hb hd
        have e104 := hd ⟨5, .data⟩ (by simp) rfl _ _ rfl rfl
        have e104 : a.tmps[104]?.getD undef = (.pointer (some ⟨g2, k * 5 + 2, none⟩)) := Rg.slot e104
        exact Rg.does_pure (Rg.wanted_none rfl) (by simp [execOp, e104, (HC2.out _ hS), go_sem]) hS rfl
      · intro a w1 hS hb hd
        have e100 := hd ⟨1, .data⟩ (by simp) rfl _ _ rfl rfl
        have e100 : a.tmps[100]?.getD undef = (.int .i32 ch) := Rg.slot e100
        have e105 := hd ⟨6, .data⟩ (by simp) rfl _ _ rfl rfl
        have e105 : a.tmps[105]?.getD undef = (.int .i32 ch) := Rg.slot e105
        exact Rg.does_pure (Rg.wanted_none rfl) (by simp [execOp, e100, e105, go_sem]) hS rfl
      · intro a w1 hS hb hd
        have e106 := hd ⟨7, .data⟩ (by simp) rfl _ _ rfl rfl
        have e106 : a.tmps[106]?.getD undef = (.bool false) := Rg.slot e106
        exact Rg.does_pure (Rg.wanted_none rfl) (by simp [execOp, e106, go_sem]) hS rfl
      · intro a w1 hS hb hd
        have e17 := hb 17 (Rg.nw (by decide))
        simp [Act.eval] at e17
        have e107 := hd ⟨8, .guard⟩ (by simp) rfl _ _ rfl rfl
        exact Rg.does_pure (Rg.wanted_some rfl rfl rfl e107) (by simp [execOp, e17, go_sem]) hS rfl
      · intro a w1 hS hb hd
        have e108 := hd ⟨9, .data⟩ (by simp) rfl _ _ rfl rfl
        have e108 : a.tmps[108]?.getD undef = (.pointer (some ⟨b, 1, none⟩)) := Rg.slot e108
        have e107 := hd ⟨8, .guard⟩ (by simp) rfl _ _ rfl rfl
        exact Rg.does_pure (Rg.wanted_some rfl rfl rfl e107) (by simp [execOp, e108, (HX5.out.then_ hS).cells, go_sem]) hS rfl
      · intro a w1 hS hb hd
        have e1 := hb 1 (Rg.nw (by decide))
        simp [Act.eval] at e1
        have e107 := hd ⟨8, .guard⟩ (by simp) rfl _ _ rfl rfl
        exact Rg.does_pure (Rg.wanted_some rfl rfl rfl e107) (by simp [execOp, e1, go_sem]) hS rfl
      · intro a w1 hS hb hd
        have e16 := hb 16 (Rg.nw (by decide))
        simp [Act.eval] at e16
        have e107 := hd ⟨8, .guard⟩ (by simp) rfl _ _ rfl rfl
        exact Rg.does_pure (Rg.wanted_some rfl rfl rfl e107) (by simp [execOp, e16, go_sem]) hS rfl
      · intro a w1 hS hb hd
        have e110 := hd ⟨11, .data⟩ (by simp) rfl _ _ rfl rfl
        have e110 : a.tmps[110]?.getD undef = (.slice (some ⟨g2, 0, none⟩) NA c2) := Rg.slot e110
        have e111 := hd ⟨12, .data⟩ (by simp) rfl _ _ rfl rfl
        have e111 : a.tmps[111]?.getD undef = (.int .i64 (k : Int)) := Rg.slot e111
        have e107 := hd ⟨8, .guard⟩ (by simp) rfl _ _ rfl rfl
        exact Rg.does_pure (Rg.wanted_some rfl rfl rfl e107) (by simp [execOp, e110, e111, z0, z1, go_sem]) hS rfl
      · intro a w1 hS hb hd
        have e112 := hd ⟨13, .data⟩ (by simp) rfl _ _ rfl rfl
        have e112 : a.tmps[112]?.getD undef = (.pointer (some ⟨g2, k * 5, none⟩)) := Rg.slot e112
        have e107 := hd ⟨8, .guard⟩ (by simp) rfl _ _ rfl rfl
        exact Rg.does_pure (Rg.wanted_some rfl rfl rfl e107) (by simp [execOp, e112, go_sem]) hS rfl
      · intro a w1 hS hb hd
        have e113 := hd ⟨14, .data⟩ (by simp) rfl _ _ rfl rfl
        have e113 : a.tmps[113]?.getD undef = (.pointer (some ⟨g2, k * 5 + 1, none⟩)) := Rg.slot e113
        have e107 := hd ⟨8, .guard⟩ (by simp) rfl _ _ rfl rfl
        exact Rg.does_pure (Rg.wanted_some rfl rfl rfl e107) (by simp [execOp, e113, (HC2.out _ hS), go_sem]) hS rfl
      · intro a w1 hS hb hd
        have e109 := hd ⟨10, .data⟩ (by simp) rfl _ _ rfl rfl
        have e109 : a.tmps[109]?.getD undef = (.int .i64 p) := Rg.slot e109
        have e114 := hd ⟨15, .data⟩ (by simp) rfl _ _ rfl rfl
        have e114 : a.tmps[114]?.getD undef = (.int .i64 p) := Rg.slot e114
        have e107 := hd ⟨8, .guard⟩ (by simp) rfl _ _ rfl rfl
        exact Rg.does_pure (Rg.wanted_some rfl rfl rfl e107) (by simp [execOp, e109, e114, go_sem]) hS rfl
      · intro a w1 hS hb hd
        have e107 := hd ⟨8, .data⟩ (by simp) rfl _ _ rfl rfl
        have e107 : a.tmps[107]?.getD undef = (.bool false) := Rg.slot e107
        have e115 := hd ⟨16, .data⟩ (by simp) rfl _ _ rfl rfl
        have e115 : a.tmps[115]?.getD undef = (.bool false) := Rg.slot e115
        exact Rg.does_pure (Rg.wanted_none rfl) (by simp [execOp, e107, e115, go_sem]) hS rfl
      · intro a w1 hS hb hd
        have e116 := hd ⟨17, .data⟩ (by simp) rfl _ _ rfl rfl
        have e116 : a.tmps[116]?.getD undef = (.bool false) := Rg.slot e116
        exact Rg.does_pure (Rg.wanted_none rfl) (by simp [execOp, e116, go_sem]) hS rfl
      · intro a w1 hS hb hd
        have e17 := hb 17 (Rg.nw (by decide))
        simp [Act.eval] at e17
        have e117 := hd ⟨18, .guard⟩ (by simp) rfl _ _ rfl rfl
        exact Rg.does_pure (Rg.wanted_some rfl rfl rfl e117) (by simp [execOp, e17, go_sem]) hS rfl
      · intro a w1 hS hb hd
        have e118 := hd ⟨19, .data⟩ (by simp) rfl _ _ rfl rfl
        have e118 : a.tmps[118]?.getD undef = (.pointer (some ⟨b, 0, none⟩)) := Rg.slot e118
        have e117 := hd ⟨18, .guard⟩ (by simp) rfl _ _ rfl rfl
        exact Rg.does_pure (Rg.wanted_some rfl rfl rfl e117) (by simp [execOp, e118, (HX5.out.then_ hS).cells, go_sem]) hS rfl
      · intro a w1 hS hb hd
        have e1 := hb 1 (Rg.nw (by decide))
        simp [Act.eval] at e1
        have e117 := hd ⟨18, .guard⟩ (by simp) rfl _ _ rfl rfl
        exact Rg.does_pure (Rg.wanted_some rfl rfl rfl e117) (by simp [execOp, e1, go_sem]) hS rfl
      · intro a w1 hS hb hd
        have e16 := hb 16 (Rg.nw (by decide))
        simp [Act.eval] at e16
        have e117 := hd ⟨18, .guard⟩ (by simp) rfl _ _ rfl rfl
        exact Rg.does_pure (Rg.wanted_some rfl rfl rfl e117) (by simp [execOp, e16, go_sem]) hS rfl
      · intro a w1 hS hb hd
        have e120 := hd ⟨21, .data⟩ (by simp) rfl _ _ rfl rfl
        have e120 : a.tmps[120]?.getD undef = (.slice (some ⟨g2, 0, none⟩) NA c2) := Rg.slot e120
        have e121 := hd ⟨22, .data⟩ (by simp) rfl _ _ rfl rfl
        have e121 : a.tmps[121]?.getD undef = (.int .i64 (k : Int)) := Rg.slot e121
        have e117 := hd ⟨18, .guard⟩ (by simp) rfl _ _ rfl rfl
        exact Rg.does_pure (Rg.wanted_some rfl rfl rfl e117) (by simp [execOp, e120, e121, z0, z1, go_sem]) hS rfl
      · intro a w1 hS hb hd
        have e122 := hd ⟨23, .data⟩ (by simp) rfl _ _ rfl rfl
        have e122 : a.tmps[122]?.getD undef = (.pointer (some ⟨g2, k * 5, none⟩)) := Rg.slot e122
        have e117 := hd ⟨18, .guard⟩ (by simp) rfl _ _ rfl rfl
        exact Rg.does_pure (Rg.wanted_some rfl rfl rfl e117) (by simp [execOp, e122, go_sem]) hS rfl
      · intro a w1 hS hb hd
        have e123 := hd ⟨24, .data⟩ (by simp) rfl _ _ rfl rfl
        have e123 : a.tmps[123]?.getD undef = (.pointer (some ⟨g2, k * 5, none⟩)) := Rg.slot e123
        have e117 := hd ⟨18, .guard⟩ (by simp) rfl _ _ rfl rfl
        exact Rg.does_pure (Rg.wanted_some rfl rfl rfl e117) (by simp [execOp, e123, (HC2.out _ hS), go_sem]) hS rfl
      · intro a w1 hS hb hd
        have e119 := hd ⟨20, .data⟩ (by simp) rfl _ _ rfl rfl
        have e119 : a.tmps[119]?.getD undef = (.int .i64 K') := Rg.slot e119
        have e124 := hd ⟨25, .data⟩ (by simp) rfl _ _ rfl rfl
        have e124 : a.tmps[124]?.getD undef = (.int .i64 K0) := Rg.slot e124
        have e117 := hd ⟨18, .guard⟩ (by simp) rfl _ _ rfl rfl
        exact Rg.does_pure (Rg.wanted_some rfl rfl rfl e117) (by simp [execOp, e119, e124, HKK.out, go_sem]) hS rfl
      · intro a w1 hS hb hd
        have e117 := hd ⟨18, .data⟩ (by simp) rfl _ _ rfl rfl
        have e117 : a.tmps[117]?.getD undef = (.bool false) := Rg.slot e117
        have e125 := hd ⟨26, .data⟩ (by simp) rfl _ _ rfl rfl
        have e125 : a.tmps[125]?.getD undef = (.bool false) := Rg.slot e125
        exact Rg.does_pure (Rg.wanted_none rfl) (by simp [execOp, e117, e125, go_sem]) hS rfl
      · intro a w1 hS hb hd
        have e126 := hd ⟨27, .data⟩ (by simp) rfl _ _ rfl rfl
        have e126 : a.tmps[126]?.getD undef = (.bool false) := Rg.slot e126
        exact Rg.does_pure (Rg.wanted_none rfl) (by simp [execOp, e126, go_sem]) hS rfl
      · intro a w1 hS hb hd
        have e17 := hb 17 (Rg.nw (by decide))
        simp [Act.eval] at e17
        have e127 := hd ⟨28, .guard⟩ (by simp) rfl _ _ rfl rfl
        exact Rg.does_pure (Rg.wanted_some rfl rfl rfl e127) (by simp [execOp, e17, go_sem]) hS rfl
      · intro a w1 hS hb hd
        have e128 := hd ⟨29, .data⟩ (by simp) rfl _ _ rfl rfl
        have e128 : a.tmps[128]?.getD undef = (.pointer (some ⟨b, 3, none⟩)) := Rg.slot e128
        have e127 := hd ⟨28, .guard⟩ (by simp) rfl _ _ rfl rfl
        exact Rg.does_pure (Rg.wanted_some rfl rfl rfl e127) (by simp [execOp, e128, (HX5.out.then_ hS).cells, go_sem]) hS rfl
      · intro a w1 hS hb hd
        have e127 := hd ⟨28, .guard⟩ (by simp) rfl _ _ rfl rfl
        refine Rg.does_call (f := 24) (args := #[]) (Rg.wanted_some rfl rfl rfl e127) (by simp [go_sem]) ?_
        exact (you_any w1).mono fun e w3 ⟨h1, h2⟩ => ⟨_, h1, rfl, below_then hS h2, h2⟩
      · intro a w1 hS hb hd
        have e129 := hd ⟨30, .data⟩ (by simp) rfl _ _ rfl rfl
        have e129 : a.tmps[129]?.getD undef = (.agg #[.int .u32 2, .int .u64 1]) := Rg.slot e129
        have e130 := hd ⟨31, .data⟩ (by simp) rfl _ _ rfl rfl
        have e130 : a.tmps[130]?.getD undef = (.agg #[.int .u32 2, .int .u64 1]) := Rg.slot e130
        have e127 := hd ⟨28, .guard⟩ (by simp) rfl _ _ rfl rfl
        exact Rg.does_pure (Rg.wanted_some rfl rfl rfl e127) (by simp [execOp, e129, e130, (guard_id .neq), neq_id, go_sem]) hS rfl
      · intro a w1 hS hb hd
        have e127 := hd ⟨28, .data⟩ (by simp) rfl _ _ rfl rfl
        have e127 : a.tmps[127]?.getD undef = (.bool false) := Rg.slot e127
        have e131 := hd ⟨32, .data⟩ (by simp) rfl _ _ rfl rfl
        have e131 : a.tmps[131]?.getD undef = (.bool false) := Rg.slot e131
        exact Rg.does_pure (Rg.wanted_none rfl) (by simp [execOp, e127, e131, go_sem]) hS rfl
      · intro v w6 hS hv
        have HB6 := Lib.hid (below_then' HB5.out hS HB5.out.size)
        have h0 : v 33 = .bool false := hv 33 _ _ rfl rfl
        clear hS hv
        simp only [Rg.putAll, Nat.zero_add, Nat.reduceAdd]
        simp only [Act.put, List.setIfInBounds_toArray, List.set_cons_succ, List.set_cons_zero]
        rw [h0]
        go_wp2_with fail
        go_roundw
        case rel => exact ⟨k + 1, by go_num, HJ1.out, HB6.out⟩
        case measure => simp [intOf]; exact HMS.out
    · have hkn : k = NA := by omega
      subst hkn
      have T_70 := Lib.hid (Crs.then_ T_63.out hb)
      have N_71 := Lib.hid (Crs.then_ N_65.out hb)
      have BK_72 := Lib.hid (Crs.then_ BK_66.out hb)
      have AG_73 := Lib.hid (Crs.then_ AG_69.out hb)
      have HB_74 := Lib.hid (below_then' HB_68.out hb HB_68.out.size)
      clear T_63 N_65 BK_66 AG_69 HB_68
      clear hb
      go_wp2_with fail
      refine ((awake_any wr)).mono ?_
      rintro e w_75 ⟨rfl, hb⟩
      have T_76 := Lib.hid (Crs.then_ T_70.out hb)
      have N_77 := Lib.hid (Crs.then_ N_71.out hb)
      have BK_78 := Lib.hid (Crs.then_ BK_72.out hb)
      have AG_79 := Lib.hid (Crs.then_ AG_73.out hb)
      have HB_80 := Lib.hid (below_then' HB_74.out hb HB_74.out.size)
      clear T_70 N_71 BK_72 AG_73 HB_74
      clear hb
      go_wp2_with fail
      have hq := equalC_any A5 A0 K c5 K c0 T T w_75 BK_78.out T_76.out
      rw [decide_eq_true rfl] at hq
      refine (hq).mono ?_
      rintro e w_81 ⟨rfl, hb⟩
      have T_82 := Lib.hid (Crs.then_ T_76.out hb)
      have N_83 := Lib.hid (Crs.then_ N_77.out hb)
      have BK_84 := Lib.hid (Crs.then_ BK_78.out hb)
      have AG_85 := Lib.hid (Crs.then_ AG_79.out hb)
      have HB_86 := Lib.hid (below_then' HB_80.out hb HB_80.out.size)
      clear T_76 N_77 BK_78 AG_79 HB_80
      clear hb hq
      go_wp2_with fail
      have hq := equalC_any A8 A3 N3 c8 N3 c3 NW NW w_81 AG_85.out N_83.out
      rw [decide_eq_true rfl] at hq
      refine (hq).mono ?_
      rintro e w_87 ⟨rfl, hb⟩
      have T_88 := Lib.hid (Crs.then_ T_82.out hb)
      have N_89 := Lib.hid (Crs.then_ N_83.out hb)
      have BK_90 := Lib.hid (Crs.then_ BK_84.out hb)
      have AG_91 := Lib.hid (Crs.then_ AG_85.out hb)
      have HB_92 := Lib.hid (below_then' HB_86.out hb HB_86.out.size)
      clear T_82 N_83 BK_84 AG_85 HB_86
      clear hb hq
      go_wp2_with fail
      go_ret
      exact ⟨rfl, HB_92.out⟩
end undoBack
end Go.Proofs.Ytlnekhkdncccgaa
