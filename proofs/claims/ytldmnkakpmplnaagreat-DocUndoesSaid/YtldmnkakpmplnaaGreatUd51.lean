/-
  DocUndoes's walk: an operation taken back behind another one's, and that taken back again: it returns true; nothing that was there turns. Conditions: what the law is given can be read as data.
-/
import Derived.Test.YtldmnkakpmplnaaGreatUd50
set_option maxRecDepth 100000
set_option linter.unusedVariables false
namespace Go.Proofs.YtldmnkakpmplnaaGreat
open Go.RowKit
open Pl (Un)
namespace docUndoes
def FsR (V : World) (K : Nat) (s i : Value) (wr : World) : Prop := ∃ (j : Nat) (A : Option Addr) (c : Nat), i = .int .i64 (j : Int) ∧ s = .slice A j c ∧ j ≤ K ∧ OwnU wr V.heap.size (.slice A j c) (Pl.firstL j) ∧ Below V.heap.size V wr
def OpR (W : World) (D : Nat) (A : Option Addr) (K c : Nat) (i : Value) (wr : World) : Prop := ∃ (j : Nat) (k : Nat → Nat), i = .int .u32 ((j : Int) + 1) ∧ j ≤ 3 ∧ DocW W wr D k (Pl.Dc.opn j) (j * 256) ∧ KpU wr k A K c (Pl.firstL K)
def LkR (w : World) (N : Nat) (i : Value) (wr : World) : Prop := ∃ j : Nat, i = .int .i64 (j : Int) ∧ j ≤ N ∧ Below w.heap.size w wr
set_option maxHeartbeats 16000000 in
theorem walk (w : World) (A : Option Addr) (n c : Nat) (cs : List Int) (hA : Crs w w.heap.size A n c cs) (B : Option Addr) (m d : Nat) (l : List Un) (hB : Units w w.heap.size B m d l) (B' : Option Addr) (m' d' : Nat) (l' : List Un) (hB' : Units w w.heap.size B' m' d' l') :
    Calls Tryz.prog 6 #[.slice A n c, .slice B m d, .slice B' m' d'] w fun e w' => e = .returned (.bool true) ∧ Below w.heap.size w w' := by
  obtain ⟨K, hK⟩ : ∃ K, K = min n 30 := ⟨_, rfl⟩
  have hle := hA.2.1
  have hcap := hA.2.2.1
  unfold maxLen at hcap
  have hmin : (if (30 : Int) < (n : Int) then (30 : Int) else (n : Int)) = (K : Int) := by split <;> omega
  have hmin2 : min (n : Int) 30 = (K : Int) := by omega
  have sM := slice_toC A n c K (by omega)
  have HK := Lib.hid (show K ≤ 30 by omega)
  have HUB := Lib.hid hB.1
  have HUC := Lib.hid hB'.1
  have hkc : K ≤ c := by omega
  clear hB hB' hK
  go_enter Tryz.func6, Tryz.ntmps6
  go_wp2_with fail
  refine (newD_any w).mono ?_
  rintro e W0 ⟨D, k0, rfl, hd0, hk0, hb0⟩
  have HD0 := Lib.hid (show DocW w W0 D k0 (Pl.Dc.opn 0) 0 from ⟨⟨0, Nat.le_refl _, hd0⟩, hk0, hb0⟩)
  clear hd0 hk0 hb0
  go_wp2_with fail
  clear hmin hmin2 sM
  have hk30 : (K : Int) ≤ 30 := by have := HK.out; omega
  go_loopw [8, 30] (fun s i wr => FsR W0 K s i wr) (fun _ i _ => K - (intOf i).toNat)
  case atStart => exact ⟨0, none, 0, rfl, rfl, Nat.zero_le _, OwnR.nil_ _ _ _ _ _, Below.refl _ _⟩
  case round =>
    obtain ⟨j, At, ct, rfl, rfl, hj, ho, hb⟩ := hrel
    have HO := Lib.hid ho
    have HB := Lib.hid hb
    by_cases hlt : j < K
    · have z0 : (0 : Int) ≤ (j : Int) := Int.natCast_nonneg j
      have z1 : (j : Int) < (K : Int) := Int.ofNat_lt.2 hlt
      have HMS := Lib.hid (show K - (j + 1) < K - j by omega)
      have HJ1 := Lib.hid (show j + 1 ≤ K from hlt)
      have HFS := Lib.hid (Pl.first_succ j)
      clear ho hb hj
      go_wp2_with fail
      refine (ins13_any (j : Int) (1000 + (j : Int)) 3 1 wr).mono ?_
      rintro e V ⟨rfl, hb⟩
      unfold uval
      have hbx := below_box V (.cells #[.int .i64 1, .int .i64 (j : Int), .int .i32 (1000 + (j : Int)), .int .u32 3, .int .u64 1] 47)
      have hlit := unit_row V 1 (j : Int) (1000 + (j : Int)) 3 1
      have HRW := Lib.hid hlit
      have HOW := Lib.hid (OwnR.then_ (OwnR.then_ HO.out hb) hbx)
      have HB5 := Lib.hid (below_then (below_then HB.out hb) hbx)
      have hsz := HB5.out.size
      clear hlit hb hbx
      go_wp2_with (at_builtin; refine wpList_append_rws encU_len encU_one Tryz.underlying29 infoUn (by decide) (by decide) (V.alloc (.cells #[.int .i64 1, .int .i64 (j : Int), .int .i32 (1000 + (j : Int)), .int .u32 3, .int .u64 1] 47)) rfl (.tmp 33) (.tmp 39) rfl W0.heap.size At j ct (Pl.firstL j) (by rfl) HOW.out _ (some ⟨V.heap.size, 0, none⟩) 1 1 [⟨1, (j : Int), 1000 + (j : Int), 3, 1⟩] (by rfl) (OwnU.uns HRW.out) (by unfold maxLen; omega) (by omega) hsz ?_)
      intro A6 c6 w6 h6 hg6 _
      rw [← HFS.out] at h6
      have HO6 := Lib.hid h6
      have HB6 := Lib.hid (OwnR.grownBelow HOW.out hg6 HB5.out hsz)
      clear h6 hg6 hsz
      go_wp2_with fail
      go_roundw
      case rel => exact ⟨j + 1, A6, c6, by go_num, rfl, HJ1.out, HO6.out, HB6.out⟩
      case measure => simp [intOf]; exact HMS.out
    · obtain rfl : K = j := by omega
      have HX := Lib.hid (show OpR w D At K ct (.int .u32 1) wr from ⟨0, k0, rfl, Nat.zero_le _, HD0.out.then_ hb, KpU.new HD0.out.lt ho⟩)
      clear HO HB ho hb hj HD0 hlt
      go_wp2_with fail
      go_loopw [10] (fun i wr => OpR w D At K ct i wr) (fun i _ => 4 - (intOf i).toNat)
      case atStart => exact HX.out
      case round =>
        clear HX
        obtain ⟨j, kj, rfl, hj, hd, hf⟩ := hrel
        have HDj := Lib.hid hd
        have HFj := Lib.hid hf
        clear hd hf
        by_cases hlt : j < 3
        · have z0 : (0 : Int) ≤ (j : Int) := Int.natCast_nonneg j
          have z1 : (j : Int) + 1 ≤ 3 := by omega
          have HJ := Lib.hid hlt
          have HC := Lib.hid (openX HDj.out (c := (j : Int) + 1) (by omega) 0 (by decide) 0 (by decide) (by decide) (by rw [Pl.Dc.opn_t (by omega)]; omega) (Pl.Dc.opn_e hlt) (d' := Pl.Dc.opn (j + 1)) rfl)
          clear hj
          go_wp2_with fail
          refine HC.out.mono ?_
          rintro e V ⟨kv, rv, bb, A1, n1, c1, B1, p1, q1, C1, r1, s1, rfl, hd, hv⟩
          have HD1 := Lib.hid (hd.more (show j * 256 + 256 ≤ (j + 1) * 256 by omega))
          have HF1 := Lib.hid (HFj.out.mv hv)
          clear hd hv HC
          unfold aval
          have hfe := field_err 0 (.int .u32 0) (.int .u64 rv) (.bool bb) (.slice A1 n1 c1) (.slice B1 p1 q1) (.slice C1 r1 s1)
          go_wp2_with fail
          go_roundw
          case rel => exact ⟨j + 1, kv, by go_num, HJ.out, HD1.out, HF1.out⟩
          case measure => simp [intOf]; (have := HJ.out; omega)
        · obtain rfl : j = 3 := by omega
          obtain ⟨dO, hdO⟩ : ∃ x, x = Pl.Dc.opn 3 := ⟨_, rfl⟩
          have h1 := Pl.Dc.opn_first (K := K) HK.out
          rw [← hdO] at HDj h1
          have htO : dO.t = 3 := by rw [hdO]; exact Pl.Dc.opn_t (by omega)
          obtain ⟨d1, h1e, h1d, h1s, h1t⟩ := h1
          have H1 := Lib.hid (And.intro h1e (And.intro h1d h1s))
          have HT1 := Lib.hid (show dO.t = 3 ∧ d1.t ≤ 4 from ⟨htO, h1t⟩)
          have z1 : decide ((((3 : Nat) : Int) + 1) ≤ 3) = false := by decide
          clear hdO h1e h1d h1s h1t htO hlt hj
          go_wp2_with fail
          refine (id13_any 3 1 wr).mono ?_
          rintro e W1 ⟨rfl, hb⟩
          have HD_2 := Lib.hid (HDj.out.then_ hb)
          have HF_3 := Lib.hid (HFj.out.then_ hb)
          clear HDj HFj
          clear hb
          go_wp2_with fail
          have HC := Lib.hid (editX HD_2.out (x := 3) (y := 1) (by decide) 0 (by decide) HF_3.out (by have := HK.out; omega) 0 (by decide) (by decide) (by have := HT1.out; omega) (by decide) H1.out.1 H1.out.2.1)
          refine HC.out.mono ?_
          rintro e W4 ⟨k5, rv4, bb4, A4, n4, c4, B4, p4, q4, C4, r4, s4, rfl, hd, hv⟩
          clear HC
          have HF_6 := Lib.hid (HF_3.out.mv hv)
          have HD_7 := Lib.hid hd
          clear hd hv HF_3 HD_2
          unfold aval
          have hfe := field_err 0 (.int .u32 0) (.int .u64 rv4) (.bool bb4) (.slice A4 n4 c4) (.slice B4 p4 q4) (.slice C4 r4 s4)
          clear HF_6
          go_wp2_with fail
          refine (id13_any 1 1 W4).mono ?_
          rintro e W8 ⟨rfl, hb⟩
          have HD_9 := Lib.hid (HD_7.out.then_ hb)
          clear HD_7
          clear hb
          go_wp2_with fail
          obtain ⟨T, hT⟩ : ∃ T, T = Pl.numL K := ⟨_, rfl⟩
          have HT := Lib.hid hT
          have HTL := Lib.hid (show T.length = K by rw [hT]; exact Pl.num_len K)
          clear hT
          refine (fitted_any B m d l K 1 1 2000 W8 (Rws.then_ HUB.out HD_9.out.below) (by have := HK.out; omega) (by omega)).mono ?_
          rintro e W10 ⟨AA, cA, LA, rfl, hla, ho, hfi, _, hb⟩
          have hKA := Lib.hid (KpU.new HD_9.out.lt ho)
          have HD_11 := Lib.hid (HD_9.out.then_ hb)
          clear HD_9
          have hAk := Pl.fi_kinds hfi
          have hAo := Pl.fi_of hfi
          have hAf : Pl.FitR LA T := Pl.fi_fit (by omega) hfi HTL.out (by have := HK.out; omega) (by omega)
          have hAb : Pl.Brings Pl.R2 LA := fun u hu hk => by have := Pl.fi_brings hfi u hu hk; unfold Pl.R2; omega
          have HA := Lib.hid (show (∀ u ∈ LA, Pl.Okay u ∧ u.x = 1 ∧ u.y = 1) ∧ (∀ u ∈ LA, u.k ≠ 0) ∧ LA.length ≤ 12 ∧ Pl.FitR LA T ∧ Pl.Brings Pl.R2 LA from ⟨fun u hu => ⟨Pl.first_okay hAf u hu, hAo u hu⟩, fun u hu => by rcases hAk u hu with h | h <;> rw [h] <;> decide, hla, hAf, hAb⟩)
          clear hb ho hfi hla hAk hAo hAf hAb
          obtain ⟨P0, h0, hs⟩ := H1.out.2.2
          rw [← HT.out] at hs
          have HS := Lib.hid (And.intro hs h0)
          obtain ⟨d2, h2e, h2d, h2c, h2t⟩ := Pl.Dc.und_a hs h0 (by have := HK.out; have := HTL.out; omega) HA.out.1 HA.out.2.1 HA.out.2.2.1 HA.out.2.2.2.1
          have H2 := Lib.hid (And.intro h2e (And.intro h2d h2c))
          have HT2 := Lib.hid (show d2.t ≤ 5 from by have := HT1.out; omega)
          obtain ⟨NA, hNA⟩ : ∃ k, k = LA.length := ⟨_, rfl⟩
          rw [← hNA] at hKA ⊢
          have HNA := Lib.hid hNA
          have hna : NA ≤ 12 := by rw [hNA]; exact HA.out.2.2.1
          clear hs h0 h2e h2d h2c h2t hNA H1
          go_wp2_with fail
          refine (id13_any 1 1 W10).mono ?_
          rintro e W12 ⟨rfl, hb⟩
          have HD_13 := Lib.hid (HD_11.out.then_ hb)
          have KA_14 := Lib.hid (hKA.out.then_ hb)
          clear HD_11 hKA
          clear hb
          go_wp2_with fail
          have HC := Lib.hid (editX HD_13.out (x := 1) (y := 1) (by decide) 1 (by decide) KA_14.out (by omega) 0 (by decide) (by decide) (by have := HT1.out; omega) (by decide) H2.out.1 H2.out.2.1)
          refine HC.out.mono ?_
          rintro e W15 ⟨k16, rv15, bb15, A15, n15, c15, B15, p15, q15, C15, r15, s15, rfl, hd, hv⟩
          clear HC
          have KA_17 := Lib.hid (KA_14.out.mv hv)
          have HD_18 := Lib.hid hd
          clear hd hv KA_14 HD_13
          unfold aval
          have hfe := field_err 0 (.int .u32 0) (.int .u64 rv15) (.bool bb15) (.slice A15 n15 c15) (.slice B15 p15 q15) (.slice C15 r15 s15)
          go_wp2_with fail
          refine (numbered13_any K (by have := HK.out; omega) W15).mono ?_
          rintro e W19 ⟨AN, cN, rfl, ho, hb⟩
          rw [← HT.out] at ho
          have HD_20 := Lib.hid (HD_18.out.then_ hb)
          have KA_21 := Lib.hid (KA_17.out.then_ hb)
          clear HD_18 KA_17
          have HCN := Lib.hid (ho.crs.2)
          clear ho hb
          go_wp2_with fail
          refine (fill_any AA NA cA LA AN K cN T W19 KA_21.out.uns HCN.out (by omega) (by have := HK.out; omega) HA.out.2.2.2.1).mono ?_
          rintro e W22 ⟨AF, cF, rfl, ho, hb⟩
          rw [← HNA.out] at ho ⊢
          have hKF := Lib.hid (KpU.new HD_20.out.lt ho)
          clear KA_21
          have HD_23 := Lib.hid (HD_20.out.then_ hb)
          clear HD_20
          clear ho hb HCN
          obtain ⟨FA, hFA⟩ : ∃ x, x = Pl.fillL LA T := ⟨_, rfl⟩
          rw [← hFA] at hKF
          have HFA := Lib.hid hFA
          have HFL := Lib.hid (show FA.length = NA by rw [hFA, Pl.fill_len, HNA.out])
          clear hFA
          go_wp2_with fail
          refine (HD_23.out.text).mono ?_
          rintro e W24 ⟨ATX, cTX, rfl, ho, hb⟩
          rw [H2.out.2.2] at ho ⊢
          have HD_25 := Lib.hid (HD_23.out.then_ hb)
          have KF_26 := Lib.hid (hKF.out.then_ hb)
          clear HD_23 hKF
          obtain ⟨X2, hX2⟩ : ∃ x, x = Pl.leave LA T := ⟨_, rfl⟩
          rw [← hX2] at ho ⊢
          have HX2 := Lib.hid hX2
          have HX2L := Lib.hid (show X2.length ≤ 42 from by rw [hX2]; have := Pl.len_leave_le HA.out.2.2.2.1; have := HK.out; have := HTL.out; have := HA.out.2.2.1; omega)
          obtain ⟨N2, hN2⟩ : ∃ k, k = X2.length := ⟨_, rfl⟩
          rw [← hN2] at ho HX2L ⊢
          have HN2 := Lib.hid hN2
          clear ho hb hX2 hN2
          go_wp2_with fail
          refine (id13_any 2 1 W24).mono ?_
          rintro e W27 ⟨rfl, hb⟩
          have HD_28 := Lib.hid (HD_25.out.then_ hb)
          have KF_29 := Lib.hid (KF_26.out.then_ hb)
          clear HD_25 KF_26
          clear hb
          go_wp2_with fail
          refine (fitted_any B' m' d' l' N2 2 1 3000 W27 (Rws.then_ HUC.out HD_28.out.below) (by have := HX2L.out; omega) (by omega)).mono ?_
          rintro e W30 ⟨AB, cB, LB, rfl, hla, ho, hfi, _, hb⟩
          have hKB := Lib.hid (KpU.new HD_28.out.lt ho)
          have HD_31 := Lib.hid (HD_28.out.then_ hb)
          have KF_32 := Lib.hid (KF_29.out.then_ hb)
          clear HD_28 KF_29
          have hBk := Pl.fi_kinds hfi
          have hBo := Pl.fi_of hfi
          have hBf : Pl.FitR LB X2 := Pl.fi_fit (by omega) hfi HN2.out.symm (by have := HX2L.out; omega) (by omega)
          have hBb : Pl.Brings (fun c => 3000 ≤ c) LB := fun u hu hk => by have := Pl.fi_brings hfi u hu hk; show 3000 ≤ u.c; omega
          obtain ⟨Z, hZ⟩ : ∃ x, x = Pl.leave LB (Pl.leave LA T) := ⟨_, rfl⟩
          obtain ⟨R, hR⟩ : ∃ x, x = Pl.backR 1 2 (Pl.fillL LA T) [LB] := ⟨_, rfl⟩
          obtain ⟨d3, d4, d5, g1, g2, g3, g4, g5, g6, g7, g8, g9, g10, g11, g12, g13, g14, g15, g16⟩ := Pl.Dc.und_b HS.out.1 HS.out.2 (fun c hc => by rw [HT.out] at hc; obtain ⟨i, hi, rfl⟩ := Pl.num_mem hc; have := HK.out; omega) (by rw [HT.out]; exact Pl.num_nodup K) (by have := HK.out; have := HTL.out; omega) HA.out.1 HA.out.2.1 HA.out.2.2.1 HA.out.2.2.2.1 HA.out.2.2.2.2 (fun u hu => ⟨Pl.first_okay hBf u hu, hBo u hu⟩) (fun u hu => by rcases hBk u hu with h | h <;> rw [h] <;> decide) hla (by rw [← HX2.out]; exact hBf) hBb H2.out.2.1 hZ hR
          have H3 := Lib.hid (And.intro g1 (And.intro g2 g3))
          have H33 := Lib.hid g5
          have H4 := Lib.hid (And.intro g6 (And.intro g7 (And.intro g8 g9)))
          have H34 := Lib.hid g11
          have H5 := Lib.hid (And.intro g12 g13)
          have HT3 := Lib.hid (show d3.t ≤ 6 ∧ d4.t ≤ 8 from by have := HT2.out; omega)
          have HL := Lib.hid (And.intro g14 (And.intro g15 g16))
          have HRR := Lib.hid hR
          obtain ⟨NB, hNB⟩ : ∃ k, k = LB.length := ⟨_, rfl⟩
          rw [← hNB] at hKB hla ⊢
          have HNB := Lib.hid hNB
          have hnb : NB ≤ 12 := hla
          clear hb ho hfi hla hBk hBo hBf hBb g1 g2 g3 g4 g5 g6 g7 g8 g9 g10 g11 g12 g13 g14 g15 g16 hZ hR hNB
          go_wp2_with fail
          refine (id13_any 2 1 W30).mono ?_
          rintro e W33 ⟨rfl, hb⟩
          have HD_34 := Lib.hid (HD_31.out.then_ hb)
          have KF_35 := Lib.hid (KF_32.out.then_ hb)
          have KB_36 := Lib.hid (hKB.out.then_ hb)
          clear HD_31 KF_32 hKB
          clear hb
          go_wp2_with fail
          have HC := Lib.hid (editX HD_34.out (x := 2) (y := 1) (by decide) 2 (by decide) KB_36.out (by omega) 0 (by decide) (by decide) (by have := HT2.out; omega) (by decide) H3.out.1 H3.out.2.1)
          refine HC.out.mono ?_
          rintro e W37 ⟨k38, rv37, bb37, A37, n37, c37, B37, p37, q37, C37, r37, s37, rfl, hd, hv⟩
          clear HC
          have KF_39 := Lib.hid (KF_35.out.mv hv)
          have KB_40 := Lib.hid (KB_36.out.mv hv)
          have HD_41 := Lib.hid hd
          clear hd hv KF_35 KB_36 HD_34
          unfold aval
          have hfe := field_err 0 (.int .u32 0) (.int .u64 rv37) (.bool bb37) (.slice A37 n37 c37) (.slice B37 p37 q37) (.slice C37 r37 s37)
          go_wp2_with fail
          refine (HD_41.out.text).mono ?_
          rintro e W42 ⟨ABH, cBH, rfl, ho, hb⟩
          rw [H3.out.2.2] at ho ⊢
          have hKH := Lib.hid (KpC.new HD_41.out.lt ho)
          have HD_43 := Lib.hid (HD_41.out.then_ hb)
          have KF_44 := Lib.hid (KF_39.out.then_ hb)
          have KB_45 := Lib.hid (KB_40.out.then_ hb)
          clear HD_41 KF_39 KB_40
          obtain ⟨NZ, hNZ⟩ : ∃ k, k = Z.length := ⟨_, rfl⟩
          rw [← hNZ] at ho hKH HL ⊢
          have HNZ := Lib.hid hNZ
          have hnz : NZ ≤ 60 := HL.out.2.1
          clear ho hb hNZ
          go_wp2_with fail
          refine (id13_any 2 2 W42).mono ?_
          rintro e W46 ⟨rfl, hb⟩
          have HD_47 := Lib.hid (HD_43.out.then_ hb)
          have KF_48 := Lib.hid (KF_44.out.then_ hb)
          have KB_49 := Lib.hid (KB_45.out.then_ hb)
          have KH_50 := Lib.hid (hKH.out.then_ hb)
          clear HD_43 KF_44 KB_45 hKH
          clear hb
          go_wp2_with fail
          have HC := Lib.hid (undoX HD_47.out (x := 2) (y := 2) (by decide) 2 (by decide) 0 (by decide) (by decide) (by have := HT3.out; omega) (by decide) (e := 33) (by rw [H33.out]; rfl) (d' := d3.touched 0) (by rw [H33.out]))
          refine HC.out.mono ?_
          rintro e W51 ⟨k52, rv51, bb51, A51, n51, c51, B51, p51, q51, C51, r51, s51, rfl, hd, hv⟩
          clear HC
          have KF_53 := Lib.hid (KF_48.out.mv hv)
          have KB_54 := Lib.hid (KB_49.out.mv hv)
          have KH_55 := Lib.hid (KH_50.out.mv hv)
          have HD_56 := Lib.hid hd
          clear hd hv KF_48 KB_49 KH_50 HD_47
          unfold aval
          have hfe := field_err 33 (.int .u32 0) (.int .u64 rv51) (.bool bb51) (.slice A51 n51 c51) (.slice B51 p51 q51) (.slice C51 r51 s51)
          go_wp2_with fail
          refine (id13_any 1 2 W51).mono ?_
          rintro e W57 ⟨rfl, hb⟩
          have HD_58 := Lib.hid (HD_56.out.then_ hb)
          have KF_59 := Lib.hid (KF_53.out.then_ hb)
          have KB_60 := Lib.hid (KB_54.out.then_ hb)
          have KH_61 := Lib.hid (KH_55.out.then_ hb)
          clear HD_56 KF_53 KB_54 KH_55
          clear hb
          go_wp2_with fail
          have HC := Lib.hid (undoX HD_58.out (x := 1) (y := 2) (by decide) 2 (by decide) 0 (by decide) (by decide) (by show d3.t + 1 + 1 < _; have := HT3.out; omega) (by decide) H4.out.1.1 H4.out.1.2)
          refine HC.out.mono ?_
          rintro e W62 ⟨k63, rv62, bb62, A62, n62, c62, B62, p62, q62, C62, r62, s62, rfl, hd, hv⟩
          clear HC
          have KF_64 := Lib.hid (KF_59.out.mv hv)
          have KB_65 := Lib.hid (KB_60.out.mv hv)
          have KH_66 := Lib.hid (KH_61.out.mv hv)
          have HD_67 := Lib.hid hd
          clear hd hv KF_59 KB_60 KH_61 HD_58
          unfold aval
          have hfe := field_err 0 (.int .u32 0) (.int .u64 rv62) (.bool bb62) (.slice A62 n62 c62) (.slice B62 p62 q62) (.slice C62 r62 s62)
          obtain ⟨W68, hW⟩ : ∃ x, x = W62.alloc (.cells #[.int .i64 0, .int .u32 0, .int .u64 rv62, .bool bb62, .slice A62 n62 c62, .slice B62 p62 q62, .slice C62 r62 s62] 37) := ⟨_, rfl⟩
          have hb : Below W62.heap.size W62 W68 := by rw [hW]; exact below_box _ _
          have HWW68 := Lib.hid hW
          have HD_69 := Lib.hid (HD_67.out.then_ hb)
          have KF_70 := Lib.hid (KF_64.out.then_ hb)
          have KB_71 := Lib.hid (KB_65.out.then_ hb)
          have KH_72 := Lib.hid (KH_66.out.then_ hb)
          clear HD_67 KF_64 KB_65 KH_66
          have KX_73 := Lib.hid (show KpX W68 W62.heap.size 0 from by rw [hW]; exact KpX.new _ _ _ _)
          obtain ⟨bKX, hbx⟩ : ∃ x, x = W62.heap.size := ⟨_, rfl⟩
          have HKXB := Lib.hid hbx
          clear hb hW
          go_wp2_with fail
          rw [← HWW68.out, ← hbx]
          rw [← hbx] at KX_73
          clear hbx
          refine (id13_any 1 2 W68).mono ?_
          rintro e W74 ⟨rfl, hb⟩
          have HD_75 := Lib.hid (HD_69.out.then_ hb)
          have KF_76 := Lib.hid (KF_70.out.then_ hb)
          have KB_77 := Lib.hid (KB_71.out.then_ hb)
          have KH_78 := Lib.hid (KH_72.out.then_ hb)
          have KX_79 := Lib.hid (KX_73.out.then_ hb)
          clear HD_69 KF_70 KB_71 KH_72 KX_73
          clear hb
          go_wp2_with fail
          obtain ⟨W80, hW⟩ : ∃ x, x = W74.alloc (.cells #[.slice AB NB cB] 29) := ⟨_, rfl⟩
          have hx : RowsV (W74.alloc (.cells #[.slice AB NB cB] 29)) (some ⟨W74.heap.size, 0, none⟩) [⟨AB, NB, cB, LB⟩] := rows_one W74 ⟨AB, NB, cB, LB⟩ KB_77.out.uns (by simp only; omega)
          have hb : Below W74.heap.size W74 W80 := by rw [hW]; exact below_box _ _
          rw [← hW] at hx ⊢
          have HD_81 := Lib.hid (HD_75.out.then_ hb)
          have KF_82 := Lib.hid (KF_76.out.then_ hb)
          have KB_83 := Lib.hid (KB_77.out.then_ hb)
          have KH_84 := Lib.hid (KH_78.out.then_ hb)
          have KX_85 := Lib.hid (KX_79.out.then_ hb)
          clear HD_75 KF_76 KB_77 KH_78 KX_79
          have HRV := Lib.hid hx
          clear hb hx hW
          refine (back_any AF NA cF FA 1 2 _ 1 [⟨AB, NB, cB, LB⟩] W80 KF_82.out.uns HRV.out (by omega) (by simp)).mono ?_
          rintro e W86 ⟨AR, cR, rfl, ho, hb⟩
          simp only [List.map_cons, List.map_nil] at ho ⊢
          rw [show Pl.cleanL (Pl.pastR (Pl.invR 1 2 FA) [LB]) = R from by rw [HRR.out, HFA.out]; rfl] at ho ⊢
          clear KF_82
          clear KB_83
          have HD_87 := Lib.hid (HD_81.out.then_ hb)
          have KH_88 := Lib.hid (KH_84.out.then_ hb)
          have KX_89 := Lib.hid (KX_85.out.then_ hb)
          clear HD_81 KH_84 KX_85
          have HOR := Lib.hid ho
          obtain ⟨NR, hNR⟩ : ∃ k, k = R.length := ⟨_, rfl⟩
          rw [← hNR] at HOR HL ⊢
          have HNR := Lib.hid hNR
          have hnr : NR ≤ 12 := HL.out.1
          clear ho hb HRV hNR
          go_wp2_with fail
          refine (applyR_fit ABH NZ cBH Z AR NR cR R W86 KH_88.out.crs (OwnU.uns HOR.out) (by omega) (by omega) H4.out.2.1).mono ?_
          rintro e W90 ⟨AW, cW, rfl, ho, hb⟩
          obtain ⟨EN, hEN⟩ : ∃ x, x = Pl.leave R Z := ⟨_, rfl⟩
          rw [← hEN] at ho H4 HL ⊢
          obtain ⟨NE, hNE⟩ : ∃ k, k = EN.length := ⟨_, rfl⟩
          rw [← hNE] at ho HL ⊢
          have HNE := Lib.hid hNE
          have hne : NE ≤ 100 := HL.out.2.2
          have hKW := Lib.hid (KpC.new HD_87.out.lt ho)
          have HD_91 := Lib.hid (HD_87.out.then_ hb)
          have KH_92 := Lib.hid (KH_88.out.then_ hb)
          have KX_93 := Lib.hid (KX_89.out.then_ hb)
          clear HD_87 KH_88 KX_89
          have hx0 := KX_93.out.1
          clear ho hb HOR hEN hNE
          go_wp2_with fail
          clear KX_93
          refine (HD_91.out.text).mono ?_
          rintro e W94 ⟨AT2, cT2, rfl, ho, hb⟩
          rw [H4.out.2.2.1] at ho ⊢
          rw [← HNE.out] at ho ⊢
          have HD_95 := Lib.hid (HD_91.out.then_ hb)
          have KH_96 := Lib.hid (KH_92.out.then_ hb)
          have KW_97 := Lib.hid (hKW.out.then_ hb)
          clear HD_91 KH_92 hKW
          have hq := equalC_any AT2 AW NE cT2 NE cW EN EN W94 ho.crs.2 KW_97.out.crs
          rw [decide_eq_true rfl] at hq
          have HQ := Lib.hid hq
          clear ho hb hq hx0
          go_wp2_with fail
          refine (HQ.out).mono ?_
          rintro e W98 ⟨rfl, hb⟩
          have HD_99 := Lib.hid (HD_95.out.then_ hb)
          have KH_100 := Lib.hid (KH_96.out.then_ hb)
          have KW_101 := Lib.hid (KW_97.out.then_ hb)
          clear HD_95 KH_96 KW_97
          clear hb
          clear KW_101
          clear HQ
          go_wp2_with fail
          refine (id13_any 1 3 W98).mono ?_
          rintro e W102 ⟨rfl, hb⟩
          have HD_103 := Lib.hid (HD_99.out.then_ hb)
          have KH_104 := Lib.hid (KH_100.out.then_ hb)
          clear HD_99 KH_100
          clear hb
          go_wp2_with fail
          have HC := Lib.hid (undoX HD_103.out (x := 1) (y := 3) (by decide) 2 (by decide) 0 (by decide) (by decide) (by have := HT3.out; omega) (by decide) (e := 34) (by rw [H34.out]; rfl) (d' := d4.touched 0) (by rw [H34.out]))
          refine HC.out.mono ?_
          rintro e W105 ⟨k106, rv105, bb105, A105, n105, c105, B105, p105, q105, C105, r105, s105, rfl, hd, hv⟩
          clear HC
          have KH_107 := Lib.hid (KH_104.out.mv hv)
          have HD_108 := Lib.hid hd
          clear hd hv KH_104 HD_103
          unfold aval
          have hfe := field_err 34 (.int .u32 0) (.int .u64 rv105) (.bool bb105) (.slice A105 n105 c105) (.slice B105 p105 q105) (.slice C105 r105 s105)
          go_wp2_with fail
          refine (HD_108.out.text).mono ?_
          rintro e W109 ⟨AT3, cT3, rfl, ho, hb⟩
          rw [show (d4.touched 0).cs = EN from H4.out.2.2.1] at ho ⊢
          rw [← HNE.out] at ho ⊢
          have HD_110 := Lib.hid (HD_108.out.then_ hb)
          have KH_111 := Lib.hid (KH_107.out.then_ hb)
          clear HD_108 KH_107
          have HO3 := Lib.hid ho.crs.2
          obtain ⟨WT, hWT⟩ : ∃ x, x = W109 := ⟨_, rfl⟩
          rw [← hWT] at HO3 HD_110 KH_111 ⊢
          clear ho hb hWT
          go_wp2_with fail
          go_loopw [132] (fun i wr => LkR WT NE i wr) (fun i _ => NE - (intOf i).toNat)
          case atStart => exact ⟨0, rfl, Nat.zero_le _, Below.refl _ _⟩
          case round =>
            obtain ⟨j, rfl, hj, hb⟩ := hrel
            by_cases hlt : j < NE
            · have z0 : (0 : Int) ≤ (j : Int) := Int.natCast_nonneg j
              have z1 : (j : Int) < (NE : Int) := Int.ofNat_lt.2 hlt
              obtain ⟨g1, o1, eA, _, hc1⟩ := (HO3.out.then_ hb).at_ hlt
              subst eA
              have a0 := hc1 j hlt
              have hme : EN.getD j 0 ∈ EN := by rw [List.getD_eq_getElem?_getD, List.getElem?_eq_getElem (by rw [← HNE.out]; exact hlt)]; exact List.getElem_mem _
              have hr2 := H4.out.2.2.2 _ hme
              obtain ⟨x, hx⟩ : ∃ x, x = EN.getD j 0 := ⟨_, rfl⟩
              rw [← hx] at a0 hr2
              have HB := Lib.hid hb
              have HJ := Lib.hid hlt
              unfold Pl.R2 at hr2
              clear hc1 hme hx hb hj
              by_cases hx2 : (2000 : Int) ≤ x
              · have hx3 : ¬ x < 3000 := fun h => hr2 ⟨hx2, h⟩
                clear hr2
                go_wp2_with fail
                go_roundw
                case rel => exact ⟨j + 1, by go_num, HJ.out, HB.out⟩
                case measure => simp [intOf]; (have := HJ.out; omega)
              · clear hr2
                go_wp2_with fail
                go_roundw
                case rel => exact ⟨j + 1, by go_num, HJ.out, HB.out⟩
                case measure => simp [intOf]; (have := HJ.out; omega)
            · clear HO3
              have HD_112 := Lib.hid (HD_110.out.then_ hb)
              have KH_113 := Lib.hid (KH_111.out.then_ hb)
              clear HD_110 KH_111
              have z1 : decide ((j : Int) < (NE : Int)) = false := decide_eq_false (by omega)
              have z2 : ¬ (j : Int) < (NE : Int) := by omega
              clear hb hj hlt
              go_wp2_with fail
              refine (id13_any 1 4 wr).mono ?_
              rintro e W114 ⟨rfl, hb⟩
              have HD_115 := Lib.hid (HD_112.out.then_ hb)
              have KH_116 := Lib.hid (KH_113.out.then_ hb)
              clear HD_112 KH_113
              clear hb
              go_wp2_with fail
              have HC := Lib.hid (undoX HD_115.out (x := 1) (y := 4) (by decide) 4 (by decide) 0 (by decide) (by decide) (by show d4.t + 1 + 1 < _; have := HT3.out; omega) (by decide) H5.out.1.1 H5.out.1.2)
              refine HC.out.mono ?_
              rintro e W117 ⟨k118, rv117, bb117, A117, n117, c117, B117, p117, q117, C117, r117, s117, rfl, hd, hv⟩
              clear HC
              have KH_119 := Lib.hid (KH_116.out.mv hv)
              have HD_120 := Lib.hid hd
              clear hd hv KH_116 HD_115
              unfold aval
              have hfe := field_err 0 (.int .u32 0) (.int .u64 rv117) (.bool bb117) (.slice A117 n117 c117) (.slice B117 p117 q117) (.slice C117 r117 s117)
              obtain ⟨W121, hW⟩ : ∃ x, x = W117.alloc (.cells #[.int .i64 0, .int .u32 0, .int .u64 rv117, .bool bb117, .slice A117 n117 c117, .slice B117 p117 q117, .slice C117 r117 s117] 37) := ⟨_, rfl⟩
              have hb : Below W117.heap.size W117 W121 := by rw [hW]; exact below_box _ _
              have HWW121 := Lib.hid hW
              have HD_122 := Lib.hid (HD_120.out.then_ hb)
              have KH_123 := Lib.hid (KH_119.out.then_ hb)
              clear HD_120 KH_119
              have KY_124 := Lib.hid (show KpX W121 W117.heap.size 0 from by rw [hW]; exact KpX.new _ _ _ _)
              obtain ⟨bKY, hbx⟩ : ∃ x, x = W117.heap.size := ⟨_, rfl⟩
              have HKYB := Lib.hid hbx
              clear hb hW
              go_wp2_with fail
              rw [← HWW121.out, ← hbx]
              rw [← hbx] at KY_124
              clear hbx
              refine (awake_any W121).mono ?_
              rintro e W125 ⟨rfl, hb⟩
              have HD_126 := Lib.hid (HD_122.out.then_ hb)
              have KH_127 := Lib.hid (KH_123.out.then_ hb)
              have KY_128 := Lib.hid (KY_124.out.then_ hb)
              clear HD_122 KH_123 KY_124
              clear hb
              have hy0 := KY_128.out.1
              go_wp2_with fail
              clear KY_128
              refine (HD_126.out.text).mono ?_
              rintro e W129 ⟨AT4, cT4, rfl, ho, hb⟩
              rw [H5.out.2] at ho ⊢
              rw [← HNZ.out] at ho ⊢
              have HD_130 := Lib.hid (HD_126.out.then_ hb)
              have KH_131 := Lib.hid (KH_127.out.then_ hb)
              clear HD_126 KH_127
              have hq := equalC_any AT4 ABH NZ cT4 NZ cBH Z Z W129 ho.crs.2 KH_131.out.crs
              rw [decide_eq_true rfl] at hq
              have HQ := Lib.hid hq
              clear ho hb hq hy0
              go_wp2_with fail
              refine (HQ.out).mono ?_
              rintro e W132 ⟨rfl, hb⟩
              have HD_133 := Lib.hid (HD_130.out.then_ hb)
              have KH_134 := Lib.hid (KH_131.out.then_ hb)
              clear HD_130 KH_131
              clear hb
              go_wp2_with fail
              go_ret
              exact ⟨rfl, HD_133.out.below⟩
end docUndoes
end Go.Proofs.YtldmnkakpmplnaaGreat
