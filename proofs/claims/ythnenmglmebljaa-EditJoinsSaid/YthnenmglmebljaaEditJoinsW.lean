/-
  The walk of EditJoins: whatever two rows come in, it returns true; nothing that was there turned. Conditions: those that it states.
-/
import Derived.Test.YthnenmglmebljaaEdO
import Derived.Test.YthnenmglmebljaaEdR
import Derived.BigQuiet
namespace Go.Proofs.Ythnenmglmebljaa
open Go.RowKit
open Pl (Un)

namespace editJoins
theorem runs_len (A : Option Addr) (n c : Nat) (l : List Un) (w : World) (h1 : Uns w w.heap.size A n c l) (hn : n ≤ 1000) (hI : (∀ u ∈ l, Pl.I u.p) ∧ ∀ u ∈ l, Pl.J u.c) :
    Calls Try.prog 19 #[.slice A n c] w fun e w' => ∃ B d L, e = .returned (.slice B (Pl.runs l).length d) ∧ Rns w' B (Pl.runs l).length d L ∧ L.map RnV.rn = Pl.runs l ∧ Below w.heap.size w w' := by
  refine (runs_any A n c l w h1 hn hI.1 hI.2).mono ?_
  rintro e w' ⟨B, d, L, rfl, hr, hL, hb⟩
  have hl : L.length = (Pl.runs l).length := by rw [← hL, List.length_map]
  rw [hl] at hr ⊢
  exact ⟨B, d, L, rfl, hr, hL, hb⟩
/-- ahead: how many chars -/
def SuR (w1 w : World) (R : List Pl.Rn) (s i : Value) (wr : World) : Prop := ∃ j : Nat, i = .int .i64 (j : Int) ∧ s = .int .i64 ((Pl.sumR (R.take j) : Nat) : Int) ∧ j ≤ R.length ∧ Below w1.heap.size w1 wr ∧ Below w.heap.size w wr
theorem sum_next {L : List RnV} {R : List Pl.Rn} (h : L.map RnV.rn = R) {j : Nat} (hj : j < L.length) : Pl.sumR (R.take (j + 1)) = Pl.sumR (R.take j) + (L.getD j default).cs.length ∧ Pl.sumR (R.take (j + 1)) ≤ Pl.sumR R := by
  have e : R[j]? = some (L.getD j default).rn := by
    rw [← h, List.getElem?_map, List.getElem?_eq_getElem hj, List.getD_eq_getElem?_getD, List.getElem?_eq_getElem hj]; rfl
  have h1 : Pl.sumR (R.take (j + 1)) = Pl.sumR (R.take j) + (L.getD j default).rn.cs.length := by
    rw [List.take_add_one, e, Pl.sum_append]; simp [Pl.sumR]
  refine ⟨h1, ?_⟩
  have h2 := Pl.sum_take_le R j _ e
  omega
set_option maxRecDepth 100000 in
set_option maxHeartbeats 4000000 in
theorem walk (w : World) (A : Option Addr) (n c : Nat) (l : List Un) (hA : Units w w.heap.size A n c l) (A' : Option Addr) (n' c' : Nat) (l' : List Un) (hB : Units w w.heap.size A' n' c' l') :
    Calls Try.prog 7 #[.slice A n c, .slice A' n' c'] w fun e w' => e = .returned (.bool true) ∧ Below w.heap.size w w' := by
  obtain ⟨K, hK⟩ : ∃ K, K = min n 100 := ⟨_, rfl⟩
  obtain ⟨K', hK'⟩ : ∃ K, K = min n' 100 := ⟨_, rfl⟩
  have m1 : (if (100 : Int) < (n : Int) then (100 : Int) else (n : Int)) = (K : Int) := by split <;> omega
  have m2 : (if (100 : Int) < (n' : Int) then (100 : Int) else (n' : Int)) = (K' : Int) := by split <;> omega
  have s1 := slice_toU A n c K (by have := hA.1.le; omega)
  have s2 := slice_toU A' n' c' K' (by have := hB.1.le; omega)
  obtain ⟨la, hla⟩ : ∃ x, x = l.take K := ⟨_, rfl⟩
  obtain ⟨lb, hlb⟩ : ∃ x, x = l'.take K' := ⟨_, rfl⟩
  have hUA : Units w w.heap.size A K c la := by rw [hla]; exact hA.upto (by omega)
  have hUB : Units w w.heap.size A' K' c' lb := by rw [hlb]; exact hB.upto (by omega)
  have A_0 := Lib.hid hUA.1
  have B_0 := Lib.hid hUB.1
  have HIA := Lib.hid (units_I hUA)
  have HIB := Lib.hid (units_I hUB)
  have HIC := Lib.hid (show (∀ u ∈ la ++ lb, Pl.I u.p) ∧ ∀ u ∈ la ++ lb, Pl.J u.c from ⟨fun u hu => (List.mem_append.1 hu).elim (HIA.out.1 u) (HIB.out.1 u), fun u hu => (List.mem_append.1 hu).elim (HIA.out.2 u) (HIB.out.2 u)⟩)
  have hk1 : K ≤ 100 := by omega
  have hk2 : K' ≤ 100 := by omega
  have HLA := Lib.hid A_0.out.len
  have HLB := Lib.hid B_0.out.len
  have HJN := Lib.hid (Pl.len_join la lb)
  have HCL := Lib.hid (Pl.clean_append la lb)
  have HGR := Lib.hid (Pl.grows_append la lb)
  have HGA := Lib.hid (Pl.growsL_le la)
  have HGB := Lib.hid (Pl.growsL_le lb)
  obtain ⟨lc, hlc⟩ : ∃ lc, lc = la ++ lb := ⟨_, rfl⟩
  obtain ⟨N, hN⟩ : ∃ N, N = K + K' := ⟨_, rfl⟩
  have HLC := Lib.hid (show lc.length = N by rw [hlc, hN, List.length_append, HLA.out, HLB.out])
  have hN2 : N ≤ 200 := by omega
  rw [← hlc] at HIC HJN HCL HGR
  obtain ⟨_, _, hsum, hlz, _⟩ := Pl.runs_inv lc HIC.out.1
  obtain ⟨_, _, _, hlx, _⟩ := Pl.runs_inv la HIA.out.1
  obtain ⟨_, _, _, hly, _⟩ := Pl.runs_inv lb HIB.out.1
  have HSUM := Lib.hid hsum
  obtain ⟨X, hX⟩ : ∃ X, X = (Pl.runs la).length := ⟨_, rfl⟩
  obtain ⟨Y, hY⟩ : ∃ X, X = (Pl.runs lb).length := ⟨_, rfl⟩
  obtain ⟨Z, hZ⟩ : ∃ X, X = (Pl.runs lc).length := ⟨_, rfl⟩
  have hx1 : X ≤ 100 := by rw [hX]; have := HLA.out; omega
  have hy1 : Y ≤ 100 := by rw [hY]; have := HLB.out; omega
  have hz1 : Z ≤ 200 := by rw [hZ]; have := HLC.out; omega
  have HX := Lib.hid hX
  have HY := Lib.hid hY
  have HZ := Lib.hid hZ
  have HLCE := Lib.hid hlc
  have HN := Lib.hid hN
  have HBD := Lib.hid (show K ≤ 100 ∧ K' ≤ 100 ∧ N ≤ 200 from ⟨hk1, hk2, hN2⟩)
  have HJ2 := Lib.hid (show Z = X + Y ∨ Z + 1 = X + Y ∧ 0 < X ∧ 0 < Y by
    rw [hX, hY, hZ]
    rcases HJN.out with h | ⟨h, h1, h2⟩
    · exact Or.inl h
    · exact Or.inr ⟨h, List.length_pos_iff.2 h1, List.length_pos_iff.2 h2⟩)
  clear hA hB hK hK' hla hlb hUA hUB hsum hlz hlx hly hX hY hZ hlc hN HJN
  go_enter Try.func7, Try.ntmps7
  go_wp2_with fail
  go_quiet (fail)
  obtain ⟨w0, hw0⟩ : ∃ x, x = w.drewN nq := ⟨_, rfl⟩
  have HB0 := Lib.hid (show Below w.heap.size w w0 by rw [hw0]; exact below_drewN (Below.refl _ _) _)
  have HW0 := Lib.hid hw0
  clear hw0
  have hsz := HB0.out.size
  have hnil : OwnU w0 w.heap.size (.slice none 0 0) [] := OwnR.nil_ _ _ _ _ _
  rw [HW0.out] at hsz hnil
  have AX := Lib.hid (Rws.then_ A_0.out HB0.out)
  rw [HW0.out] at AX
  go_wp2_with (at_builtin; refine wpList_append_rws encU_len encU_one Try.underlying27 infoUn (by decide) (by decide) (w.drewN nq) rfl (.const (.slice none 0 0)) (.tmp 23) rfl w.heap.size none 0 0 [] (by rfl) hnil _ A K c la (by rfl) AX.out (by unfold maxLen; omega) (by omega) hsz ?_)
  intro P1 e1 w1 hP1 hg1 _
  have b1 : Below w.heap.size w w1 := HB0.out.trans (OwnR.grownBelow hnil (by exact hg1) (by rw [HW0.out]; exact Below.refl _ _) hsz)
  clear m1 m2 s1 s2 hsz hnil AX hg1
  have hsz := b1.size
  have BX := Lib.hid (Rws.then_ B_0.out b1)
  have HP1 := Lib.hid hP1
  have Hb1 := Lib.hid b1
  clear hP1 b1
  go_wp2_with (at_builtin; refine wpList_append_rws encU_len encU_one Try.underlying27 infoUn (by decide) (by decide) w1 rfl (.tmp 24) (.tmp 25) rfl w.heap.size P1 K e1 la (by rfl) HP1.out _ A' K' c' lb (by rfl) BX.out (by unfold maxLen; omega) (by omega) hsz ?_)
  intro P2 e2 w2 hP2 hg2 _
  have HB2 := Lib.hid (OwnR.grownBelow HP1.out hg2 Hb1.out hsz)
  have A_1 := Lib.hid (Rws.then_ A_0.out HB2.out)
  have B_1 := Lib.hid (Rws.then_ B_0.out HB2.out)
  rw [← HN.out, ← HLCE.out] at hP2
  rw [← HN.out]
  have C_1 := Lib.hid hP2
  clear hsz BX HP1 Hb1 hP2 hg2 A_0 B_0
  go_wp2_with fail
  refine (runs_len A K c la w2 A_1.out (by omega) HIA.out).mono ?_
  rintro e w_2 ⟨Pr1, Pr2, Pr3, rfl, hr, hL, hb⟩
  have A_3 := Lib.hid (Rws.then_ A_1.out hb)
  have B_4 := Lib.hid (Rws.then_ B_1.out hb)
  have C_5 := Lib.hid (OwnR.then_ C_1.out hb)
  have HB_6 := Lib.hid (below_then' HB2.out hb HB2.out.size)
  clear A_1 B_1 C_1 HB2
  rw [← HX.out] at hr ⊢
  have Pr_7 := Lib.hid (hr)
  have HMPr := Lib.hid hL
  clear hb hr hL
  go_wp2_with fail
  refine (runs_len A' K' c' lb w_2 B_4.out (by omega) HIB.out).mono ?_
  rintro e w_8 ⟨Qr1, Qr2, Qr3, rfl, hr, hL, hb⟩
  have A_9 := Lib.hid (Rws.then_ A_3.out hb)
  have B_10 := Lib.hid (Rws.then_ B_4.out hb)
  have C_11 := Lib.hid (OwnR.then_ C_5.out hb)
  have Pr_12 := Lib.hid (Rns.then_ Pr_7.out hb)
  have HB_13 := Lib.hid (below_then' HB_6.out hb HB_6.out.size)
  clear A_3 B_4 C_5 Pr_7 HB_6
  rw [← HY.out] at hr ⊢
  have Qr_14 := Lib.hid (hr)
  have HMQr := Lib.hid hL
  clear hb hr hL
  go_wp2_with fail
  refine (runs_len P2 N e2 lc w_8 (OwnU.uns C_11.out) (by omega) HIC.out).mono ?_
  rintro e w_15 ⟨Rr1, Rr2, Rr3, rfl, hr, hL, hb⟩
  have A_16 := Lib.hid (Rws.then_ A_9.out hb)
  have B_17 := Lib.hid (Rws.then_ B_10.out hb)
  have C_18 := Lib.hid (OwnR.then_ C_11.out hb)
  have Pr_19 := Lib.hid (Rns.then_ Pr_12.out hb)
  have Qr_20 := Lib.hid (Rns.then_ Qr_14.out hb)
  have HB_21 := Lib.hid (below_then' HB_13.out hb HB_13.out.size)
  clear A_9 B_10 C_11 Pr_12 Qr_14 HB_13
  rw [← HZ.out] at hr ⊢
  have Rr_22 := Lib.hid (hr)
  have HMRr := Lib.hid hL
  clear hb hr hL
  clear Pr_19
  clear Qr_20
  rcases HJ2.out with h | ⟨h, h1, h2⟩
  · have hzz : ((Z : Int) != (X : Int) + (Y : Int)) = false := by
      have e : (Z : Int) = (X : Int) + (Y : Int) := by omega
      rw [e]; simp
    have hz2 : True := trivial
    have hx0 : True := trivial
    have hy0 : True := trivial
    clear h
    go_wp2_with fail
    have HRZ := Rr_22
    clear hz2 hx0 hy0
    go_loopw [9, 10] (fun s i wr => SuR w_15 w (Pl.runs lc) s i wr) (fun _ i _ => Z - (intOf i).toNat)
    case atStart => exact ⟨0, rfl, by simp [Pl.sumR], Nat.zero_le _, Below.refl _ _, HB_21.out⟩
    case round =>
      obtain ⟨j, rfl, rfl, hj, hbb, hb⟩ := hrel
      have HBB := Lib.hid hbb
      have HB := Lib.hid hb
      rw [← HZ.out] at hj
      clear hbb hb
      by_cases hlt : j < Z
      · have hjl : j < Rr3.length := by have h := congrArg List.length HMRr.out; rw [List.length_map] at h; rw [h, ← HZ.out]; exact hlt
        obtain ⟨g, o, rfl, _, hc⟩ := Rnr.at_ (HRZ.out.then_ HBB.out).1 hlt
        have a4 := (hc j hlt).2.2.2.2
        have hcr := (HRZ.out.2 (Rr3.getD j default) (by rw [List.getD_eq_getElem?_getD, List.getElem?_eq_getElem hjl]; exact List.getElem_mem hjl)).len
        obtain ⟨hs1, hs2⟩ := sum_next HMRr.out hjl
        rw [HSUM.out, HLC.out] at hs2
        obtain ⟨r, hr⟩ : ∃ r, r = Rr3.getD j default := ⟨_, rfl⟩
        rw [← hr] at a4 hcr hs1
        obtain ⟨k, p, x, y, ra, rn, rc, cs⟩ := r
        simp only at a4 hcr hs1
        rw [hcr] at hs1
        obtain ⟨S, hS⟩ : ∃ S, S = Pl.sumR ((Pl.runs lc).take j) := ⟨_, rfl⟩
        rw [← hS] at hs1
        have hb1 : S + rn ≤ 200 := by omega
        have HSN := Lib.hid (show Value.int .i64 ((S : Int) + (rn : Int)) = .int .i64 ((Pl.sumR ((Pl.runs lc).take (j + 1)) : Nat) : Int) by rw [hs1, Int.natCast_add])
        have z0 : (0 : Int) ≤ (j : Int) := Int.natCast_nonneg j
        have z1 : (j : Int) < (Z : Int) := Int.ofNat_lt.2 hlt
        have HMS := Lib.hid (show Z - (j + 1) < Z - j by omega)
        have HJ1 := Lib.hid (show j + 1 ≤ (Pl.runs lc).length by rw [← HZ.out]; exact hlt)
        rw [← hS]
        clear hc hr hs1 hs2 hS hcr
        go_wp2_with fail
        go_roundw
        case rel => exact ⟨j + 1, by go_num, HSN.out, HJ1.out, HBB.out, HB.out⟩
        case measure => simp [intOf]; exact HMS.out
      · obtain rfl : j = Z := by omega
        have hsN : Pl.sumR ((Pl.runs lc).take j) = N := by rw [HZ.out, List.take_length, HSUM.out, HLC.out]
        rw [hsN]
        clear hsN
        clear Rr_22
        have A_123 := Lib.hid (Rws.then_ A_16.out HBB.out)
        have B_124 := Lib.hid (Rws.then_ B_17.out HBB.out)
        have C_125 := Lib.hid (OwnR.then_ C_18.out HBB.out)
        have HB_126 := Lib.hid (below_then' HB_21.out HBB.out HB_21.out.size)
        clear A_16 B_17 C_18 HB_21
        go_wp2_with fail
        refine (clean_any A K c la wr A_123.out (by omega)).mono ?_
        rintro e v1 ⟨Cl1, Cld1, rfl, hp1, hb1⟩
        have HV1 := Lib.hid hb1
        have HP1 := Lib.hid hp1
        have BV1 := Lib.hid (Rws.then_ B_124.out hb1)
        clear hb1 hp1
        go_wp2_with fail
        refine (clean_any A' K' c' lb v1 BV1.out (by omega)).mono ?_
        rintro e v2 ⟨Cl2, Cld2, rfl, hp2, hb2⟩
        have HV2 := Lib.hid (below_then HV1.out hb2)
        have HP2 := Lib.hid (OwnR.then_ HP1.out hb2)
        have HQ2 := Lib.hid (OwnU.uns hp2)
        clear hb2 hp2 HV1 HP1 BV1
        obtain ⟨na, hna⟩ : ∃ na, na = (Pl.cleanL la).length := ⟨_, rfl⟩
        obtain ⟨nb, hnb⟩ : ∃ nb, nb = (Pl.cleanL lb).length := ⟨_, rfl⟩
        have hna1 : na ≤ 100 := by rw [hna]; have := Pl.len_clean la; have := HLA.out; omega
        have hnb1 : nb ≤ 100 := by rw [hnb]; have := Pl.len_clean lb; have := HLB.out; omega
        rw [← hna] at HP2
        rw [← hnb] at HQ2
        try simp only [← hna, ← hnb]
        have hsz := HV2.out.size
        clear hna hnb
        go_wp2_with (at_builtin; refine wpList_append_rws encU_len encU_one Try.underlying27 infoUn (by decide) (by decide) v2 rfl (.tmp 77) (.tmp 79) rfl wr.heap.size Cl1 na Cld1 (Pl.cleanL la) (by rfl) HP2.out _ Cl2 nb Cld2 (Pl.cleanL lb) (by rfl) HQ2.out (by unfold maxLen; omega) (by omega) hsz ?_)
        intro Cl3 Cld3 v3Cl hp3 hg3 _
        have hb3 := OwnR.grownBelow HP2.out hg3 HV2.out hsz
        clear HV2 HP2 HQ2 hg3 hsz
        obtain ⟨nCl, hn3⟩ : ∃ x, x = na + nb := ⟨_, rfl⟩
        rw [← hn3] at hp3 ⊢
        clear hn3 hna1 hnb1
        have A_127 := Lib.hid (Rws.then_ A_123.out hb3)
        have B_128 := Lib.hid (Rws.then_ B_124.out hb3)
        have C_129 := Lib.hid (OwnR.then_ C_125.out hb3)
        have HB_130 := Lib.hid (below_then' HB_126.out hb3 HB_126.out.size)
        clear A_123 B_124 C_125 HB_126
        have Cl_131 := Lib.hid (hp3)
        clear hb3 hp3
        go_wp2_with fail
        refine (own_any A K c la v3Cl A_127.out (by omega)).mono ?_
        rintro e v1 ⟨Ow1, Owd1, rfl, hp1, hb1⟩
        have HV1 := Lib.hid hb1
        have HP1 := Lib.hid hp1
        have BV1 := Lib.hid (Rws.then_ B_128.out hb1)
        clear hb1 hp1
        go_wp2_with fail
        refine (own_any A' K' c' lb v1 BV1.out (by omega)).mono ?_
        rintro e v2 ⟨Ow2, Owd2, rfl, hp2, hb2⟩
        have HV2 := Lib.hid (below_then HV1.out hb2)
        have HP2 := Lib.hid (OwnR.then_ HP1.out hb2)
        have HQ2 := Lib.hid (OwnU.uns hp2)
        clear hb2 hp2 HV1 HP1 BV1
        obtain ⟨na, hna⟩ : ∃ na, na = (la).length := ⟨_, rfl⟩
        obtain ⟨nb, hnb⟩ : ∃ nb, nb = (lb).length := ⟨_, rfl⟩
        have hna1 : na ≤ 100 := by rw [hna]; have := HLA.out; omega
        have hnb1 : nb ≤ 100 := by rw [hnb]; have := HLB.out; omega
        rw [← hna] at HP2
        rw [← hnb] at HQ2
        try simp only [← hna, ← hnb]
        have hsz := HV2.out.size
        clear hna hnb
        go_wp2_with (at_builtin; refine wpList_append_rws encU_len encU_one Try.underlying27 infoUn (by decide) (by decide) v2 rfl (.tmp 82) (.tmp 84) rfl v3Cl.heap.size Ow1 na Owd1 (la) (by rfl) HP2.out _ Ow2 nb Owd2 (lb) (by rfl) HQ2.out (by unfold maxLen; omega) (by omega) hsz ?_)
        intro Ow3 Owd3 v3Ow hp3 hg3 _
        have hb3 := OwnR.grownBelow HP2.out hg3 HV2.out hsz
        clear HV2 HP2 HQ2 hg3 hsz
        obtain ⟨nOw, hn3⟩ : ∃ x, x = na + nb := ⟨_, rfl⟩
        rw [← hn3] at hp3 ⊢
        clear hn3 hna1 hnb1
        have A_132 := Lib.hid (Rws.then_ A_127.out hb3)
        have B_133 := Lib.hid (Rws.then_ B_128.out hb3)
        have C_134 := Lib.hid (OwnR.then_ C_129.out hb3)
        have Cl_135 := Lib.hid (OwnR.then_ Cl_131.out hb3)
        have HB_136 := Lib.hid (below_then' HB_130.out hb3 HB_130.out.size)
        clear A_127 B_128 C_129 Cl_131 HB_130
        have Ow_137 := Lib.hid (hp3)
        clear hb3 hp3
        go_wp2_with fail
        obtain ⟨ga, hga⟩ : ∃ ga, ga = Pl.growsL la := ⟨_, rfl⟩
        obtain ⟨gb, hgb⟩ : ∃ gb, gb = Pl.growsL lb := ⟨_, rfl⟩
        have hg1 := HGA.out
        have hg2 := HGB.out
        rw [← hga] at hg1
        rw [← hgb] at hg2
        rw [HLA.out] at hg1
        rw [HLB.out] at hg2
        have HGE := Lib.hid (show Pl.growsL lc = ga + gb by rw [HGR.out, hga, hgb])
        have HGA2 := Lib.hid hga
        have HGB2 := Lib.hid hgb
        obtain ⟨g1, g2⟩ := hg1
        obtain ⟨g3, g4⟩ := hg2
        have g5 : ga ≤ 100 := by omega
        have g6 : -100 ≤ ga := by omega
        have g7 : gb ≤ 100 := by omega
        have g8 : -100 ≤ gb := by omega
        clear g1 g2 g3 g4 hga hgb
        refine (growsL_any P2 N e2 lc v3Ow (OwnU.uns C_134.out) (by omega)).mono ?_
        rintro e w_138 ⟨rfl, hb⟩
        have A_139 := Lib.hid (Rws.then_ A_132.out hb)
        have B_140 := Lib.hid (Rws.then_ B_133.out hb)
        have C_141 := Lib.hid (OwnR.then_ C_134.out hb)
        have Cl_142 := Lib.hid (OwnR.then_ Cl_135.out hb)
        have Ow_143 := Lib.hid (OwnR.then_ Ow_137.out hb)
        have HB_144 := Lib.hid (below_then' HB_136.out hb HB_136.out.size)
        clear A_132 B_133 C_134 Cl_135 Ow_137 HB_136
        clear hb
        rw [HGE.out]
        go_wp2_with fail
        refine (growsL_any A K c la w_138 A_139.out (by omega)).mono ?_
        rintro e w_145 ⟨rfl, hb⟩
        have A_146 := Lib.hid (Rws.then_ A_139.out hb)
        have B_147 := Lib.hid (Rws.then_ B_140.out hb)
        have C_148 := Lib.hid (OwnR.then_ C_141.out hb)
        have Cl_149 := Lib.hid (OwnR.then_ Cl_142.out hb)
        have Ow_150 := Lib.hid (OwnR.then_ Ow_143.out hb)
        have HB_151 := Lib.hid (below_then' HB_144.out hb HB_144.out.size)
        clear A_139 B_140 C_141 Cl_142 Ow_143 HB_144
        clear hb
        rw [← HGA2.out]
        go_wp2_with fail
        refine (growsL_any A' K' c' lb w_145 B_147.out (by omega)).mono ?_
        rintro e w_152 ⟨rfl, hb⟩
        have A_153 := Lib.hid (Rws.then_ A_146.out hb)
        have B_154 := Lib.hid (Rws.then_ B_147.out hb)
        have C_155 := Lib.hid (OwnR.then_ C_148.out hb)
        have Cl_156 := Lib.hid (OwnR.then_ Cl_149.out hb)
        have Ow_157 := Lib.hid (OwnR.then_ Ow_150.out hb)
        have HB_158 := Lib.hid (below_then' HB_151.out hb HB_151.out.size)
        clear A_146 B_147 C_148 Cl_149 Ow_150 HB_151
        clear hb
        rw [← HGB2.out]
        go_wp2_with fail
        refine (clean_any P2 N e2 lc w_152 (OwnU.uns C_155.out) (by omega)).mono ?_
        rintro e w_159 ⟨D1, dd1, rfl, ho, hb⟩
        have A_160 := Lib.hid (Rws.then_ A_153.out hb)
        have B_161 := Lib.hid (Rws.then_ B_154.out hb)
        have C_162 := Lib.hid (OwnR.then_ C_155.out hb)
        have Cl_163 := Lib.hid (OwnR.then_ Cl_156.out hb)
        have Ow_164 := Lib.hid (OwnR.then_ Ow_157.out hb)
        have HB_165 := Lib.hid (below_then' HB_158.out hb HB_158.out.size)
        clear A_153 B_154 C_155 Cl_156 Ow_157 HB_158
        obtain ⟨nD, hnD⟩ : ∃ x, x = (Pl.cleanL lc).length := ⟨_, rfl⟩
        rw [← hnD] at ho ⊢
        have D_166 := Lib.hid (ho)
        clear hb ho hnD g5 g6 g7 g8
        have hq := same_any _ _ _ _ _ _ _ _ w_159 (OwnU.uns D_166.out) (OwnU.uns Cl_163.out)
        rw [decide_eq_true HCL.out] at hq
        go_wp2_with fail
        refine (hq).mono ?_
        rintro e w_167 ⟨rfl, hb⟩
        have A_168 := Lib.hid (Rws.then_ A_160.out hb)
        have B_169 := Lib.hid (Rws.then_ B_161.out hb)
        have C_170 := Lib.hid (OwnR.then_ C_162.out hb)
        have Cl_171 := Lib.hid (OwnR.then_ Cl_163.out hb)
        have Ow_172 := Lib.hid (OwnR.then_ Ow_164.out hb)
        have D_173 := Lib.hid (OwnR.then_ D_166.out hb)
        have HB_174 := Lib.hid (below_then' HB_165.out hb HB_165.out.size)
        clear A_160 B_161 C_162 Cl_163 Ow_164 D_166 HB_165
        clear hb hq
        clear D_173
        clear Cl_171
        have hq := same_any _ _ _ _ _ _ _ _ w_167 (OwnU.uns Ow_172.out) (OwnU.uns C_170.out)
        rw [decide_eq_true HLCE.out.symm] at hq
        go_wp2_with fail
        refine (hq).mono ?_
        rintro e w_175 ⟨rfl, hb⟩
        have A_176 := Lib.hid (Rws.then_ A_168.out hb)
        have B_177 := Lib.hid (Rws.then_ B_169.out hb)
        have C_178 := Lib.hid (OwnR.then_ C_170.out hb)
        have Ow_179 := Lib.hid (OwnR.then_ Ow_172.out hb)
        have HB_180 := Lib.hid (below_then' HB_174.out hb HB_174.out.size)
        clear A_168 B_169 C_170 Ow_172 HB_174
        clear hb hq
        clear Ow_179
        obtain ⟨q, hq0⟩ : ∃ q, q = decide (la = lb) := ⟨_, rfl⟩
        have HQ := Lib.hid hq0
        have HQ2 := Lib.hid (show decide (lb = la) = q by rw [hq0]; exact decide_eq_decide.2 ⟨Eq.symm, Eq.symm⟩)
        clear hq0
        have hq := same_any _ _ _ _ _ _ _ _ w_175 A_176.out B_177.out
        rw [← HQ.out] at hq
        go_wp2_with fail
        refine (hq).mono ?_
        rintro e w_181 ⟨rfl, hb⟩
        have A_182 := Lib.hid (Rws.then_ A_176.out hb)
        have B_183 := Lib.hid (Rws.then_ B_177.out hb)
        have C_184 := Lib.hid (OwnR.then_ C_178.out hb)
        have HB_185 := Lib.hid (below_then' HB_180.out hb HB_180.out.size)
        clear A_176 B_177 C_178 HB_180
        clear hb hq
        have hq := same_any _ _ _ _ _ _ _ _ w_181 B_183.out A_182.out
        rw [HQ2.out] at hq
        go_wp2_with fail
        refine (hq).mono ?_
        rintro e w_186 ⟨rfl, hb⟩
        have A_187 := Lib.hid (Rws.then_ A_182.out hb)
        have B_188 := Lib.hid (Rws.then_ B_183.out hb)
        have C_189 := Lib.hid (OwnR.then_ C_184.out hb)
        have HB_190 := Lib.hid (below_then' HB_185.out hb HB_185.out.size)
        clear A_182 B_183 C_184 HB_185
        clear hb hq
        have hq := same_any _ _ _ _ _ _ lc lc w_186 (OwnU.uns C_189.out) (OwnU.uns C_189.out)
        rw [decide_eq_true rfl] at hq
        go_wp2_with fail
        refine (hq).mono ?_
        rintro e w_191 ⟨rfl, hb⟩
        have A_192 := Lib.hid (Rws.then_ A_187.out hb)
        have B_193 := Lib.hid (Rws.then_ B_188.out hb)
        have C_194 := Lib.hid (OwnR.then_ C_189.out hb)
        have HB_195 := Lib.hid (below_then' HB_190.out hb HB_190.out.size)
        clear A_187 B_188 C_189 HB_190
        clear hb hq
        clear A_192
        clear B_193
        clear C_194
        go_wp2_with fail
        refine (awake_any w_191).mono ?_
        rintro e w_196 ⟨rfl, hb⟩
        have HB_197 := Lib.hid (below_then' HB_195.out hb HB_195.out.size)
        clear HB_195
        clear hb
        go_wp2_with fail
        go_ret
        exact ⟨rfl, HB_197.out⟩
  · have hzz : ((Z : Int) != (X : Int) + (Y : Int)) = true := by rw [bne_iff_ne]; omega
    have hz2 : ((Z : Int) != (X : Int) + (Y : Int) - 1) = false := by
      have e : (Z : Int) = (X : Int) + (Y : Int) - 1 := by omega
      rw [e]; simp
    have hx0 : ((X : Int) == 0) = false := by rw [beq_eq_false_iff_ne]; omega
    have hy0 : ((Y : Int) == 0) = false := by rw [beq_eq_false_iff_ne]; omega
    clear h h1 h2
    go_wp2_with fail
    have HRZ := Rr_22
    clear hz2 hx0 hy0
    go_loopw [9, 10] (fun s i wr => SuR w_15 w (Pl.runs lc) s i wr) (fun _ i _ => Z - (intOf i).toNat)
    case atStart => exact ⟨0, rfl, by simp [Pl.sumR], Nat.zero_le _, Below.refl _ _, HB_21.out⟩
    case round =>
      obtain ⟨j, rfl, rfl, hj, hbb, hb⟩ := hrel
      have HBB := Lib.hid hbb
      have HB := Lib.hid hb
      rw [← HZ.out] at hj
      clear hbb hb
      by_cases hlt : j < Z
      · have hjl : j < Rr3.length := by have h := congrArg List.length HMRr.out; rw [List.length_map] at h; rw [h, ← HZ.out]; exact hlt
        obtain ⟨g, o, rfl, _, hc⟩ := Rnr.at_ (HRZ.out.then_ HBB.out).1 hlt
        have a4 := (hc j hlt).2.2.2.2
        have hcr := (HRZ.out.2 (Rr3.getD j default) (by rw [List.getD_eq_getElem?_getD, List.getElem?_eq_getElem hjl]; exact List.getElem_mem hjl)).len
        obtain ⟨hs1, hs2⟩ := sum_next HMRr.out hjl
        rw [HSUM.out, HLC.out] at hs2
        obtain ⟨r, hr⟩ : ∃ r, r = Rr3.getD j default := ⟨_, rfl⟩
        rw [← hr] at a4 hcr hs1
        obtain ⟨k, p, x, y, ra, rn, rc, cs⟩ := r
        simp only at a4 hcr hs1
        rw [hcr] at hs1
        obtain ⟨S, hS⟩ : ∃ S, S = Pl.sumR ((Pl.runs lc).take j) := ⟨_, rfl⟩
        rw [← hS] at hs1
        have hb1 : S + rn ≤ 200 := by omega
        have HSN := Lib.hid (show Value.int .i64 ((S : Int) + (rn : Int)) = .int .i64 ((Pl.sumR ((Pl.runs lc).take (j + 1)) : Nat) : Int) by rw [hs1, Int.natCast_add])
        have z0 : (0 : Int) ≤ (j : Int) := Int.natCast_nonneg j
        have z1 : (j : Int) < (Z : Int) := Int.ofNat_lt.2 hlt
        have HMS := Lib.hid (show Z - (j + 1) < Z - j by omega)
        have HJ1 := Lib.hid (show j + 1 ≤ (Pl.runs lc).length by rw [← HZ.out]; exact hlt)
        rw [← hS]
        clear hc hr hs1 hs2 hS hcr
        go_wp2_with fail
        go_roundw
        case rel => exact ⟨j + 1, by go_num, HSN.out, HJ1.out, HBB.out, HB.out⟩
        case measure => simp [intOf]; exact HMS.out
      · obtain rfl : j = Z := by omega
        have hsN : Pl.sumR ((Pl.runs lc).take j) = N := by rw [HZ.out, List.take_length, HSUM.out, HLC.out]
        rw [hsN]
        clear hsN
        clear Rr_22
        have A_123 := Lib.hid (Rws.then_ A_16.out HBB.out)
        have B_124 := Lib.hid (Rws.then_ B_17.out HBB.out)
        have C_125 := Lib.hid (OwnR.then_ C_18.out HBB.out)
        have HB_126 := Lib.hid (below_then' HB_21.out HBB.out HB_21.out.size)
        clear A_16 B_17 C_18 HB_21
        go_wp2_with fail
        refine (clean_any A K c la wr A_123.out (by omega)).mono ?_
        rintro e v1 ⟨Cl1, Cld1, rfl, hp1, hb1⟩
        have HV1 := Lib.hid hb1
        have HP1 := Lib.hid hp1
        have BV1 := Lib.hid (Rws.then_ B_124.out hb1)
        clear hb1 hp1
        go_wp2_with fail
        refine (clean_any A' K' c' lb v1 BV1.out (by omega)).mono ?_
        rintro e v2 ⟨Cl2, Cld2, rfl, hp2, hb2⟩
        have HV2 := Lib.hid (below_then HV1.out hb2)
        have HP2 := Lib.hid (OwnR.then_ HP1.out hb2)
        have HQ2 := Lib.hid (OwnU.uns hp2)
        clear hb2 hp2 HV1 HP1 BV1
        obtain ⟨na, hna⟩ : ∃ na, na = (Pl.cleanL la).length := ⟨_, rfl⟩
        obtain ⟨nb, hnb⟩ : ∃ nb, nb = (Pl.cleanL lb).length := ⟨_, rfl⟩
        have hna1 : na ≤ 100 := by rw [hna]; have := Pl.len_clean la; have := HLA.out; omega
        have hnb1 : nb ≤ 100 := by rw [hnb]; have := Pl.len_clean lb; have := HLB.out; omega
        rw [← hna] at HP2
        rw [← hnb] at HQ2
        try simp only [← hna, ← hnb]
        have hsz := HV2.out.size
        clear hna hnb
        go_wp2_with (at_builtin; refine wpList_append_rws encU_len encU_one Try.underlying27 infoUn (by decide) (by decide) v2 rfl (.tmp 77) (.tmp 79) rfl wr.heap.size Cl1 na Cld1 (Pl.cleanL la) (by rfl) HP2.out _ Cl2 nb Cld2 (Pl.cleanL lb) (by rfl) HQ2.out (by unfold maxLen; omega) (by omega) hsz ?_)
        intro Cl3 Cld3 v3Cl hp3 hg3 _
        have hb3 := OwnR.grownBelow HP2.out hg3 HV2.out hsz
        clear HV2 HP2 HQ2 hg3 hsz
        obtain ⟨nCl, hn3⟩ : ∃ x, x = na + nb := ⟨_, rfl⟩
        rw [← hn3] at hp3 ⊢
        clear hn3 hna1 hnb1
        have A_127 := Lib.hid (Rws.then_ A_123.out hb3)
        have B_128 := Lib.hid (Rws.then_ B_124.out hb3)
        have C_129 := Lib.hid (OwnR.then_ C_125.out hb3)
        have HB_130 := Lib.hid (below_then' HB_126.out hb3 HB_126.out.size)
        clear A_123 B_124 C_125 HB_126
        have Cl_131 := Lib.hid (hp3)
        clear hb3 hp3
        go_wp2_with fail
        refine (own_any A K c la v3Cl A_127.out (by omega)).mono ?_
        rintro e v1 ⟨Ow1, Owd1, rfl, hp1, hb1⟩
        have HV1 := Lib.hid hb1
        have HP1 := Lib.hid hp1
        have BV1 := Lib.hid (Rws.then_ B_128.out hb1)
        clear hb1 hp1
        go_wp2_with fail
        refine (own_any A' K' c' lb v1 BV1.out (by omega)).mono ?_
        rintro e v2 ⟨Ow2, Owd2, rfl, hp2, hb2⟩
        have HV2 := Lib.hid (below_then HV1.out hb2)
        have HP2 := Lib.hid (OwnR.then_ HP1.out hb2)
        have HQ2 := Lib.hid (OwnU.uns hp2)
        clear hb2 hp2 HV1 HP1 BV1
        obtain ⟨na, hna⟩ : ∃ na, na = (la).length := ⟨_, rfl⟩
        obtain ⟨nb, hnb⟩ : ∃ nb, nb = (lb).length := ⟨_, rfl⟩
        have hna1 : na ≤ 100 := by rw [hna]; have := HLA.out; omega
        have hnb1 : nb ≤ 100 := by rw [hnb]; have := HLB.out; omega
        rw [← hna] at HP2
        rw [← hnb] at HQ2
        try simp only [← hna, ← hnb]
        have hsz := HV2.out.size
        clear hna hnb
        go_wp2_with (at_builtin; refine wpList_append_rws encU_len encU_one Try.underlying27 infoUn (by decide) (by decide) v2 rfl (.tmp 82) (.tmp 84) rfl v3Cl.heap.size Ow1 na Owd1 (la) (by rfl) HP2.out _ Ow2 nb Owd2 (lb) (by rfl) HQ2.out (by unfold maxLen; omega) (by omega) hsz ?_)
        intro Ow3 Owd3 v3Ow hp3 hg3 _
        have hb3 := OwnR.grownBelow HP2.out hg3 HV2.out hsz
        clear HV2 HP2 HQ2 hg3 hsz
        obtain ⟨nOw, hn3⟩ : ∃ x, x = na + nb := ⟨_, rfl⟩
        rw [← hn3] at hp3 ⊢
        clear hn3 hna1 hnb1
        have A_132 := Lib.hid (Rws.then_ A_127.out hb3)
        have B_133 := Lib.hid (Rws.then_ B_128.out hb3)
        have C_134 := Lib.hid (OwnR.then_ C_129.out hb3)
        have Cl_135 := Lib.hid (OwnR.then_ Cl_131.out hb3)
        have HB_136 := Lib.hid (below_then' HB_130.out hb3 HB_130.out.size)
        clear A_127 B_128 C_129 Cl_131 HB_130
        have Ow_137 := Lib.hid (hp3)
        clear hb3 hp3
        go_wp2_with fail
        obtain ⟨ga, hga⟩ : ∃ ga, ga = Pl.growsL la := ⟨_, rfl⟩
        obtain ⟨gb, hgb⟩ : ∃ gb, gb = Pl.growsL lb := ⟨_, rfl⟩
        have hg1 := HGA.out
        have hg2 := HGB.out
        rw [← hga] at hg1
        rw [← hgb] at hg2
        rw [HLA.out] at hg1
        rw [HLB.out] at hg2
        have HGE := Lib.hid (show Pl.growsL lc = ga + gb by rw [HGR.out, hga, hgb])
        have HGA2 := Lib.hid hga
        have HGB2 := Lib.hid hgb
        obtain ⟨g1, g2⟩ := hg1
        obtain ⟨g3, g4⟩ := hg2
        have g5 : ga ≤ 100 := by omega
        have g6 : -100 ≤ ga := by omega
        have g7 : gb ≤ 100 := by omega
        have g8 : -100 ≤ gb := by omega
        clear g1 g2 g3 g4 hga hgb
        refine (growsL_any P2 N e2 lc v3Ow (OwnU.uns C_134.out) (by omega)).mono ?_
        rintro e w_138 ⟨rfl, hb⟩
        have A_139 := Lib.hid (Rws.then_ A_132.out hb)
        have B_140 := Lib.hid (Rws.then_ B_133.out hb)
        have C_141 := Lib.hid (OwnR.then_ C_134.out hb)
        have Cl_142 := Lib.hid (OwnR.then_ Cl_135.out hb)
        have Ow_143 := Lib.hid (OwnR.then_ Ow_137.out hb)
        have HB_144 := Lib.hid (below_then' HB_136.out hb HB_136.out.size)
        clear A_132 B_133 C_134 Cl_135 Ow_137 HB_136
        clear hb
        rw [HGE.out]
        go_wp2_with fail
        refine (growsL_any A K c la w_138 A_139.out (by omega)).mono ?_
        rintro e w_145 ⟨rfl, hb⟩
        have A_146 := Lib.hid (Rws.then_ A_139.out hb)
        have B_147 := Lib.hid (Rws.then_ B_140.out hb)
        have C_148 := Lib.hid (OwnR.then_ C_141.out hb)
        have Cl_149 := Lib.hid (OwnR.then_ Cl_142.out hb)
        have Ow_150 := Lib.hid (OwnR.then_ Ow_143.out hb)
        have HB_151 := Lib.hid (below_then' HB_144.out hb HB_144.out.size)
        clear A_139 B_140 C_141 Cl_142 Ow_143 HB_144
        clear hb
        rw [← HGA2.out]
        go_wp2_with fail
        refine (growsL_any A' K' c' lb w_145 B_147.out (by omega)).mono ?_
        rintro e w_152 ⟨rfl, hb⟩
        have A_153 := Lib.hid (Rws.then_ A_146.out hb)
        have B_154 := Lib.hid (Rws.then_ B_147.out hb)
        have C_155 := Lib.hid (OwnR.then_ C_148.out hb)
        have Cl_156 := Lib.hid (OwnR.then_ Cl_149.out hb)
        have Ow_157 := Lib.hid (OwnR.then_ Ow_150.out hb)
        have HB_158 := Lib.hid (below_then' HB_151.out hb HB_151.out.size)
        clear A_146 B_147 C_148 Cl_149 Ow_150 HB_151
        clear hb
        rw [← HGB2.out]
        go_wp2_with fail
        refine (clean_any P2 N e2 lc w_152 (OwnU.uns C_155.out) (by omega)).mono ?_
        rintro e w_159 ⟨D1, dd1, rfl, ho, hb⟩
        have A_160 := Lib.hid (Rws.then_ A_153.out hb)
        have B_161 := Lib.hid (Rws.then_ B_154.out hb)
        have C_162 := Lib.hid (OwnR.then_ C_155.out hb)
        have Cl_163 := Lib.hid (OwnR.then_ Cl_156.out hb)
        have Ow_164 := Lib.hid (OwnR.then_ Ow_157.out hb)
        have HB_165 := Lib.hid (below_then' HB_158.out hb HB_158.out.size)
        clear A_153 B_154 C_155 Cl_156 Ow_157 HB_158
        obtain ⟨nD, hnD⟩ : ∃ x, x = (Pl.cleanL lc).length := ⟨_, rfl⟩
        rw [← hnD] at ho ⊢
        have D_166 := Lib.hid (ho)
        clear hb ho hnD g5 g6 g7 g8
        have hq := same_any _ _ _ _ _ _ _ _ w_159 (OwnU.uns D_166.out) (OwnU.uns Cl_163.out)
        rw [decide_eq_true HCL.out] at hq
        go_wp2_with fail
        refine (hq).mono ?_
        rintro e w_167 ⟨rfl, hb⟩
        have A_168 := Lib.hid (Rws.then_ A_160.out hb)
        have B_169 := Lib.hid (Rws.then_ B_161.out hb)
        have C_170 := Lib.hid (OwnR.then_ C_162.out hb)
        have Cl_171 := Lib.hid (OwnR.then_ Cl_163.out hb)
        have Ow_172 := Lib.hid (OwnR.then_ Ow_164.out hb)
        have D_173 := Lib.hid (OwnR.then_ D_166.out hb)
        have HB_174 := Lib.hid (below_then' HB_165.out hb HB_165.out.size)
        clear A_160 B_161 C_162 Cl_163 Ow_164 D_166 HB_165
        clear hb hq
        clear D_173
        clear Cl_171
        have hq := same_any _ _ _ _ _ _ _ _ w_167 (OwnU.uns Ow_172.out) (OwnU.uns C_170.out)
        rw [decide_eq_true HLCE.out.symm] at hq
        go_wp2_with fail
        refine (hq).mono ?_
        rintro e w_175 ⟨rfl, hb⟩
        have A_176 := Lib.hid (Rws.then_ A_168.out hb)
        have B_177 := Lib.hid (Rws.then_ B_169.out hb)
        have C_178 := Lib.hid (OwnR.then_ C_170.out hb)
        have Ow_179 := Lib.hid (OwnR.then_ Ow_172.out hb)
        have HB_180 := Lib.hid (below_then' HB_174.out hb HB_174.out.size)
        clear A_168 B_169 C_170 Ow_172 HB_174
        clear hb hq
        clear Ow_179
        obtain ⟨q, hq0⟩ : ∃ q, q = decide (la = lb) := ⟨_, rfl⟩
        have HQ := Lib.hid hq0
        have HQ2 := Lib.hid (show decide (lb = la) = q by rw [hq0]; exact decide_eq_decide.2 ⟨Eq.symm, Eq.symm⟩)
        clear hq0
        have hq := same_any _ _ _ _ _ _ _ _ w_175 A_176.out B_177.out
        rw [← HQ.out] at hq
        go_wp2_with fail
        refine (hq).mono ?_
        rintro e w_181 ⟨rfl, hb⟩
        have A_182 := Lib.hid (Rws.then_ A_176.out hb)
        have B_183 := Lib.hid (Rws.then_ B_177.out hb)
        have C_184 := Lib.hid (OwnR.then_ C_178.out hb)
        have HB_185 := Lib.hid (below_then' HB_180.out hb HB_180.out.size)
        clear A_176 B_177 C_178 HB_180
        clear hb hq
        have hq := same_any _ _ _ _ _ _ _ _ w_181 B_183.out A_182.out
        rw [HQ2.out] at hq
        go_wp2_with fail
        refine (hq).mono ?_
        rintro e w_186 ⟨rfl, hb⟩
        have A_187 := Lib.hid (Rws.then_ A_182.out hb)
        have B_188 := Lib.hid (Rws.then_ B_183.out hb)
        have C_189 := Lib.hid (OwnR.then_ C_184.out hb)
        have HB_190 := Lib.hid (below_then' HB_185.out hb HB_185.out.size)
        clear A_182 B_183 C_184 HB_185
        clear hb hq
        have hq := same_any _ _ _ _ _ _ lc lc w_186 (OwnU.uns C_189.out) (OwnU.uns C_189.out)
        rw [decide_eq_true rfl] at hq
        go_wp2_with fail
        refine (hq).mono ?_
        rintro e w_191 ⟨rfl, hb⟩
        have A_192 := Lib.hid (Rws.then_ A_187.out hb)
        have B_193 := Lib.hid (Rws.then_ B_188.out hb)
        have C_194 := Lib.hid (OwnR.then_ C_189.out hb)
        have HB_195 := Lib.hid (below_then' HB_190.out hb HB_190.out.size)
        clear A_187 B_188 C_189 HB_190
        clear hb hq
        clear A_192
        clear B_193
        clear C_194
        go_wp2_with fail
        refine (awake_any w_191).mono ?_
        rintro e w_196 ⟨rfl, hb⟩
        have HB_197 := Lib.hid (below_then' HB_195.out hb HB_195.out.size)
        clear HB_195
        clear hb
        go_wp2_with fail
        go_ret
        exact ⟨rfl, HB_197.out⟩
end editJoins
end Go.Proofs.Ythnenmglmebljaa
