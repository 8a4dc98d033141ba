/-
  MarkApart's walk: a copy has the same and lives apart, what happens to both is alike: it returns true; nothing that was there turns. Conditions: what the law is given can be read as data.
-/
import Derived.Test.YtfjnliebgndemaaMkE
namespace Go.Proofs.Ytfjnliebgndemaa.markApart
open Go.RowKit
open Pl (Un)

theorem below_drewN {B : Nat} {w w' : World} (h : Below B w w') (n : Nat) : Below B w (w'.drewN n) := ⟨h.os, h.tape, h.output, h.size, h.block⟩
/-- between one mark and the next -/
def InR (w : World) (z : Nat) (i : Value) (wr : World) : Prop := ∃ t : Nat, i = .int .i64 (t : Int) ∧ t ≤ z ∧ Below w.heap.size w wr



set_option maxRecDepth 100000 in
set_option maxHeartbeats 4000000 in
theorem walk (W : World) (n0 : Nat) (hn0 : n0 < 256) (A : Option Addr) (n c : Nat) (La : List ActM) (hL : Rws encA W W.heap.size A n c La ∧ ∀ o ∈ La, Units W W.heap.size o.A o.n o.c o.l ∧ Pl.I o.k ∧ (0 ≤ o.x ∧ o.x ≤ 4294967295) ∧ Pl.I o.p) (a0 : Nat) (ha0 : a0 < 256) :
    Calls Try.prog 5 #[.int .u8 (n0 : Int), .slice A n c, .int .u8 (a0 : Int)] W fun e w' => e = .returned (.bool true) ∧ Below W.heap.size W w' := by
  obtain ⟨hrow, hact⟩ := hL
  have hle := hrow.le
  have hcap := hrow.cap
  unfold maxLen at hcap
  obtain ⟨L, hLL⟩ : ∃ f, f = n0 % 61 := ⟨_, rfl⟩
  have hL60 : L ≤ 60 := by have := Nat.mod_lt n0 (show 0 < 61 by decide); omega
  have r1 : (n0 : Int).tmod 61 = (L : Int) := by rw [Int.tmod_eq_emod_of_nonneg (by omega), hLL]; rfl
  have r1b : (n0 : Int) % 61 = (L : Int) := by rw [hLL]; exact (Int.natCast_emod n0 61).symm
  obtain ⟨a40, ha40⟩ : ∃ f, f = a0 % 40 := ⟨_, rfl⟩
  have r2 : (a0 : Int).tmod 40 = (a40 : Int) := by rw [Int.tmod_eq_emod_of_nonneg (by omega), ha40]; rfl
  have r2b : (a0 : Int) % 40 = (a40 : Int) := by rw [ha40]; exact (Int.natCast_emod a0 40).symm
  have ha4 : a40 < 40 := by omega
  have HROW := Lib.hid hrow
  have HACT := Lib.hid hact
  have HN1 := fun w => Lib.hid (newM_own (L : Int) w (by omega))
  have HWA := fun w => Lib.hid (awakeM w)
  clear hrow hact hLL ha40 hle
  go_enter Try.func5, Try.ntmps5
  go_wp2_with fail
  refine (HN1 _).out.mono ?_
  rintro e w1 ⟨p, b, rfl, h1, hb1⟩
  have H1 := Lib.hid h1
  have HB1 := Lib.hid hb1
  clear h1 hb1 HN1 r1 r1b
  go_wp2_with fail
  refine (HWA _).out.mono ?_
  rintro e w2 ⟨rfl, hb2⟩
  have HS2 := Lib.hid (show AmR W p n (.pointer (some ⟨p, 0, none⟩)) (.int .i64 ((0 : Nat) : Int)) w2 from ⟨0, b, p, b, (L : Int), [], rfl, rfl, Nat.zero_le _, Nat.zero_le _, by omega, ApS.one (H1.out.then_ hb2) (below_then HB1.out hb2)⟩)
  clear hb2 H1 HB1 HWA
  go_wp2_with fail
  go_loopw [9, 34] (fun u i wr => AmR W p n u i wr) (fun _ i _ => n - (intOf i).toNat)
  case atStart => exact HS2.out
  case round =>
    obtain ⟨v, b1, q, d, N, M, rfl, rfl, hv, hv2, hN, hk⟩ := hrel
    have HK := Lib.hid hk
    clear hk HS2
    by_cases hlt : v < n
    · have hrw := Rws.then_ HROW.out HK.out.below
      obtain ⟨g, o, rfl, hg, hcl⟩ := Rws.at_ encA_len hrw hlt
      have c0 := hcl v hlt 0 _ (by decide) rfl
      have c1 := hcl v hlt 1 _ (by decide) rfl
      have c2 := hcl v hlt 2 _ (by decide) rfl
      have c3 := hcl v hlt 3 _ (by decide) rfl
      have hac := HACT.out (La.getD v default) (by rw [List.getD_eq_getElem?_getD, List.getElem?_eq_getElem (by rw [hrw.len]; exact hlt)]; exact List.getElem_mem _)
      obtain ⟨⟨k, x, pos, B, m, ce, l⟩, hq⟩ : ∃ q, q = La.getD v default := ⟨_, rfl⟩
      rw [← hq] at c0 c1 c2 c3 hac
      simp only [Nat.add_zero, ← Nat.add_assoc] at c0 c1 c2 c3 hac
      have z0 : (0 : Int) ≤ (v : Int) := Int.natCast_nonneg _
      have z1 : (v : Int) < (n : Int) := Int.ofNat_lt.2 hlt
      have HWV := Lib.hid (show wrap64 ((v : Int) + 1) = ((v + 1 : Nat) : Int) by unfold wrap64; omega)
      have HMS := Lib.hid (show n - (v + 1) < n - v by omega)
      clear hrw hcl hq
      by_cases hlt2 : v < 40
      · have z2 : ((v : Int) == 40) = false := by rw [beq_eq_false_iff_ne]; omega
        have HX := Lib.hid (show 0 ≤ x ∧ x < 4294967296 by have := hac.2.2.1; omega)
        have HUN := Lib.hid (show ∀ w, Below W.heap.size W w → Uns w w.heap.size B m ce l from fun w hb => Rws.then_ hac.1.1 hb)
        have HNE := Lib.hid (show N ≤ 60 + 20 * (v : Int) ∧ v < n ∧ v < 40 from ⟨hN, hlt, hlt2⟩)
        clear hac hN hlt2 hv hv2 hlt
        obtain ⟨row, hrow⟩ : ∃ r, r = l.take (min m 20) := ⟨_, rfl⟩
        have HROW2 := Lib.hid hrow
        obtain ⟨E, N2, M2, hdo⟩ : ∃ E N2 M2, Pl.doL k x pos row N M = (E, N2, M2) := ⟨_, _, _, rfl⟩
        have HDO := Lib.hid hdo
        have HN2 := Lib.hid (show N2 ≤ 60 + 20 * ((v + 1 : Nat) : Int) by
          have h1 := Pl.doL_le (k := k) (x := x) (p := pos) (row := row) (M := M) HK.out.m.at_.ok.long.1
          rw [hdo] at h1
          have h2 : row.length ≤ 20 := by rw [hrow, List.length_take]; omega
          have h3 := HNE.out
          simp only at h1
          omega)
        clear hrow hdo
        obtain ⟨V, hV⟩ : ∃ V, V = wr.alloc (.cells #[.int .i64 k, .int .u32 x, .int .i64 pos, .slice B m ce] 49) := ⟨_, rfl⟩
        have hP0 : V.heap[wr.heap.size]? = some (.cells #[.int .i64 k, .int .u32 x, .int .i64 pos, .slice B m ce] 49 (0, 0)) := by rw [hV]; exact heap_new rfl
        have hbV : Below wr.heap.size wr V := by rw [hV]; exact below_box _ _
        have HBX := Lib.hid (show ∀ w, Below V.heap.size V w → w.heap[wr.heap.size]? = some (.cells #[.int .i64 k, .int .u32 x, .int .i64 pos, .slice B m ce] 49 (0, 0)) from fun w hb => below_old hb hP0 (lt_of_block hP0))
        have HKV := Lib.hid (HK.out.then_ hbV)
        have HLT := Lib.hid (And.intro HK.out.m.at_.lt HK.out.m.at_.own.lt)
        have HV := Lib.hid hV
        obtain ⟨cx1, hcx1⟩ : ∃ z, z = (x + 1) % 4294967296 := ⟨_, rfl⟩
        have HCX := Lib.hid (show 0 ≤ cx1 ∧ cx1 < 4294967296 by omega)
        have hwx : IntKind.u32.wrap (x + 1) = cx1 := by rw [hcx1, IntKind.wrap_u32]
        clear hP0 hbV hV HK hcx1
        by_cases hva : v = a40
        · have z3 : ((v : Int) == (a40 : Int)) = true := by rw [hva]; simp
          clear hva
          go_wp2_with fail
          rw [← HV.out]
          refine (copyM HKV.out.m.at_).mono ?_
          rintro e w3 ⟨q3, d3, rfl, hq3, hd3, hu3, hb3⟩
          have HK3 := Lib.hid (ApS.copied HKV.out.m HKV.out.below hq3 hd3 hu3 hb3)
          have HB3 := Lib.hid hb3
          clear hq3 hd3 hu3 hb3 c0 c1 c2 c3
          go_wp2_with fail
          have HCO := Lib.hid (copyM HK3.out.m.at_)
          refine HCO.out.mono ?_
          rintro e w4 ⟨po, bo, rfl, hpo, hbo, ho4, hb4⟩
          have HO4 := Lib.hid (show MarksO w4 (World.heap w3).size po bo N M from ⟨hpo, hbo, ho4⟩)
          have HC4 := Lib.hid hb4
          have HD4 := Lib.hid (does_q ho4 (HBX.out w4 (below_then HB3.out hb4)) HX.out (HUN.out w4 (below_then HK3.out.below hb4)) (by have := HNE.out; omega) HROW2.out HDO.out)
          clear hpo hbo ho4 hb4 HCO
          go_wp2_with fail
          refine HD4.out.mono ?_
          rintro e w5 ⟨bo5, rfl, h5a, h5b, h5c⟩
          have h5 := HO4.out.did HC4.out h5a h5b h5c
          have HO5 := Lib.hid h5.1
          have HC5 := Lib.hid h5.2
          have cx := cell1 (r := [.int .i64 pos, .slice B m ce]) (HBX.out w5 (below_then HB3.out h5.2))
          have HS5 := Lib.hid (setM_any h5.1.at_ HCX.out (v := 0) ⟨Int.le_refl _, h5.1.at_.ok.long.1⟩)
          clear h5a h5b h5c h5 HD4 HO4 HC4
          go_wp2_with fail
          refine HS5.out.mono ?_
          rintro e w6 ⟨rfl, h6, ht6⟩
          have h6o := HO5.out.did HC5.out (.inl rfl) h6 (ht6.more fun _ _ e => .inl e)
          have hbx := below_box w6 (.cells #[.int .i64 1, .int .i64 0, .int .i32 120, .int .u32 0, .int .u64 0] 57)
          have hU := OwnU.uns (unit_row w6 1 0 120 0 0)
          have h7 := h6o.1.then_ hbx
          have HN5 := Lib.hid (show N2 ≤ 900 by have := HN2.out; have := HNE.out; omega)
          have HG7 := Lib.hid (goM_ok h7.at_ hU (by decide) (by have := HN5.out; omega) (first_ok N2 ⟨h7.at_.ok.long.1, by have := HN5.out; omega⟩) (by have := HN5.out; have := h7.at_.ok.long.1; omega))
          have HO7 := Lib.hid h7
          have HC7 := Lib.hid (below_then h6o.2 hbx)
          clear h6 ht6 h6o hbx hU h7 HS5 HO5 HC5 cx
          go_wp2_with fail
          refine HG7.out.mono ?_
          rintro e w8 ⟨bo8, rfl, h8a, h8b, h8c⟩
          have h8 := (HO7.out.did HC7.out (.inr h8a) h8b (h8c.more fun _ _ e => .inr e)).2
          have HK8 := Lib.hid (HK3.out.then_ h8)
          have HB8 := Lib.hid (below_then HB3.out h8)
          have HD8 := Lib.hid (does_q HK8.out.m.at_ (HBX.out w8 HB8.out) HX.out (HUN.out w8 HK8.out.below) (by have := HNE.out; omega) HROW2.out HDO.out)
          clear h8a h8b h8c h8 HG7 HO7 HC7 HK3 HB3
          go_wp2_with fail
          refine HD8.out.mono ?_
          rintro e w9 ⟨b9, rfl, h9a, h9b, h9c⟩
          rcases HK8.out.ap with hap | hap
          · obtain rfl : p = q3 := hap.1.symm
            obtain rfl : b1 = d3 := hap.2.symm
            have hk5 := HK8.out.same h9a h9b h9c
            have hq1 := fun w => neqM_eq w p
            clear hap h9a h9b h9c HD8 HK8 HB8
            have HK5 := Lib.hid hk5
            clear hk5
            have HLU := Lib.hid (longM HK5.out.u.at_)
            have HLM := Lib.hid (longM HK5.out.m.at_)
            go_wp2_with fail
            refine HLU.out.mono ?_
            rintro e w9 ⟨rfl, hw⟩
            rw [hw]
            clear hw w9 HLU
            go_wp2_with fail
            refine HLM.out.mono ?_
            rintro e w9 ⟨rfl, hw⟩
            rw [hw]
            clear hw w9 HLM
            have HAU := Lib.hid (allM HK5.out.u.at_)
            go_wp2_with fail
            refine HAU.out.mono ?_
            rintro e w10 ⟨A6, c6, rfl, hr6, _, hb6⟩
            have HK6 := Lib.hid (HK5.out.then_ hb6)
            have HR6 := Lib.hid hr6
            have HAM := Lib.hid (allM HK6.out.m.at_)
            clear hr6 hb6 HAU HK5
            go_wp2_with fail
            refine HAM.out.mono ?_
            rintro e w11 ⟨A7, c7, rfl, hr7, _, hb7⟩
            have HK7 := Lib.hid (HK6.out.then_ hb7)
            have HR7 := Lib.hid hr7
            have HR67 := Lib.hid (Rws.then_ HR6.out hb7)
            have hcap6 := hr7.cap
            have hle6 := hr7.le
            unfold maxLen at hcap6
            obtain ⟨z, hz⟩ : ∃ z, z = M2.length := ⟨_, rfl⟩
            rw [← hz] at HR7 HR67 hle6 ⊢
            have HZ := Lib.hid hz
            clear hr7 hb7 HAM HK6 HR6 hz
            go_wp2_with fail
            go_loopw [94] (fun i wr => InR w11 z i wr) (fun i _ => z - (intOf i).toNat)
            case atStart => exact ⟨0, rfl, Nat.zero_le _, Below.refl _ _⟩
            case round =>
              obtain ⟨t, rfl, ht, hb⟩ := hrel
              have HB := Lib.hid hb
              by_cases hlt : t < z
              · obtain ⟨g1, o1, rfl, _, hc1⟩ := Rws.at_ encMk_len (Rws.then_ HR67.out hb) hlt
                obtain ⟨g2, o2, rfl, _, hc2⟩ := Rws.at_ encMk_len (Rws.then_ HR7.out hb) hlt
                have a0 := hc1 t hlt 0 _ (by decide) rfl
                have a1 := hc1 t hlt 1 _ (by decide) rfl
                have e0 := hc2 t hlt 0 _ (by decide) rfl
                have e1 := hc2 t hlt 1 _ (by decide) rfl
                have htM : t < M2.length := by have := HZ.out; omega
                have hmem : M2.getD t default ∈ M2 := by rw [List.getD_eq_getElem?_getD, List.getElem?_eq_getElem htM]; exact List.getElem_mem _
                have hpl := HK7.out.m.at_.ok.place _ hmem
                obtain ⟨⟨X, P⟩, hq⟩ : ∃ q, q = M2.getD t default := ⟨_, rfl⟩
                rw [← hq] at a0 a1 e0 e1 hpl
                simp only [Nat.add_zero, ← Nat.add_assoc] at a0 a1 e0 e1 hpl
                have q1 := neq_mk X P
                have q2 := guard_mk
                have y1 : decide (P > N2) = false := decide_eq_false (by omega)
                have y2 : decide (N2 < P) = false := decide_eq_false (by omega)
                have HLQ := Lib.hid (fun n => longM (show MarksW (wr.drewN n) p b9 N2 M2 from ⟨(HK7.out.then_ HB.out).m.at_.blk, (HK7.out.then_ HB.out).m.at_.own, HK7.out.m.at_.ok⟩))
                have z0 : (0 : Int) ≤ (t : Int) := Int.natCast_nonneg _
                have z1 : (t : Int) < (z : Int) := Int.ofNat_lt.2 hlt
                have HMT := Lib.hid (show z - (t + 1) < z - t by omega)
                have HWT := Lib.hid (show wrap64 ((t : Int) + 1) = ((t + 1 : Nat) : Int) by unfold wrap64; omega)
                by_cases h0 : t = 0
                · have y3 : decide ((t : Int) > 0) = false := decide_eq_false (by omega)
                  have y4 : decide ((0 : Int) < (t : Int)) = false := decide_eq_false (by omega)
                  have y5 : decide (0 < t) = false := decide_eq_false (by omega)
                  clear hc1 hc2 hmem hq hpl hb h0 htM
                  go_wp2_with fail
                  go_quiet ((go_at_call 13; exact quiet_of (HLQ.out _)))
                  obtain ⟨wq, hwq⟩ : ∃ x, x = wr.drewN nq := ⟨_, rfl⟩
                  rw [← hwq]
                  have HBQ := Lib.hid (show Below w11.heap.size w11 wq by rw [hwq]; exact below_drewN HB.out _)
                  clear hwq
                  go_wp2_with fail
                  go_roundw
                  case rel => exact ⟨t + 1, by go_num, hlt, HBQ.out⟩
                  case measure => simp [intOf]; (have := HMT.out; omega)
                · have y3 : decide ((t : Int) > 0) = true := decide_eq_true (by omega)
                  have y4 : decide ((0 : Int) < (t : Int)) = true := decide_eq_true (by omega)
                  have y5 : decide (0 < t) = true := decide_eq_true (by omega)
                  obtain ⟨s, hs⟩ : ∃ s, s = t - 1 := ⟨_, rfl⟩
                  have hsz : s < z := by omega
                  have d0 := hc1 s hsz 0 _ (by decide) rfl
                  have hup := HK7.out.m.at_.ok.up
                  have hlx : (M2.getD s default).1 < X := by
                    have hp := List.pairwise_iff_getElem.1 hup s t (by have := HZ.out; omega) htM (by omega)
                    have e1 : M2.getD s default = M2[s]'(by have := HZ.out; omega) := by rw [List.getD_eq_getElem?_getD, List.getElem?_eq_getElem (by have := HZ.out; omega)]; rfl
                    have e2 : M2[t]'htM = (X, P) := by rw [hq, List.getD_eq_getElem?_getD, List.getElem?_eq_getElem htM]; rfl
                    rw [e2] at hp
                    rw [e1]
                    exact hp
                  obtain ⟨X2, hX2⟩ : ∃ z, z = (M2.getD s default).1 := ⟨_, rfl⟩
                  obtain ⟨⟨X3, P3⟩, hq3⟩ : ∃ q, q = M2.getD s default := ⟨_, rfl⟩
                  rw [← hq3] at d0 hlx
                  simp only [Nat.add_zero] at d0 hlx
                  have y6 : decide (X ≤ X3) = false := decide_eq_false (by omega)
                  have y7 : wrap64 ((t : Int) - 1) = (s : Int) := by unfold wrap64; omega
                  have y8 : IntKind.i64.wrap ((t : Int) - 1) = (s : Int) := by rw [IntKind.wrap_i64]; omega
                  have y9 : (t : Int) - 1 = (s : Int) := by omega
                  have y10 : (s : Int) < (z : Int) := by omega
                  have y11 : (0 : Int) ≤ (s : Int) := Int.natCast_nonneg _
                  clear hc1 hc2 hmem hq hpl hb h0 htM hup hlx hq3 hX2 hs hsz
                  go_wp2_with fail
                  go_quiet ((go_at_call 13; exact quiet_of (HLQ.out _)))
                  obtain ⟨wq, hwq⟩ : ∃ x, x = wr.drewN nq := ⟨_, rfl⟩
                  rw [← hwq]
                  have HBQ := Lib.hid (show Below w11.heap.size w11 wq by rw [hwq]; exact below_drewN HB.out _)
                  clear hwq
                  go_wp2_with fail
                  go_roundw
                  case rel => exact ⟨t + 1, by go_num, hlt, HBQ.out⟩
                  case measure => simp [intOf]; (have := HMT.out; omega)
              · have htz : t = z := by omega
                have HKE := Lib.hid (HK7.out.then_ hb)
                have HT9 := Lib.hid (And.intro HNE.out.2.1 (And.intro HNE.out.2.2 HN2.out))
                clear hb
                go_wp2_with fail
                rw [HWV.out]
                go_roundw
                case rel => exact ⟨v + 1, b9, p, b9, N2, M2, rfl, rfl, HT9.out.1, HT9.out.2.1, HT9.out.2.2, HKE.out⟩
                case measure => simp [intOf]; exact HMS.out
          · have hh := HK8.out.half hap.1 h9a h9b h9c
            have hq1 := neqM_ne hh.m.at_ hh.u.at_ (fun e => hap.1 e.symm)
            have HH := Lib.hid hh
            have HD9 := Lib.hid (does_q hh.u.at_ (h9c.old (HBX.out w8 HB8.out) (by have := HLT.out; omega)) HX.out (HUN.out w9 hh.below) (by have := HNE.out; omega) HROW2.out HDO.out)
            clear hap h9a h9b h9c hh HD8 HK8 HB8
            go_wp2_with fail
            refine HD9.out.mono ?_
            rintro e w10 ⟨d10, rfl, h10a, h10b, h10c⟩
            have hk5 := HH.out.full h10a h10b h10c
            clear h10a h10b h10c HD9 HH hq1
            have HK5 := Lib.hid hk5
            clear hk5
            have HLU := Lib.hid (longM HK5.out.u.at_)
            have HLM := Lib.hid (longM HK5.out.m.at_)
            go_wp2_with fail
            refine HLU.out.mono ?_
            rintro e w9 ⟨rfl, hw⟩
            rw [hw]
            clear hw w9 HLU
            go_wp2_with fail
            refine HLM.out.mono ?_
            rintro e w9 ⟨rfl, hw⟩
            rw [hw]
            clear hw w9 HLM
            have HAU := Lib.hid (allM HK5.out.u.at_)
            go_wp2_with fail
            refine HAU.out.mono ?_
            rintro e w10 ⟨A6, c6, rfl, hr6, _, hb6⟩
            have HK6 := Lib.hid (HK5.out.then_ hb6)
            have HR6 := Lib.hid hr6
            have HAM := Lib.hid (allM HK6.out.m.at_)
            clear hr6 hb6 HAU HK5
            go_wp2_with fail
            refine HAM.out.mono ?_
            rintro e w11 ⟨A7, c7, rfl, hr7, _, hb7⟩
            have HK7 := Lib.hid (HK6.out.then_ hb7)
            have HR7 := Lib.hid hr7
            have HR67 := Lib.hid (Rws.then_ HR6.out hb7)
            have hcap6 := hr7.cap
            have hle6 := hr7.le
            unfold maxLen at hcap6
            obtain ⟨z, hz⟩ : ∃ z, z = M2.length := ⟨_, rfl⟩
            rw [← hz] at HR7 HR67 hle6 ⊢
            have HZ := Lib.hid hz
            clear hr7 hb7 HAM HK6 HR6 hz
            go_wp2_with fail
            go_loopw [94] (fun i wr => InR w11 z i wr) (fun i _ => z - (intOf i).toNat)
            case atStart => exact ⟨0, rfl, Nat.zero_le _, Below.refl _ _⟩
            case round =>
              obtain ⟨t, rfl, ht, hb⟩ := hrel
              have HB := Lib.hid hb
              by_cases hlt : t < z
              · obtain ⟨g1, o1, rfl, _, hc1⟩ := Rws.at_ encMk_len (Rws.then_ HR67.out hb) hlt
                obtain ⟨g2, o2, rfl, _, hc2⟩ := Rws.at_ encMk_len (Rws.then_ HR7.out hb) hlt
                have a0 := hc1 t hlt 0 _ (by decide) rfl
                have a1 := hc1 t hlt 1 _ (by decide) rfl
                have e0 := hc2 t hlt 0 _ (by decide) rfl
                have e1 := hc2 t hlt 1 _ (by decide) rfl
                have htM : t < M2.length := by have := HZ.out; omega
                have hmem : M2.getD t default ∈ M2 := by rw [List.getD_eq_getElem?_getD, List.getElem?_eq_getElem htM]; exact List.getElem_mem _
                have hpl := HK7.out.m.at_.ok.place _ hmem
                obtain ⟨⟨X, P⟩, hq⟩ : ∃ q, q = M2.getD t default := ⟨_, rfl⟩
                rw [← hq] at a0 a1 e0 e1 hpl
                simp only [Nat.add_zero, ← Nat.add_assoc] at a0 a1 e0 e1 hpl
                have q1 := neq_mk X P
                have q2 := guard_mk
                have y1 : decide (P > N2) = false := decide_eq_false (by omega)
                have y2 : decide (N2 < P) = false := decide_eq_false (by omega)
                have HLQ := Lib.hid (fun n => longM (show MarksW (wr.drewN n) p b9 N2 M2 from ⟨(HK7.out.then_ HB.out).m.at_.blk, (HK7.out.then_ HB.out).m.at_.own, HK7.out.m.at_.ok⟩))
                have z0 : (0 : Int) ≤ (t : Int) := Int.natCast_nonneg _
                have z1 : (t : Int) < (z : Int) := Int.ofNat_lt.2 hlt
                have HMT := Lib.hid (show z - (t + 1) < z - t by omega)
                have HWT := Lib.hid (show wrap64 ((t : Int) + 1) = ((t + 1 : Nat) : Int) by unfold wrap64; omega)
                by_cases h0 : t = 0
                · have y3 : decide ((t : Int) > 0) = false := decide_eq_false (by omega)
                  have y4 : decide ((0 : Int) < (t : Int)) = false := decide_eq_false (by omega)
                  have y5 : decide (0 < t) = false := decide_eq_false (by omega)
                  clear hc1 hc2 hmem hq hpl hb h0 htM
                  go_wp2_with fail
                  go_quiet ((go_at_call 13; exact quiet_of (HLQ.out _)))
                  obtain ⟨wq, hwq⟩ : ∃ x, x = wr.drewN nq := ⟨_, rfl⟩
                  rw [← hwq]
                  have HBQ := Lib.hid (show Below w11.heap.size w11 wq by rw [hwq]; exact below_drewN HB.out _)
                  clear hwq
                  go_wp2_with fail
                  go_roundw
                  case rel => exact ⟨t + 1, by go_num, hlt, HBQ.out⟩
                  case measure => simp [intOf]; (have := HMT.out; omega)
                · have y3 : decide ((t : Int) > 0) = true := decide_eq_true (by omega)
                  have y4 : decide ((0 : Int) < (t : Int)) = true := decide_eq_true (by omega)
                  have y5 : decide (0 < t) = true := decide_eq_true (by omega)
                  obtain ⟨s, hs⟩ : ∃ s, s = t - 1 := ⟨_, rfl⟩
                  have hsz : s < z := by omega
                  have d0 := hc1 s hsz 0 _ (by decide) rfl
                  have hup := HK7.out.m.at_.ok.up
                  have hlx : (M2.getD s default).1 < X := by
                    have hp := List.pairwise_iff_getElem.1 hup s t (by have := HZ.out; omega) htM (by omega)
                    have e1 : M2.getD s default = M2[s]'(by have := HZ.out; omega) := by rw [List.getD_eq_getElem?_getD, List.getElem?_eq_getElem (by have := HZ.out; omega)]; rfl
                    have e2 : M2[t]'htM = (X, P) := by rw [hq, List.getD_eq_getElem?_getD, List.getElem?_eq_getElem htM]; rfl
                    rw [e2] at hp
                    rw [e1]
                    exact hp
                  obtain ⟨X2, hX2⟩ : ∃ z, z = (M2.getD s default).1 := ⟨_, rfl⟩
                  obtain ⟨⟨X3, P3⟩, hq3⟩ : ∃ q, q = M2.getD s default := ⟨_, rfl⟩
                  rw [← hq3] at d0 hlx
                  simp only [Nat.add_zero] at d0 hlx
                  have y6 : decide (X ≤ X3) = false := decide_eq_false (by omega)
                  have y7 : wrap64 ((t : Int) - 1) = (s : Int) := by unfold wrap64; omega
                  have y8 : IntKind.i64.wrap ((t : Int) - 1) = (s : Int) := by rw [IntKind.wrap_i64]; omega
                  have y9 : (t : Int) - 1 = (s : Int) := by omega
                  have y10 : (s : Int) < (z : Int) := by omega
                  have y11 : (0 : Int) ≤ (s : Int) := Int.natCast_nonneg _
                  clear hc1 hc2 hmem hq hpl hb h0 htM hup hlx hq3 hX2 hs hsz
                  go_wp2_with fail
                  go_quiet ((go_at_call 13; exact quiet_of (HLQ.out _)))
                  obtain ⟨wq, hwq⟩ : ∃ x, x = wr.drewN nq := ⟨_, rfl⟩
                  rw [← hwq]
                  have HBQ := Lib.hid (show Below w11.heap.size w11 wq by rw [hwq]; exact below_drewN HB.out _)
                  clear hwq
                  go_wp2_with fail
                  go_roundw
                  case rel => exact ⟨t + 1, by go_num, hlt, HBQ.out⟩
                  case measure => simp [intOf]; (have := HMT.out; omega)
              · have htz : t = z := by omega
                have HKE := Lib.hid (HK7.out.then_ hb)
                have HT9 := Lib.hid (And.intro HNE.out.2.1 (And.intro HNE.out.2.2 HN2.out))
                clear hb
                go_wp2_with fail
                rw [HWV.out]
                go_roundw
                case rel => exact ⟨v + 1, b9, q3, d10, N2, M2, rfl, rfl, HT9.out.1, HT9.out.2.1, HT9.out.2.2, HKE.out⟩
                case measure => simp [intOf]; exact HMS.out
        · have z3 : ((v : Int) == (a40 : Int)) = false := by rw [beq_eq_false_iff_ne]; omega
          have HK3 := HKV
          have HB3 := Lib.hid (Below.refl V.heap.size V)
          clear hva
          go_wp2_with fail
          rw [← HV.out]
          have HCO := Lib.hid (copyM HK3.out.m.at_)
          refine HCO.out.mono ?_
          rintro e w4 ⟨po, bo, rfl, hpo, hbo, ho4, hb4⟩
          have HO4 := Lib.hid (show MarksO w4 (World.heap V).size po bo N M from ⟨hpo, hbo, ho4⟩)
          have HC4 := Lib.hid hb4
          have HD4 := Lib.hid (does_q ho4 (HBX.out w4 (below_then HB3.out hb4)) HX.out (HUN.out w4 (below_then HK3.out.below hb4)) (by have := HNE.out; omega) HROW2.out HDO.out)
          clear hpo hbo ho4 hb4 HCO
          go_wp2_with fail
          refine HD4.out.mono ?_
          rintro e w5 ⟨bo5, rfl, h5a, h5b, h5c⟩
          have h5 := HO4.out.did HC4.out h5a h5b h5c
          have HO5 := Lib.hid h5.1
          have HC5 := Lib.hid h5.2
          have cx := cell1 (r := [.int .i64 pos, .slice B m ce]) (HBX.out w5 (below_then HB3.out h5.2))
          have HS5 := Lib.hid (setM_any h5.1.at_ HCX.out (v := 0) ⟨Int.le_refl _, h5.1.at_.ok.long.1⟩)
          clear h5a h5b h5c h5 HD4 HO4 HC4
          go_wp2_with fail
          refine HS5.out.mono ?_
          rintro e w6 ⟨rfl, h6, ht6⟩
          have h6o := HO5.out.did HC5.out (.inl rfl) h6 (ht6.more fun _ _ e => .inl e)
          have hbx := below_box w6 (.cells #[.int .i64 1, .int .i64 0, .int .i32 120, .int .u32 0, .int .u64 0] 57)
          have hU := OwnU.uns (unit_row w6 1 0 120 0 0)
          have h7 := h6o.1.then_ hbx
          have HN5 := Lib.hid (show N2 ≤ 900 by have := HN2.out; have := HNE.out; omega)
          have HG7 := Lib.hid (goM_ok h7.at_ hU (by decide) (by have := HN5.out; omega) (first_ok N2 ⟨h7.at_.ok.long.1, by have := HN5.out; omega⟩) (by have := HN5.out; have := h7.at_.ok.long.1; omega))
          have HO7 := Lib.hid h7
          have HC7 := Lib.hid (below_then h6o.2 hbx)
          clear h6 ht6 h6o hbx hU h7 HS5 HO5 HC5 cx
          go_wp2_with fail
          refine HG7.out.mono ?_
          rintro e w8 ⟨bo8, rfl, h8a, h8b, h8c⟩
          have h8 := (HO7.out.did HC7.out (.inr h8a) h8b (h8c.more fun _ _ e => .inr e)).2
          have HK8 := Lib.hid (HK3.out.then_ h8)
          have HB8 := Lib.hid (below_then HB3.out h8)
          have HD8 := Lib.hid (does_q HK8.out.m.at_ (HBX.out w8 HB8.out) HX.out (HUN.out w8 HK8.out.below) (by have := HNE.out; omega) HROW2.out HDO.out)
          clear h8a h8b h8c h8 HG7 HO7 HC7 HK3 HB3
          go_wp2_with fail
          refine HD8.out.mono ?_
          rintro e w9 ⟨b9, rfl, h9a, h9b, h9c⟩
          rcases HK8.out.ap with hap | hap
          · obtain rfl : p = q := hap.1.symm
            obtain rfl : b1 = d := hap.2.symm
            have hk5 := HK8.out.same h9a h9b h9c
            have hq1 := fun w => neqM_eq w p
            clear hap h9a h9b h9c HD8 HK8 HB8
            have HK5 := Lib.hid hk5
            clear hk5
            have HLU := Lib.hid (longM HK5.out.u.at_)
            have HLM := Lib.hid (longM HK5.out.m.at_)
            go_wp2_with fail
            refine HLU.out.mono ?_
            rintro e w9 ⟨rfl, hw⟩
            rw [hw]
            clear hw w9 HLU
            go_wp2_with fail
            refine HLM.out.mono ?_
            rintro e w9 ⟨rfl, hw⟩
            rw [hw]
            clear hw w9 HLM
            have HAU := Lib.hid (allM HK5.out.u.at_)
            go_wp2_with fail
            refine HAU.out.mono ?_
            rintro e w10 ⟨A6, c6, rfl, hr6, _, hb6⟩
            have HK6 := Lib.hid (HK5.out.then_ hb6)
            have HR6 := Lib.hid hr6
            have HAM := Lib.hid (allM HK6.out.m.at_)
            clear hr6 hb6 HAU HK5
            go_wp2_with fail
            refine HAM.out.mono ?_
            rintro e w11 ⟨A7, c7, rfl, hr7, _, hb7⟩
            have HK7 := Lib.hid (HK6.out.then_ hb7)
            have HR7 := Lib.hid hr7
            have HR67 := Lib.hid (Rws.then_ HR6.out hb7)
            have hcap6 := hr7.cap
            have hle6 := hr7.le
            unfold maxLen at hcap6
            obtain ⟨z, hz⟩ : ∃ z, z = M2.length := ⟨_, rfl⟩
            rw [← hz] at HR7 HR67 hle6 ⊢
            have HZ := Lib.hid hz
            clear hr7 hb7 HAM HK6 HR6 hz
            go_wp2_with fail
            go_loopw [94] (fun i wr => InR w11 z i wr) (fun i _ => z - (intOf i).toNat)
            case atStart => exact ⟨0, rfl, Nat.zero_le _, Below.refl _ _⟩
            case round =>
              obtain ⟨t, rfl, ht, hb⟩ := hrel
              have HB := Lib.hid hb
              by_cases hlt : t < z
              · obtain ⟨g1, o1, rfl, _, hc1⟩ := Rws.at_ encMk_len (Rws.then_ HR67.out hb) hlt
                obtain ⟨g2, o2, rfl, _, hc2⟩ := Rws.at_ encMk_len (Rws.then_ HR7.out hb) hlt
                have a0 := hc1 t hlt 0 _ (by decide) rfl
                have a1 := hc1 t hlt 1 _ (by decide) rfl
                have e0 := hc2 t hlt 0 _ (by decide) rfl
                have e1 := hc2 t hlt 1 _ (by decide) rfl
                have htM : t < M2.length := by have := HZ.out; omega
                have hmem : M2.getD t default ∈ M2 := by rw [List.getD_eq_getElem?_getD, List.getElem?_eq_getElem htM]; exact List.getElem_mem _
                have hpl := HK7.out.m.at_.ok.place _ hmem
                obtain ⟨⟨X, P⟩, hq⟩ : ∃ q, q = M2.getD t default := ⟨_, rfl⟩
                rw [← hq] at a0 a1 e0 e1 hpl
                simp only [Nat.add_zero, ← Nat.add_assoc] at a0 a1 e0 e1 hpl
                have q1 := neq_mk X P
                have q2 := guard_mk
                have y1 : decide (P > N2) = false := decide_eq_false (by omega)
                have y2 : decide (N2 < P) = false := decide_eq_false (by omega)
                have HLQ := Lib.hid (fun n => longM (show MarksW (wr.drewN n) p b9 N2 M2 from ⟨(HK7.out.then_ HB.out).m.at_.blk, (HK7.out.then_ HB.out).m.at_.own, HK7.out.m.at_.ok⟩))
                have z0 : (0 : Int) ≤ (t : Int) := Int.natCast_nonneg _
                have z1 : (t : Int) < (z : Int) := Int.ofNat_lt.2 hlt
                have HMT := Lib.hid (show z - (t + 1) < z - t by omega)
                have HWT := Lib.hid (show wrap64 ((t : Int) + 1) = ((t + 1 : Nat) : Int) by unfold wrap64; omega)
                by_cases h0 : t = 0
                · have y3 : decide ((t : Int) > 0) = false := decide_eq_false (by omega)
                  have y4 : decide ((0 : Int) < (t : Int)) = false := decide_eq_false (by omega)
                  have y5 : decide (0 < t) = false := decide_eq_false (by omega)
                  clear hc1 hc2 hmem hq hpl hb h0 htM
                  go_wp2_with fail
                  go_quiet ((go_at_call 13; exact quiet_of (HLQ.out _)))
                  obtain ⟨wq, hwq⟩ : ∃ x, x = wr.drewN nq := ⟨_, rfl⟩
                  rw [← hwq]
                  have HBQ := Lib.hid (show Below w11.heap.size w11 wq by rw [hwq]; exact below_drewN HB.out _)
                  clear hwq
                  go_wp2_with fail
                  go_roundw
                  case rel => exact ⟨t + 1, by go_num, hlt, HBQ.out⟩
                  case measure => simp [intOf]; (have := HMT.out; omega)
                · have y3 : decide ((t : Int) > 0) = true := decide_eq_true (by omega)
                  have y4 : decide ((0 : Int) < (t : Int)) = true := decide_eq_true (by omega)
                  have y5 : decide (0 < t) = true := decide_eq_true (by omega)
                  obtain ⟨s, hs⟩ : ∃ s, s = t - 1 := ⟨_, rfl⟩
                  have hsz : s < z := by omega
                  have d0 := hc1 s hsz 0 _ (by decide) rfl
                  have hup := HK7.out.m.at_.ok.up
                  have hlx : (M2.getD s default).1 < X := by
                    have hp := List.pairwise_iff_getElem.1 hup s t (by have := HZ.out; omega) htM (by omega)
                    have e1 : M2.getD s default = M2[s]'(by have := HZ.out; omega) := by rw [List.getD_eq_getElem?_getD, List.getElem?_eq_getElem (by have := HZ.out; omega)]; rfl
                    have e2 : M2[t]'htM = (X, P) := by rw [hq, List.getD_eq_getElem?_getD, List.getElem?_eq_getElem htM]; rfl
                    rw [e2] at hp
                    rw [e1]
                    exact hp
                  obtain ⟨X2, hX2⟩ : ∃ z, z = (M2.getD s default).1 := ⟨_, rfl⟩
                  obtain ⟨⟨X3, P3⟩, hq3⟩ : ∃ q, q = M2.getD s default := ⟨_, rfl⟩
                  rw [← hq3] at d0 hlx
                  simp only [Nat.add_zero] at d0 hlx
                  have y6 : decide (X ≤ X3) = false := decide_eq_false (by omega)
                  have y7 : wrap64 ((t : Int) - 1) = (s : Int) := by unfold wrap64; omega
                  have y8 : IntKind.i64.wrap ((t : Int) - 1) = (s : Int) := by rw [IntKind.wrap_i64]; omega
                  have y9 : (t : Int) - 1 = (s : Int) := by omega
                  have y10 : (s : Int) < (z : Int) := by omega
                  have y11 : (0 : Int) ≤ (s : Int) := Int.natCast_nonneg _
                  clear hc1 hc2 hmem hq hpl hb h0 htM hup hlx hq3 hX2 hs hsz
                  go_wp2_with fail
                  go_quiet ((go_at_call 13; exact quiet_of (HLQ.out _)))
                  obtain ⟨wq, hwq⟩ : ∃ x, x = wr.drewN nq := ⟨_, rfl⟩
                  rw [← hwq]
                  have HBQ := Lib.hid (show Below w11.heap.size w11 wq by rw [hwq]; exact below_drewN HB.out _)
                  clear hwq
                  go_wp2_with fail
                  go_roundw
                  case rel => exact ⟨t + 1, by go_num, hlt, HBQ.out⟩
                  case measure => simp [intOf]; (have := HMT.out; omega)
              · have htz : t = z := by omega
                have HKE := Lib.hid (HK7.out.then_ hb)
                have HT9 := Lib.hid (And.intro HNE.out.2.1 (And.intro HNE.out.2.2 HN2.out))
                clear hb
                go_wp2_with fail
                rw [HWV.out]
                go_roundw
                case rel => exact ⟨v + 1, b9, p, b9, N2, M2, rfl, rfl, HT9.out.1, HT9.out.2.1, HT9.out.2.2, HKE.out⟩
                case measure => simp [intOf]; exact HMS.out
          · have hh := HK8.out.half hap.1 h9a h9b h9c
            have hq1 := neqM_ne hh.m.at_ hh.u.at_ (fun e => hap.1 e.symm)
            have HH := Lib.hid hh
            have HD9 := Lib.hid (does_q hh.u.at_ (h9c.old (HBX.out w8 HB8.out) (by have := HLT.out; omega)) HX.out (HUN.out w9 hh.below) (by have := HNE.out; omega) HROW2.out HDO.out)
            clear hap h9a h9b h9c hh HD8 HK8 HB8
            go_wp2_with fail
            refine HD9.out.mono ?_
            rintro e w10 ⟨d10, rfl, h10a, h10b, h10c⟩
            have hk5 := HH.out.full h10a h10b h10c
            clear h10a h10b h10c HD9 HH hq1
            have HK5 := Lib.hid hk5
            clear hk5
            have HLU := Lib.hid (longM HK5.out.u.at_)
            have HLM := Lib.hid (longM HK5.out.m.at_)
            go_wp2_with fail
            refine HLU.out.mono ?_
            rintro e w9 ⟨rfl, hw⟩
            rw [hw]
            clear hw w9 HLU
            go_wp2_with fail
            refine HLM.out.mono ?_
            rintro e w9 ⟨rfl, hw⟩
            rw [hw]
            clear hw w9 HLM
            have HAU := Lib.hid (allM HK5.out.u.at_)
            go_wp2_with fail
            refine HAU.out.mono ?_
            rintro e w10 ⟨A6, c6, rfl, hr6, _, hb6⟩
            have HK6 := Lib.hid (HK5.out.then_ hb6)
            have HR6 := Lib.hid hr6
            have HAM := Lib.hid (allM HK6.out.m.at_)
            clear hr6 hb6 HAU HK5
            go_wp2_with fail
            refine HAM.out.mono ?_
            rintro e w11 ⟨A7, c7, rfl, hr7, _, hb7⟩
            have HK7 := Lib.hid (HK6.out.then_ hb7)
            have HR7 := Lib.hid hr7
            have HR67 := Lib.hid (Rws.then_ HR6.out hb7)
            have hcap6 := hr7.cap
            have hle6 := hr7.le
            unfold maxLen at hcap6
            obtain ⟨z, hz⟩ : ∃ z, z = M2.length := ⟨_, rfl⟩
            rw [← hz] at HR7 HR67 hle6 ⊢
            have HZ := Lib.hid hz
            clear hr7 hb7 HAM HK6 HR6 hz
            go_wp2_with fail
            go_loopw [94] (fun i wr => InR w11 z i wr) (fun i _ => z - (intOf i).toNat)
            case atStart => exact ⟨0, rfl, Nat.zero_le _, Below.refl _ _⟩
            case round =>
              obtain ⟨t, rfl, ht, hb⟩ := hrel
              have HB := Lib.hid hb
              by_cases hlt : t < z
              · obtain ⟨g1, o1, rfl, _, hc1⟩ := Rws.at_ encMk_len (Rws.then_ HR67.out hb) hlt
                obtain ⟨g2, o2, rfl, _, hc2⟩ := Rws.at_ encMk_len (Rws.then_ HR7.out hb) hlt
                have a0 := hc1 t hlt 0 _ (by decide) rfl
                have a1 := hc1 t hlt 1 _ (by decide) rfl
                have e0 := hc2 t hlt 0 _ (by decide) rfl
                have e1 := hc2 t hlt 1 _ (by decide) rfl
                have htM : t < M2.length := by have := HZ.out; omega
                have hmem : M2.getD t default ∈ M2 := by rw [List.getD_eq_getElem?_getD, List.getElem?_eq_getElem htM]; exact List.getElem_mem _
                have hpl := HK7.out.m.at_.ok.place _ hmem
                obtain ⟨⟨X, P⟩, hq⟩ : ∃ q, q = M2.getD t default := ⟨_, rfl⟩
                rw [← hq] at a0 a1 e0 e1 hpl
                simp only [Nat.add_zero, ← Nat.add_assoc] at a0 a1 e0 e1 hpl
                have q1 := neq_mk X P
                have q2 := guard_mk
                have y1 : decide (P > N2) = false := decide_eq_false (by omega)
                have y2 : decide (N2 < P) = false := decide_eq_false (by omega)
                have HLQ := Lib.hid (fun n => longM (show MarksW (wr.drewN n) p b9 N2 M2 from ⟨(HK7.out.then_ HB.out).m.at_.blk, (HK7.out.then_ HB.out).m.at_.own, HK7.out.m.at_.ok⟩))
                have z0 : (0 : Int) ≤ (t : Int) := Int.natCast_nonneg _
                have z1 : (t : Int) < (z : Int) := Int.ofNat_lt.2 hlt
                have HMT := Lib.hid (show z - (t + 1) < z - t by omega)
                have HWT := Lib.hid (show wrap64 ((t : Int) + 1) = ((t + 1 : Nat) : Int) by unfold wrap64; omega)
                by_cases h0 : t = 0
                · have y3 : decide ((t : Int) > 0) = false := decide_eq_false (by omega)
                  have y4 : decide ((0 : Int) < (t : Int)) = false := decide_eq_false (by omega)
                  have y5 : decide (0 < t) = false := decide_eq_false (by omega)
                  clear hc1 hc2 hmem hq hpl hb h0 htM
                  go_wp2_with fail
                  go_quiet ((go_at_call 13; exact quiet_of (HLQ.out _)))
                  obtain ⟨wq, hwq⟩ : ∃ x, x = wr.drewN nq := ⟨_, rfl⟩
                  rw [← hwq]
                  have HBQ := Lib.hid (show Below w11.heap.size w11 wq by rw [hwq]; exact below_drewN HB.out _)
                  clear hwq
                  go_wp2_with fail
                  go_roundw
                  case rel => exact ⟨t + 1, by go_num, hlt, HBQ.out⟩
                  case measure => simp [intOf]; (have := HMT.out; omega)
                · have y3 : decide ((t : Int) > 0) = true := decide_eq_true (by omega)
                  have y4 : decide ((0 : Int) < (t : Int)) = true := decide_eq_true (by omega)
                  have y5 : decide (0 < t) = true := decide_eq_true (by omega)
                  obtain ⟨s, hs⟩ : ∃ s, s = t - 1 := ⟨_, rfl⟩
                  have hsz : s < z := by omega
                  have d0 := hc1 s hsz 0 _ (by decide) rfl
                  have hup := HK7.out.m.at_.ok.up
                  have hlx : (M2.getD s default).1 < X := by
                    have hp := List.pairwise_iff_getElem.1 hup s t (by have := HZ.out; omega) htM (by omega)
                    have e1 : M2.getD s default = M2[s]'(by have := HZ.out; omega) := by rw [List.getD_eq_getElem?_getD, List.getElem?_eq_getElem (by have := HZ.out; omega)]; rfl
                    have e2 : M2[t]'htM = (X, P) := by rw [hq, List.getD_eq_getElem?_getD, List.getElem?_eq_getElem htM]; rfl
                    rw [e2] at hp
                    rw [e1]
                    exact hp
                  obtain ⟨X2, hX2⟩ : ∃ z, z = (M2.getD s default).1 := ⟨_, rfl⟩
                  obtain ⟨⟨X3, P3⟩, hq3⟩ : ∃ q, q = M2.getD s default := ⟨_, rfl⟩
                  rw [← hq3] at d0 hlx
                  simp only [Nat.add_zero] at d0 hlx
                  have y6 : decide (X ≤ X3) = false := decide_eq_false (by omega)
                  have y7 : wrap64 ((t : Int) - 1) = (s : Int) := by unfold wrap64; omega
                  have y8 : IntKind.i64.wrap ((t : Int) - 1) = (s : Int) := by rw [IntKind.wrap_i64]; omega
                  have y9 : (t : Int) - 1 = (s : Int) := by omega
                  have y10 : (s : Int) < (z : Int) := by omega
                  have y11 : (0 : Int) ≤ (s : Int) := Int.natCast_nonneg _
                  clear hc1 hc2 hmem hq hpl hb h0 htM hup hlx hq3 hX2 hs hsz
                  go_wp2_with fail
                  go_quiet ((go_at_call 13; exact quiet_of (HLQ.out _)))
                  obtain ⟨wq, hwq⟩ : ∃ x, x = wr.drewN nq := ⟨_, rfl⟩
                  rw [← hwq]
                  have HBQ := Lib.hid (show Below w11.heap.size w11 wq by rw [hwq]; exact below_drewN HB.out _)
                  clear hwq
                  go_wp2_with fail
                  go_roundw
                  case rel => exact ⟨t + 1, by go_num, hlt, HBQ.out⟩
                  case measure => simp [intOf]; (have := HMT.out; omega)
              · have htz : t = z := by omega
                have HKE := Lib.hid (HK7.out.then_ hb)
                have HT9 := Lib.hid (And.intro HNE.out.2.1 (And.intro HNE.out.2.2 HN2.out))
                clear hb
                go_wp2_with fail
                rw [HWV.out]
                go_roundw
                case rel => exact ⟨v + 1, b9, q, d10, N2, M2, rfl, rfl, HT9.out.1, HT9.out.2.1, HT9.out.2.2, HKE.out⟩
                case measure => simp [intOf]; exact HMS.out
      · have hv40 : v = 40 := by omega
        subst hv40
        have HB := Lib.hid HK.out.below
        clear hac hN hv hv2 hlt HWV HMS
        go_wp2_with fail
        go_ret
        exact ⟨rfl, below_alloc HB.out _⟩
    · have HB := Lib.hid HK.out.below
      clear hv2 hN
      have hvn : v = n := by omega
      go_wp2_with fail
      go_ret
      exact ⟨rfl, HB.out⟩
end Go.Proofs.Ytfjnliebgndemaa.markApart
