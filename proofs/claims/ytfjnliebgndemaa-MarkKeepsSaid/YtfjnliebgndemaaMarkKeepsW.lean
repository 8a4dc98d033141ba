/-
  MarkKeeps's walk: places never leave the text and keep their order, whatever rows there are; a row that does not fit changes nothing: it returns true; nothing that was there turns. Conditions: what the law is given can be read as data.
-/
import Derived.Test.YtfjnliebgndemaaMkA
import Derived.Test.YtfjnliebgndemaaMkI
import Derived.Test.YtfjnliebgndemaaWvK
import Derived.BigQuiet
namespace Go.Proofs.Ytfjnliebgndemaa.markKeeps
open Go.RowKit
open Pl (Un)

theorem tmod_nat (a b : Nat) : (a : Int).tmod (b : Int) = ((a % b : Nat) : Int) := by
  rw [Int.tmod_eq_emod_of_nonneg (by omega)]; rfl
theorem goL_ok : ∀ {row : List Un} {cs : List Int}, (Pl.goL row cs.length).2 = 0 → Pl.FitR row cs
  | [], _, _ => trivial
  | u :: r, cs, h => by
    unfold Pl.goL at h
    by_cases hf : Pl.Fit u cs.length
    · rw [if_pos hf, ← Pl.len_behind hf] at h
      exact ⟨hf, goL_ok h⟩
    · rw [if_neg hf] at h
      exact absurd h (by decide)
theorem longL_ok {row : List Un} {cs : List Int} (h : (Pl.longL row cs.length).2 = 0) : Pl.FitR row cs := by
  unfold Pl.longL at h
  split at h
  · exact goL_ok h
  · exact absurd h (by decide)
theorem longR_err {l : List Un} {n m e : Int} (h : Pl.longL l n = (m, e)) (he : e ≠ 0) : m = 0 := by
  unfold Pl.longL at h
  split at h
  · rcases Pl.goR_err l n with h1 | h1
    · rw [h] at h1; exact absurd h1 he
    · rw [h] at h1; exact (Prod.mk.inj h1).1
  · exact (Prod.mk.inj h).1.symm
/-- while the text is filled -/
def FiR (W : World) (g L : Nat) (i : Value) (wr : World) : Prop := ∃ (j : Nat) (cs : List Int), i = .int .i64 (j : Int) ∧ j ≤ L ∧ cs.length = L ∧ OwnC wr W.heap.size (.slice (some ⟨g, 0, none⟩) L L) cs ∧ Below W.heap.size W wr
/-- a text of one's own, and marks in it -/
structure KeS (W w : World) (p b : Nat) (A : Option Addr) (N c : Nat) (cs : List Int) (x y : Int) : Prop where
  marks : MarksO w W.heap.size p b (N : Int) [(1, x), (2, y)]
  text : OwnC w W.heap.size (.slice A N c) cs
  ap : ∀ g, Value.ownBlock (.slice A N c) = some g → g ≠ p
  below : Below W.heap.size W w
  inx : 0 ≤ x ∧ x ≤ (N : Int)
  iny : 0 ≤ y ∧ y ≤ (N : Int)
theorem below_drewN {B : Nat} {w w' : World} (h : Below B w w') (n : Nat) : Below B w (w'.drewN n) := ⟨h.os, h.tape, h.output, h.size, h.block⟩
/-- between one row and the next -/
def KeR (V : World) (p n : Nat) (t a q i : Value) (wr : World) : Prop := ∃ (j N : Nat) (A : Option Addr) (c : Nat) (cs : List Int) (b : Nat) (x y : Int), i = .int .i64 (j : Int) ∧ t = .slice A N c ∧ a = .int .i64 x ∧ q = .int .i64 y ∧ j ≤ n ∧ j ≤ 20 ∧ N ≤ 60 + 20 * j ∧ KeS V wr p b A N c cs x y
set_option maxRecDepth 100000 in
set_option maxHeartbeats 4000000 in
theorem walk (W : World) (n0 : Nat) (hn0 : n0 < 256) (x0 y0 : Nat) (hx0 : x0 < 256) (hy0 : y0 < 256) (A : Option Addr) (n c : Nat) (R : List SlU) (hRU : Rws encS W W.heap.size A n c R ∧ ∀ r ∈ R, Units W W.heap.size r.A r.n r.c r.l) :
    Calls Try.prog 3 #[.int .u8 (n0 : Int), .agg #[.int .u8 (x0 : Int), .int .u8 (y0 : Int)], .slice A n c] W fun e w' => e = .returned (.bool true) ∧ Below W.heap.size W w' := by
  obtain ⟨hR, hU⟩ := hRU
  have hle := hR.le
  have hcap := hR.cap
  unfold maxLen at hcap
  obtain ⟨L, hL⟩ : ∃ f, f = n0 % 61 := ⟨_, rfl⟩
  have hL60 : L ≤ 60 := by have := Nat.mod_lt n0 (show 0 < 61 by decide); omega
  have r1 : (n0 : Int).tmod 61 = (L : Int) := by have := tmod_nat n0 61; rw [← hL] at this; exact this
  have r1b : (n0 : Int) % 61 = (L : Int) := by rw [hL]; exact (Int.natCast_emod n0 61).symm
  obtain ⟨X0, hX0⟩ : ∃ f, f = x0 % (L + 1) := ⟨_, rfl⟩
  obtain ⟨Y0, hY0⟩ : ∃ f, f = y0 % (L + 1) := ⟨_, rfl⟩
  have hXL : X0 ≤ L := by have := Nat.mod_lt x0 (show 0 < L + 1 by omega); omega
  have hYL : Y0 ≤ L := by have := Nat.mod_lt y0 (show 0 < L + 1 by omega); omega
  have r2 : (x0 : Int).tmod ((L : Int) + 1) = (X0 : Int) := by have := tmod_nat x0 (L + 1); rw [← hX0] at this; exact this
  have r2b : (x0 : Int) % ((L : Int) + 1) = (X0 : Int) := by rw [hX0]; exact (Int.natCast_emod x0 (L + 1)).symm
  have r3 : (y0 : Int).tmod ((L : Int) + 1) = (Y0 : Int) := by have := tmod_nat y0 (L + 1); rw [← hY0] at this; exact this
  have r3b : (y0 : Int) % ((L : Int) + 1) = (Y0 : Int) := by rw [hY0]; exact (Int.natCast_emod y0 (L + 1)).symm
  have HR2 := Lib.hid (And.intro r2 r3)
  have HR2b := Lib.hid (And.intro r2b r3b)
  have HROWS := Lib.hid hR
  have HUN := Lib.hid hU
  have HN1 := fun w => Lib.hid (newM_own (L : Int) w (by omega))
  have HWA := fun w => Lib.hid (awakeM w)
  have hb0 := below_box W (.cells #[.int .u8 (x0 : Int), .int .u8 (y0 : Int)] 22)
  obtain ⟨V, hV⟩ : ∃ V, V = W.alloc (.cells #[.int .u8 (x0 : Int), .int .u8 (y0 : Int)] 22) := ⟨_, rfl⟩
  have hP0 : V.heap[W.heap.size]? = some (.cells #[.int .u8 (x0 : Int), .int .u8 (y0 : Int)] 22 (0, 0)) := by rw [hV]; exact heap_new rfl
  rw [← hV] at hb0
  have HV := Lib.hid hV
  have HB0 := Lib.hid hb0
  have HP0 := Lib.hid (show ∀ w, Below V.heap.size V w → w.cell? ⟨W.heap.size, 0, none⟩ = some (.int .u8 (x0 : Int)) ∧ w.cell? ⟨W.heap.size, 1, none⟩ = some (.int .u8 (y0 : Int)) from fun w hb => ⟨cell0 (r := [.int .u8 (y0 : Int)]) (below_old hb hP0 (lt_of_block hP0)), cell1 (r := []) (below_old hb hP0 (lt_of_block hP0))⟩)
  obtain ⟨i0, hi, hz0, hz1, hz2⟩ := info_parts infoChar
  have HI := Lib.hid (show i0.bytes * L ≤ 281474976710656 by rw [hz2]; omega)
  have HHI := Lib.hid (And.intro hi (And.intro hz0 hz1))
  clear hR hU hL hX0 hY0 hle r2 r2b r3 r3b hV hb0 hP0 hi hz0 hz1 hz2
  go_enter Try.func3, Try.ntmps3
  go_wp2_with (at_make; refine wpList_make_full _ rfl (.tmp 26) (.tmp 26) 24 rfl V.heap.size 25 i0 (.int .i32 0) 1 Try.underlying24 HHI.out.1 HHI.out.2.1 HHI.out.2.2 .i64 .i64 _ _ L rfl rfl rfl rfl ?c2 ?c3 ?c4 ?_)
  case c2 => exact HI.out
  case c3 => unfold maxLen; omega
  case c4 => rw [HV.out]; exact Nat.le_refl _
  rw [← HV.out]
  intro w1 o1 g1
  have hVs : V.heap.size = W.heap.size + 1 := by rw [HV.out]; simp
  rw [← hVs] at o1 ⊢
  have hb1 : Below V.heap.size V w1 := (Below.refl _ V).grown g1 (Nat.le_refl _) (fun k e => by cases e)
  rw [toList_madeCells_one] at o1
  have hc1 : OwnC w1 V.heap.size (.slice (some ⟨V.heap.size, 0, none⟩) L L) (List.replicate L 0) := by
    refine ⟨?_, fun x hx => by rw [List.eq_of_mem_replicate hx]; unfold Pl.J; omega⟩
    rw [List.length_replicate, show cellsC (List.replicate L 0) = List.replicate L (Value.int .i32 0) by simp [cellsC]]; exact o1
  have HC1 := Lib.hid hc1
  have HB1 := Lib.hid hb1
  have HVS := Lib.hid hVs
  clear o1 g1 hc1 hb1 r1 r1b hVs
  have HF1 := Lib.hid (show FiR V V.heap.size L (.int .i64 ((0 : Nat) : Int)) w1 from ⟨0, _, rfl, Nat.zero_le _, List.length_replicate .., HC1.out, HB1.out⟩)
  clear HC1 HB1
  go_wp2_with fail
  go_loopw [30] (fun i wr => FiR V V.heap.size L i wr) (fun i _ => L - (intOf i).toNat)
  case atStart => exact HF1.out
  case round =>
    obtain ⟨j, cs, rfl, hj, hcl, ho, hb⟩ := hrel
    have HB := Lib.hid hb
    have HO := Lib.hid ho
    by_cases hlt : j < L
    · have f2 : wr.frozen? ⟨V.heap.size, j, none⟩ = false := by
        rcases ho.1.2 with ⟨e, _⟩ | ⟨g', cap, cur, e, _, hh, _⟩
        · cases e
        · cases e; exact frozen_of_row wr V.heap.size j _ _ hh
      have cj : wr.cell? ⟨V.heap.size, j, none⟩ = some (.int .i32 (cs.getD j 0)) := by
        obtain ⟨_, hc⟩ := ho.crs
        obtain ⟨g, o, e, _, hc⟩ := hc.at_ hlt
        cases e
        have := hc j hlt
        rwa [Nat.zero_add] at this
      have hx := ho.set_ j 97 (by unfold Pl.J; omega)
      have z0 : (0 : Int) ≤ (j : Int) := Int.natCast_nonneg _
      have z1 : (j : Int) < (L : Int) := Int.ofNat_lt.2 hlt
      have HO3 := Lib.hid hx.1
      have HB3 := Lib.hid (hb.grown hx.2 hb.size (fun k e => by cases e; exact Nat.le_refl _))
      have HL3 := Lib.hid (show (cs.set j 97).length = L by rw [List.length_set]; exact hcl)
      clear ho hb hx hcl
      go_wp2_with fail
      go_roundw
      case rel => exact ⟨j + 1, cs.set j 97, by go_num, hlt, HL3.out, HO3.out, HB3.out⟩
      case measure => simp [intOf]; omega
    · have hjL : j = L := by omega
      have HCL := Lib.hid hcl
      clear ho hb hcl
      go_wp2_with fail
      refine (HN1 _).out.mono ?_
      rintro e w2 ⟨p, b, rfl, h2, hb2⟩
      have HB2 := Lib.hid (below_then HB.out hb2)
      have HO2 := Lib.hid (OwnC.then_ HO.out hb2)
      have HWR := Lib.hid (And.intro HB.out.size (HO.out.lt))
      have H2 := Lib.hid h2
      have H2p := Lib.hid (And.intro h2.p_ h2.b_)
      obtain ⟨p0, p1⟩ := HP0.out w2 HB2.out
      obtain ⟨r2, r3⟩ := HR2.out
      obtain ⟨r2b, r3b⟩ := HR2b.out
      have wL : IntKind.i64.wrap ((L : Int) + 1) = (L : Int) + 1 := by rw [IntKind.wrap_i64]; omega
      have nL : ¬ ((L : Int) + 1 = 0) := by omega
      clear h2 hb2 HN1 HF1
      go_wp2_with fail
      go_quiet (fail)
      clear p0 p1 r2 r3 r2b r3b wL nL
      obtain ⟨w3, hw3⟩ : ∃ x, x = w2.drewN nq := ⟨_, rfl⟩
      have hb3 : Below w2.heap.size w2 w3 := by rw [hw3]; exact below_drewN (Below.refl _ _) _
      rw [← hw3]
      have HB3 := Lib.hid (below_then HB2.out hb3)
      have HO3 := Lib.hid (OwnC.then_ HO2.out hb3)
      have H3 := Lib.hid (H2.out.then_ hb3)
      clear hw3 hb3 H2
      go_wp2_with fail
      refine (HWA _).out.mono ?_
      rintro e w4 ⟨rfl, hb4⟩
      have HB4 := Lib.hid (below_then HB3.out hb4)
      have HO4 := Lib.hid (OwnC.then_ HO3.out hb4)
      have H4 := Lib.hid (H3.out.then_ hb4)
      have HS4 := Lib.hid (setM_any H4.out.at_ (c := 1) (v := (X0 : Int)) (by decide) (by omega))
      clear hb4 H3 HWA
      go_wp2_with fail
      refine HS4.out.mono ?_
      rintro e w5 ⟨rfl, h5, ht5⟩
      have HS5 := Lib.hid (setM_any h5 (c := 2) (v := (Y0 : Int)) (by decide) (by omega))
      have HT5 := Lib.hid ht5
      clear h5 ht5 HS4
      go_wp2_with fail
      refine HS5.out.mono ?_
      rintro e w6 ⟨rfl, h6, ht6⟩
      have HK6 := Lib.hid (show KeS V w6 p b (some ⟨V.heap.size, 0, none⟩) L L cs (X0 : Int) (Y0 : Int) from by
        have ht := HT5.out.trans ht6 (fun _ _ x => x)
        have hp := H2p.out
        refine ⟨⟨Nat.le_trans HWR.out.1 hp.1, Nat.le_trans HWR.out.1 hp.2, h6⟩, HO4.out.tn ht (fun g hg e => ?_), fun g hg e => ?_, ht.below HB4.out HB4.out.size (fun i hi => by have := HWR.out.1; omega), by omega, by omega⟩
        · have := (HWR.out.2 g hg).2
          omega
        · have := (HWR.out.2 g hg).2
          omega)
      clear h6 ht6 HT5 HS5 H4 HO4 HB4 HO3 HB3 HO2 HB2 HO HB
      have HR0 := Lib.hid (show KeR V p n (.slice (some ⟨V.heap.size, 0, none⟩) L L) (.int .i64 (X0 : Int)) (.int .i64 (Y0 : Int)) (.int .i64 ((0 : Nat) : Int)) w6 from ⟨0, L, _, _, cs, b, _, _, rfl, rfl, rfl, rfl, Nat.zero_le _, Nat.zero_le _, by omega, HK6.out⟩)
      clear HK6 hXL hYL
      go_wp2_with fail
      clear hlt hj hjL
      go_loopw [8, 12, 13, 74] (fun t a q i wr => KeR V p n t a q i wr) (fun _ _ _ i _ => n - (intOf i).toNat)
      case atStart => exact HR0.out
      case round =>
        obtain ⟨v, N, A3, c3, cs3, b3, x, y, rfl, rfl, rfl, rfl, hv, hv2, hN, hk⟩ := hrel
        have HK := Lib.hid hk
        clear hk
        by_cases hlt : v < n
        · by_cases hlt2 : v < 20
          · have hrw := Rws.then_ HROWS.out (below_then HB0.out HK.out.below)
            obtain ⟨g, o, rfl, hg, hcl⟩ := Rws.at_ encS_len hrw hlt
            have c0 := hcl v hlt 0 _ (by decide) rfl
            have hul := HUN.out (R.getD v default) (by rw [List.getD_eq_getElem?_getD, List.getElem?_eq_getElem (by rw [hrw.len]; exact hlt)]; exact List.getElem_mem _)
            obtain ⟨⟨B, m, d, l⟩, hq⟩ : ∃ q, q = R.getD v default := ⟨_, rfl⟩
            rw [← hq] at c0 hul
            simp only [Nat.mul_one, Nat.add_zero] at c0 hul
            obtain ⟨k, hkk⟩ : ∃ k, k = min m 20 := ⟨_, rfl⟩
            have hkm : k ≤ m := by omega
            have hk20 : k ≤ 20 := by omega
            have hmin : (if (20 : Int) < (m : Int) then (20 : Int) else (m : Int)) = (k : Int) := by split <;> omega
            have hmd := hul.1.le
            have hs := slice_toU B m d k (by omega)
            obtain ⟨row, hrow⟩ : ∃ r, r = l.take k := ⟨_, rfl⟩
            have HUS := Lib.hid (show ∀ w, Below V.heap.size V w → Uns w w.heap.size B k d row from fun w hb => by rw [hrow]; exact Rws.then_ (Rws.upto encU_len hul.1 hkm) (below_then HB0.out hb))
            have z0 : (0 : Int) ≤ (v : Int) := Int.natCast_nonneg _
            have z1 : (v : Int) < (n : Int) := Int.ofNat_lt.2 hlt
            have z2 : ((v : Int) == 20) = false := by rw [beq_eq_false_iff_ne]; omega
            have HWV := Lib.hid (show wrap64 ((v : Int) + 1) = ((v + 1 : Nat) : Int) by unfold wrap64; omega)
            have HMS := Lib.hid (show n - (v + 1) < n - v by omega)
            have HNE := Lib.hid (show N ≤ 60 + 20 * v ∧ v < n ∧ v < 20 ∧ k ≤ 20 from ⟨hN, hlt, hlt2, hk20⟩)
            obtain ⟨N1, E, hlo⟩ : ∃ N1 E, Pl.longL row (N : Int) = (N1, E) := ⟨_, _, rfl⟩
            have HLO := Lib.hid hlo
            clear hrw hcl hul hq hkk hrow hlo hN hlt2 hv hv2 hmd hkm hk20
            by_cases hE : E = 0
            · subst hE
              have hcr := HK.out.text.crs
              have hlo := HLO.out
              rw [hcr.1] at hlo
              have hfit := longL_ok (row := row) (cs := cs3) (by rw [hlo])
              have hlf := Pl.longL_fit hfit
              have hle3 := Pl.len_leave_le hfit
              have hrl := (HUS.out wr HK.out.below).len
              have hne := HNE.out
              have hap := applyR_fit A3 N c3 cs3 B k d row wr hcr.2 (HUS.out wr HK.out.below) (by omega) (by omega) hfit
              obtain ⟨cs4, hcs4⟩ : ∃ z, z = Pl.leave row cs3 := ⟨_, rfl⟩
              rw [← hcs4] at hap hlf hle3
              obtain ⟨N2, hN2⟩ : ∃ z, z = cs4.length := ⟨_, rfl⟩
              rw [← hN2] at hap hlf hle3
              rw [hlo] at hlf
              obtain rfl : N1 = (N2 : Int) := congrArg Prod.fst hlf
              have hN2N : N2 ≤ N + k := by omega
              have hpx := fun {x y : Int} (h0 : 0 ≤ x) (h1 : x ≤ y) (h2 : y ≤ N) => Pl.placeR_keeps HLO.out h0 h1 h2 (by omega)
              have hinx := HK.out.inx
              have hiny := HK.out.iny
              have p1 := hpx hinx.1 (Int.le_refl _) hinx.2
              have p2 := hpx hiny.1 (Int.le_refl _) hiny.2
              have p3 : x ≤ y → Pl.placeR x row ≤ Pl.placeR y row := fun h => (hpx hinx.1 h hiny.2).2.1
              have p4 : y ≤ x → Pl.placeR y row ≤ Pl.placeR x row := fun h => (hpx hiny.1 h hinx.2).2.1
              have HAP := Lib.hid hap
              have HG := fun w => Lib.hid (fun hm hu => goM_ok (w := w) (p := p) (b := b3) (N := (N : Int)) (N1 := (N2 : Int)) (M := [(1, x), (2, y)]) (B := B) (m := k) (d := d) (l := row) hm hu (by omega) (by omega) HLO.out (by omega))
              have hgo : Pl.goM (fun v => Pl.placeR v row) [(1, x), (2, y)] = [(1, Pl.placeR x row), (2, Pl.placeR y row)] := rfl
              obtain ⟨x1, hx1⟩ : ∃ z, z = Pl.placeR x row := ⟨_, rfl⟩
              obtain ⟨y1, hy1⟩ : ∃ z, z = Pl.placeR y row := ⟨_, rfl⟩
              rw [← hx1, ← hy1] at p3 p4 hgo
              rw [← hx1] at p1
              rw [← hy1] at p2
              have HGO := Lib.hid hgo
              have HIN := Lib.hid (show (0 ≤ x1 ∧ x1 ≤ (N2 : Int)) ∧ (0 ≤ y1 ∧ y1 ≤ (N2 : Int)) ∧ (x ≤ y → x1 ≤ y1) ∧ (y ≤ x → y1 ≤ x1) ∧ N2 ≤ 60 + 20 * (v + 1) from ⟨⟨p1.1, p1.2.2⟩, ⟨p2.1, p2.2.2⟩, p3, p4, by omega⟩)
              clear hcr hlo hfit hlf hle3 hrl hne hap hcs4 hN2 hN2N hpx hinx hiny p1 p2 p3 p4 hgo hx1 hy1
              go_wp2_with fail
              refine HAP.out.mono ?_
              rintro e w7 ⟨A4, c4, rfl, ho7, hb7⟩
              have HB7 := Lib.hid (below_then HK.out.below hb7)
              have HM7 := Lib.hid (HK.out.marks.then_ hb7)
              have HO7 := Lib.hid (And.intro ho7 (fun g hg => (ho7.lt g hg).1))
              have HW7 := Lib.hid (show p < wr.heap.size from HK.out.marks.at_.lt)
              have HG7 := Lib.hid ((HG w7).out HM7.out.at_ (HUS.out w7 HB7.out))
              rw [HGO.out] at HG7
              clear ho7 hb7 HAP HG
              go_wp2_with fail
              refine HG7.out.mono ?_
              rintro e w8 ⟨b4, rfl, hs8, h8, ht8⟩
              have HK8 := Lib.hid (show KeS V w8 p b4 A4 N2 c4 cs4 x1 y1 from by
                have hw := HW7.out
                have hwV := HB7.out.size
                have hwr := HK.out.below.size
                have hpV := HK.out.marks.p_
                exact ⟨⟨hpV, by omega, h8⟩, (HO7.out.1.tn ht8 (fun g hg e => by have := HO7.out.2 g hg; omega)).lower hwr, fun g hg => by have := HO7.out.2 g hg; omega, ht8.below HB7.out HB7.out.size (fun i hi => by omega), HIN.out.1, HIN.out.2.1⟩)
              clear hs8 h8 ht8 HG7 HM7 HO7 HB7 HK
              have HG1 := Lib.hid (getM_any HK8.out.marks.at_ (c := 1) (by decide))
              have HG2 := Lib.hid (getM_any HK8.out.marks.at_ (c := 2) (by decide))
              have HLG := Lib.hid (longM HK8.out.marks.at_)
              go_wp2_with fail
              refine (show Calls Try.prog 12 #[.pointer (some ⟨p, 0, none⟩), .int .u32 1] w8 _ from HG1.out).mono ?_
              rintro e w9 ⟨rfl, hw⟩
              rw [hw, show gotM [(1, x1), (2, y1)] 1 = .tuple #[.int .i64 x1, .bool true] from rfl]
              clear hw w9 HG1
              go_wp2_with fail
              refine (show Calls Try.prog 12 #[.pointer (some ⟨p, 0, none⟩), .int .u32 2] w8 _ from HG2.out).mono ?_
              rintro e w9 ⟨rfl, hw⟩
              rw [hw, show gotM [(1, x1), (2, y1)] 2 = .tuple #[.int .i64 y1, .bool true] from rfl]
              clear hw w9 HG2
              have hin := HIN.out
              have zq0 : decide (x1 < 0) = false := decide_eq_false (by omega)
              have zq1 : decide ((N2 : Int) < x1) = false := decide_eq_false (by omega)
              have zq2 : decide (x1 > (N2 : Int)) = false := decide_eq_false (by omega)
              have zq3 : decide (y1 < 0) = false := decide_eq_false (by omega)
              have zq4 : decide ((N2 : Int) < y1) = false := decide_eq_false (by omega)
              have zq5 : decide (y1 > (N2 : Int)) = false := decide_eq_false (by omega)
              by_cases hxy : x ≤ y
              · have zq6 : decide (x ≤ y) = true := decide_eq_true hxy
                have zq7 : decide (x1 > y1) = false := decide_eq_false (by omega)
                have zq8 : decide (y1 < x1) = false := decide_eq_false (by omega)
                by_cases hyx : y ≤ x
                · have zq9 : decide (y ≤ x) = true := decide_eq_true hyx
                  have zq10 : decide (y1 > x1) = false := decide_eq_false (by omega)
                  have zq11 : decide (x1 < y1) = false := decide_eq_false (by omega)
                  clear hin hxy hyx
                  go_wp2_with fail
                  refine HLG.out.mono ?_
                  rintro e w9 ⟨rfl, hw⟩
                  rw [hw]
                  clear hw w9
                  go_wp2_with fail
                  rw [HWV.out]
                  go_roundw
                  case rel => exact ⟨v + 1, N2, A4, c4, cs4, b4, x1, y1, rfl, rfl, rfl, rfl, HNE.out.2.1, HNE.out.2.2.1, HIN.out.2.2.2.2, HK8.out⟩
                  case measure => simp [intOf]; exact HMS.out
                · have zq9 : decide (y ≤ x) = false := decide_eq_false hyx
                  clear hin hxy hyx
                  go_wp2_with fail
                  refine HLG.out.mono ?_
                  rintro e w9 ⟨rfl, hw⟩
                  rw [hw]
                  clear hw w9
                  go_wp2_with fail
                  rw [HWV.out]
                  go_roundw
                  case rel => exact ⟨v + 1, N2, A4, c4, cs4, b4, x1, y1, rfl, rfl, rfl, rfl, HNE.out.2.1, HNE.out.2.2.1, HIN.out.2.2.2.2, HK8.out⟩
                  case measure => simp [intOf]; exact HMS.out
              · have zq6 : decide (x ≤ y) = false := decide_eq_false hxy
                have zq9 : decide (y ≤ x) = true := decide_eq_true (by omega)
                have zq10 : decide (y1 > x1) = false := decide_eq_false (by omega)
                have zq11 : decide (x1 < y1) = false := decide_eq_false (by omega)
                clear hin hxy
                go_wp2_with fail
                refine HLG.out.mono ?_
                rintro e w9 ⟨rfl, hw⟩
                rw [hw]
                clear hw w9
                go_wp2_with fail
                rw [HWV.out]
                go_roundw
                case rel => exact ⟨v + 1, N2, A4, c4, cs4, b4, x1, y1, rfl, rfl, rfl, rfl, HNE.out.2.1, HNE.out.2.2.1, HIN.out.2.2.2.2, HK8.out⟩
                case measure => simp [intOf]; exact HMS.out
            · have hE0 := longR_err HLO.out hE
              subst hE0
              have hne := HNE.out
              have HAP := Lib.hid (applyR_bad A3 N c3 B k d row wr (HUS.out wr HK.out.below) (by omega) (by omega) E 0 HLO.out hE)
              have zE : (E == 0) = false := by simpa using hE
              have zE2 : (E != 0) = true := by rw [bne_iff_ne]; exact hE
              have HIN := Lib.hid (show (0 ≤ x ∧ x ≤ (N : Int)) ∧ (0 ≤ y ∧ y ≤ (N : Int)) ∧ (x ≤ y → x ≤ y) ∧ (y ≤ x → y ≤ x) ∧ N ≤ 60 + 20 * (v + 1) from ⟨HK.out.inx, HK.out.iny, id, id, by omega⟩)
              have HEN := Lib.hid hE
              have HN6 := Lib.hid (show (N : Int) ≤ 1000000 ∧ k ≤ 1000 by omega)
              clear hne hE
              go_wp2_with fail
              refine HAP.out.mono ?_
              rintro e w7 ⟨rfl, hb7⟩
              have HB7 := Lib.hid (below_then HK.out.below hb7)
              have HM7 := Lib.hid (HK.out.marks.then_ hb7)
              have HO7 := Lib.hid (OwnC.then_ HK.out.text hb7)
              have HG7 := Lib.hid (goM_bad HM7.out.at_ (HUS.out w7 HB7.out) HN6.out.2 HN6.out.1 HLO.out HEN.out)
              clear hb7 HAP
              go_wp2_with fail
              refine HG7.out.mono ?_
              rintro e w8 ⟨rfl, hb8⟩
              have HK8 := Lib.hid (show KeS V w8 p b3 A3 N c3 cs3 x y from ⟨HM7.out.then_ hb8, OwnC.then_ HO7.out hb8, HK.out.ap, below_then HB7.out hb8, HK.out.inx, HK.out.iny⟩)
              clear hb8 HG7 HM7 HO7 HB7 HK
              have HG1 := Lib.hid (getM_any HK8.out.marks.at_ (c := 1) (by decide))
              have HG2 := Lib.hid (getM_any HK8.out.marks.at_ (c := 2) (by decide))
              have HLG := Lib.hid (longM HK8.out.marks.at_)
              go_wp2_with fail
              refine (show Calls Try.prog 12 #[.pointer (some ⟨p, 0, none⟩), .int .u32 1] w8 _ from HG1.out).mono ?_
              rintro e w9 ⟨rfl, hw⟩
              rw [hw, show gotM [(1, x), (2, y)] 1 = .tuple #[.int .i64 x, .bool true] from rfl]
              clear hw w9 HG1
              go_wp2_with fail
              refine (show Calls Try.prog 12 #[.pointer (some ⟨p, 0, none⟩), .int .u32 2] w8 _ from HG2.out).mono ?_
              rintro e w9 ⟨rfl, hw⟩
              rw [hw, show gotM [(1, x), (2, y)] 2 = .tuple #[.int .i64 y, .bool true] from rfl]
              clear hw w9 HG2
              have hin := HIN.out
              have zq0 : decide (x < 0) = false := decide_eq_false (by omega)
              have zq1 : decide ((N : Int) < x) = false := decide_eq_false (by omega)
              have zq2 : decide (x > (N : Int)) = false := decide_eq_false (by omega)
              have zq3 : decide (y < 0) = false := decide_eq_false (by omega)
              have zq4 : decide ((N : Int) < y) = false := decide_eq_false (by omega)
              have zq5 : decide (y > (N : Int)) = false := decide_eq_false (by omega)
              by_cases hxy : x ≤ y
              · have zq6 : decide (x ≤ y) = true := decide_eq_true hxy
                have zq7 : decide (x > y) = false := decide_eq_false (by omega)
                have zq8 : decide (y < x) = false := decide_eq_false (by omega)
                by_cases hyx : y ≤ x
                · have zq9 : decide (y ≤ x) = true := decide_eq_true hyx
                  have zq10 : decide (y > x) = false := decide_eq_false (by omega)
                  have zq11 : decide (x < y) = false := decide_eq_false (by omega)
                  clear hin hxy hyx
                  go_wp2_with fail
                  refine HLG.out.mono ?_
                  rintro e w9 ⟨rfl, hw⟩
                  rw [hw]
                  clear hw w9
                  go_wp2_with fail
                  rw [HWV.out]
                  go_roundw
                  case rel => exact ⟨v + 1, N, A3, c3, cs3, b3, x, y, rfl, rfl, rfl, rfl, HNE.out.2.1, HNE.out.2.2.1, HIN.out.2.2.2.2, HK8.out⟩
                  case measure => simp [intOf]; exact HMS.out
                · have zq9 : decide (y ≤ x) = false := decide_eq_false hyx
                  clear hin hxy hyx
                  go_wp2_with fail
                  refine HLG.out.mono ?_
                  rintro e w9 ⟨rfl, hw⟩
                  rw [hw]
                  clear hw w9
                  go_wp2_with fail
                  rw [HWV.out]
                  go_roundw
                  case rel => exact ⟨v + 1, N, A3, c3, cs3, b3, x, y, rfl, rfl, rfl, rfl, HNE.out.2.1, HNE.out.2.2.1, HIN.out.2.2.2.2, HK8.out⟩
                  case measure => simp [intOf]; exact HMS.out
              · have zq6 : decide (x ≤ y) = false := decide_eq_false hxy
                have zq9 : decide (y ≤ x) = true := decide_eq_true (by omega)
                have zq10 : decide (y > x) = false := decide_eq_false (by omega)
                have zq11 : decide (x < y) = false := decide_eq_false (by omega)
                clear hin hxy
                go_wp2_with fail
                refine HLG.out.mono ?_
                rintro e w9 ⟨rfl, hw⟩
                rw [hw]
                clear hw w9
                go_wp2_with fail
                rw [HWV.out]
                go_roundw
                case rel => exact ⟨v + 1, N, A3, c3, cs3, b3, x, y, rfl, rfl, rfl, rfl, HNE.out.2.1, HNE.out.2.2.1, HIN.out.2.2.2.2, HK8.out⟩
                case measure => simp [intOf]; exact HMS.out
          · have hv20 : v = 20 := by omega
            subst hv20
            have hrw := Rws.then_ HROWS.out (below_then HB0.out HK.out.below)
            obtain ⟨g, o, rfl, hg, hcl⟩ := Rws.at_ encS_len hrw hlt
            have c0 := hcl 20 hlt 0 _ (by decide) rfl
            simp only [Nat.mul_one, Nat.add_zero] at c0
            have z1 : ((20 : Nat) : Int) < (n : Int) := Int.ofNat_lt.2 hlt
            clear hrw hcl hv hv2 hN
            go_wp2_with fail
            go_ret
            exact ⟨rfl, below_then HB0.out HK.out.below⟩
        · have hvn : v = n := by omega
          clear hv2 hN
          go_wp2_with fail
          go_ret
          exact ⟨rfl, below_then HB0.out HK.out.below⟩
    
end Go.Proofs.Ytfjnliebgndemaa.markKeeps
