/-
  PastGrows' walk: what was committed stays. Conditions: each operation's units are of at most 2^47 bytes.
-/
import Derived.Test.YtkgehgedbgogbaaPbE
import Derived.Deep.CutBlock
import Derived.Deep.DeepCutAuto
namespace Go.Proofs.Ytkgehgedbgogbaa
open Go.RowKit
open Pl (Un)

/-- within 64 bits -/
def Pl.U (m : Nat) : Prop := m < 18446744073709551616
theorem Pl.U.mk {m : Nat} (h : m < 18446744073709551616) : Pl.U m := h
theorem Pl.U.out {m : Nat} (h : Pl.U m) : m < 18446744073709551616 := h
/-- what stands behind each Push: the length, the operations that were taken, the lengths, the past -/
def GrS (W : World) (B p fr : Nat) (N : Int) (T : List Pl.Op) (n a l : Value) (wr : World) : Prop := n = .int .i64 (N + Pl.total T) ∧ (∃ A c, a = .slice A T.length c) ∧ (∃ A c, l = .slice A (T.length + 1) c) ∧ GrI W B p fr N T T (Pl.lens N T) a l wr
def GrL (W : World) (B p fr : Nat) (N : Int) (P : List Pl.Op) (n a l i : Value) (wr : World) : Prop := ∃ j : Nat, i = .int .i64 (j : Int) ∧ j ≤ P.length ∧ j ≤ 60 ∧ GrS W B p fr N (Pl.taken N (P.take j)) n a l wr
theorem OwnO.rowP {w : World} {B : Nat} {F : Nat → Prop} {A : Option Addr} {n c : Nat} {L : List OpV} (h : OwnO 38 w B F (.slice A n c) L) : RowP w A n c (L.map OpV.op) := ⟨L, ⟨h.rws.2, fun _ _ _ => trivial, fun o ho => (h.uns o ho).more fun _ _ => trivial⟩, rfl⟩
theorem RowP.from_ {w : World} {A : Option Addr} {n c i : Nat} {P : List Pl.Op} (h : RowP w A n c P) (hi : i ≤ n) : RowP w (if c = i then A else A.map (·.add (i * 4))) (n - i) (c - i) (P.drop i) := by
  obtain ⟨L, h1, h2⟩ := h
  exact ⟨L.drop i, ⟨Rws.from_ encO_len h1.1 hi, fun _ _ _ => trivial, fun o ho => h1.2.2 o (List.mem_of_mem_drop ho)⟩, by rw [List.map_drop, h2]⟩
/-- between one revision and the next -/
def Gr2 (W : World) (p q fr fq : Nat) (N Nq : Int) (T Tq : List Pl.Op) (Aa : Option Addr) (M ca : Nat) (Al : Option Addr) (cl : Nat) (i : Value) (wr : World) : Prop :=
  ∃ t : Nat, i = .int .i64 (t : Int) ∧ t ≤ M + 1 ∧ PastAt wr p (fun b => b ≠ p) fr N T ∧ PastAt wr q (fun b => b ≠ q) fq Nq Tq ∧ RowP wr Aa M ca T ∧ Rws encI wr wr.heap.size Al (M + 1) cl (Pl.lens N T) ∧ Below W.heap.size W wr
theorem total_bounds {N : Int} {T : List Pl.Op} (h0 : Pl.Long0 N T) (hs : Pl.Small T) (hN : N ≤ 4096) (hl : T.length ≤ 61) : 0 ≤ N + Pl.total T ∧ N + Pl.total T ≤ 214624669746020 := by
  have := h0.last
  have := Pl.total_le hs
  omega
set_option maxRecDepth 100000 in
set_option maxHeartbeats 2000000 in
theorem pastGrows.walk (W : World) (f0 : Nat) (_yf : Pl.U f0) (l0 : Nat) (_yl : l0 < 65536) (A0 : Option Addr) (n0 c0 : Nat) (L : List OpV) (h : OpsF W (fun b => b < W.heap.size) A0 n0 c0 L) (hs : ∀ o ∈ L, (∀ u ∈ o.l, Pl.UnB u) ∧ o.c * 40 ≤ reachBytes ∧ Pl.IdB o.x o.y) (k0 : Nat) (yk : k0 < 256) :
    Calls Try.prog 3 #[.int .u64 (f0 : Int), .int .u16 (l0 : Int), .slice A0 n0 c0, .int .u8 (k0 : Int)] W fun e w' => e = .returned (.bool true) ∧ Below W.heap.size W w' := by
  obtain ⟨hrow, hsml⟩ := open_row h hs
  obtain ⟨P, hP⟩ : ∃ P, P = L.map OpV.op := ⟨_, rfl⟩
  rw [← hP] at hrow hsml
  have hcap := h.1.cap
  have hle := h.1.le
  unfold maxLen at hcap
  have HROW := Lib.hid hrow
  have HSML := Lib.hid hsml
  have HPL := Lib.hid hrow.len
  obtain ⟨fr, hfr⟩ : ∃ f, f = f0 % 549755813888 := ⟨_, rfl⟩
  have hfrb : fr < 549755813888 := by rw [hfr]; exact Nat.mod_lt _ (by decide)
  have r1 : (f0 : Int).tmod 549755813888 = (fr : Int) := by have := tmod_nat f0 549755813888; rw [← hfr] at this; exact this
  have r1b : (f0 : Int) % 549755813888 = (fr : Int) := by rw [hfr]; exact (Int.natCast_emod f0 549755813888).symm
  obtain ⟨n4, hn4⟩ : ∃ f, f = l0 % 4097 := ⟨_, rfl⟩
  have hn4b : n4 ≤ 4096 := by have := Nat.mod_lt l0 (show 0 < 4097 by decide); omega
  have r2 : (l0 : Int).tmod 4097 = (n4 : Int) := by have := tmod_nat l0 4097; rw [← hn4] at this; exact this
  have r2b : (l0 : Int) % 4097 = (n4 : Int) := by rw [hn4]; exact (Int.natCast_emod l0 4097).symm
  have HFR := Lib.hid (show fr ≤ 549755813888 by omega)
  have HN4 := Lib.hid (show (n4 : Int) ≤ 4096 ∧ (0 : Int) ≤ (n4 : Int) by omega)
  have hnw := new_any fr (n4 : Int) W (by omega) (by omega)
  have HNW := Lib.hid hnw
  clear h hs hP hrow hsml hfr hn4 hnw hfrb
  go_enter Try.func3, Try.ntmps3
  go_wp2_with fail
  refine HNW.out.mono ?_
  rintro e w1 ⟨rfl, hp1, hb1⟩
  obtain ⟨p, hp⟩ : ∃ p, p = W.heap.size + 1 := ⟨_, rfl⟩
  rw [← hp] at hp1 ⊢
  have HLE := Lib.hid (show W.heap.size ≤ p by omega)
  have HPB := Lib.hid hp1.lt
  have HP1 := Lib.hid hp1
  have HB1 := Lib.hid hb1
  clear hp hp1 hb1 r1 r1b r2 r2b HNW
  obtain ⟨N, hN⟩ : ∃ N : Int, N = (n4 : Int) := ⟨_, rfl⟩
  rw [← hN] at HP1 HN4 ⊢
  have HI0 := Lib.hid (show GrS W w1.heap.size p fr N [] (.int .i64 N) (.slice none 0 0) (.slice (some ⟨w1.heap.size, 0, none⟩) 1 1) (w1.alloc (.cells #[.int .i64 N] 3)) from by
    have hb := below_box w1 (.cells #[.int .i64 N] 3)
    refine ⟨by rw [Pl.total_nil, Int.add_zero], ⟨none, 0, rfl⟩, ⟨_, _, rfl⟩, ⟨fun _ => False, [], OwnO.nil_ _ _ _ _, fun b h => h.elim, rfl⟩, by rw [Pl.lens_nil]; exact litI w1 [N] (by simp [maxLen]), (fun g h => by cases h), ?_, below_then HB1.out hb, hb.size, HPB.out, HLE.out⟩
    refine (HP1.out.old.then_ hb).more (fun b h => ⟨h.1, (fun e => by cases e), fun e => ?_⟩) (fun e => e.1 rfl)
    have := Option.some.inj e
    have := h.2
    simp only at *
    omega)
  have hNN : ∃ X : Value, X = .int .i64 N := ⟨_, rfl⟩
  clear hN hn4b hNN
  go_upto_block 0 with fail
  go_cut [9, 12, 13] (fun n a l wx => ∃ j : Nat, j ≤ 60 ∧ GrS W w1.heap.size p fr N (Pl.taken N (P.take j)) n a l wx)
  case first =>
    go_wp2_with fail
    go_loopw [9, 12, 13, 14] (fun n a l i wr => GrL W w1.heap.size p fr N P n a l i wr) (fun _ _ _ i _ => 60 - (intOf i).toNat)
    case atStart => exact ⟨0, rfl, Nat.zero_le _, Nat.zero_le _, by rw [List.take_zero]; exact HI0.out⟩
    case round =>
      obtain ⟨j, rfl, hj, hj2, rfl, ⟨Aa, ca, rfl⟩, ⟨Al, cl, rfl⟩, hI⟩ := hrel
      rw [HPL.out] at hj
      obtain ⟨T, hT⟩ : ∃ T, T = Pl.taken N (P.take j) := ⟨_, rfl⟩
      have htl := taken_le N P j
      have hL0 := Pl.Long0.taken HN4.out.2 (P.take j)
      rw [← hT] at hI htl hL0 ⊢
      have HII := Lib.hid hI
      have HTT := Lib.hid hT
      clear hT hI
      by_cases hlt : j < n0
      · by_cases hlt2 : j < 60
        · obtain ⟨g, o, A2, n2, c2, rfl, hcl, hun⟩ := (HROW.out.then_ HII.out.bel).at_ hlt
          obtain ⟨a0, a1, a2, a3⟩ := hcl wr (Below.refl _ _)
          have hjP : j < P.length := by rw [HPL.out]; exact hlt
          have hstep := Pl.taken_take N P hjP
          rw [← HTT.out] at hstep
          have hsm := HSML.out (P.getD j default) (by rw [List.getD_eq_getElem?_getD, List.getElem?_eq_getElem hjP]; exact List.getElem_mem _)
          obtain ⟨⟨x, y, l, b⟩, hq⟩ : ∃ q, q = P.getD j default := ⟨_, rfl⟩
          rw [← hq] at a0 a1 a3 hun hstep hsm
          have HQ := Lib.hid hq
          simp only at a0 a1 a3 hun hsm
          obtain ⟨nw, hnw⟩ : ∃ v, v = fr + T.length := ⟨_, rfl⟩
          obtain ⟨nx, hnx⟩ : ∃ v, v = fr + (T.length + 1) := ⟨_, rfl⟩
          have hfr0 := HFR.out
          have hN0 := HN4.out
          have hpu := push_anyF HII.out.past HII.out.new x y A2 n2 c2 l b hun hsm (by omega) (by omega) (by omega)
          have hno := now_past HII.out.past
          rw [← hnw] at hno
          have HNO := Lib.hid hno
          have HPU := Lib.hid hpu
          have HUN := Lib.hid hun
          have HCC := Lib.hid hcl
          have HSM := Lib.hid hsm
          have HST := Lib.hid hstep
          have HJ1 := Lib.hid (show j + 1 ≤ P.length from hjP)
          have HTL := Lib.hid htl
          have HL0 := Lib.hid hL0
          have HNX := Lib.hid hnx
          have HNE := Lib.hid hnw
          have hw1 : IntKind.u64.wrap ((nw : Int) + 1) = (nx : Int) := by rw [wrap_u64 (by omega) (by omega)]; omega
          have z0 : (0 : Int) ≤ (j : Int) := Int.natCast_nonneg _
          have z1 : (j : Int) < (n0 : Int) := Int.ofNat_lt.2 hlt
          clear hcl hun hjP hstep hsm hq htl hL0 hnw hnx hfr0 hN0 hpu hno
          go_wp2_with fail
          refine HNO.out.mono ?_
          rintro e w2 ⟨rfl, hw⟩
          rw [hw]
          clear hw
          go_wp2_with fail
          refine HPU.out.mono ?_
          rintro e w3 ⟨r, E, rfl, hR⟩
          by_cases htk : Pl.Takes T N ⟨x, y, l, b⟩
          · obtain ⟨hr, rfl⟩ := hR.yes htk
            rw [← HNX.out] at hr
            subst hr
            have hT1 : Pl.taken N (P.take (j + 1)) = T ++ [⟨x, y, l, b⟩] := by rw [HST.out]; unfold Pl.step; rw [if_pos htk]
            have hp3 := hR.past
            unfold Pl.step at hp3
            rw [if_pos htk] at hp3
            have hno := now_past hp3
            rw [List.length_append, List.length_singleton, ← HNX.out] at hno
            have HNO3 := Lib.hid hno
            have HI3 := Lib.hid (HII.out.tn hR.tn hp3)
            have hb1 := total_bounds (Pl.Long0.snoc HL0.out htk) hp3.fine.small HN4.out.1 (by rw [List.length_append, List.length_singleton]; have := HTL.out; omega)
            have hb0 := total_bounds HL0.out HII.out.past.fine.small HN4.out.1 (by have := HTL.out; omega)
            rw [Pl.total_append, Pl.total_one] at hb1
            simp only at hb1
            obtain ⟨gl, hgl⟩ : ∃ z, z = Pl.growsL l := ⟨_, rfl⟩
            obtain ⟨s1, hs1⟩ : ∃ z, z = N + Pl.total (T ++ [⟨x, y, l, b⟩]) := ⟨_, rfl⟩
            have hsum : wrap64 (N + Pl.total T + gl) = s1 := by
              rw [hs1, Pl.total_append, Pl.total_one]
              simp only
              rw [← hgl] at hb1 ⊢
              unfold wrap64
              omega
            obtain ⟨g, o, A5, n5, c5, e5, hcl3, hun3⟩ := (HROW.out.then_ HI3.out.bel).at_ hlt
            cases e5
            rw [show P.getD j default = ⟨x, y, l, b⟩ from HQ.out.symm] at hcl3 hun3
            simp only at hcl3 hun3
            obtain ⟨e0, e1, e2, e3⟩ := hcl3 w3 (Below.refl _ _)
            have HOW := Lib.hid (own10_any x y A5 n5 c5 l b w3 hun3 (by rw [← hun3.len]; exact HSM.out))
            have HGL := Lib.hid hgl
            have HS1 := Lib.hid hs1
            have HT1 := Lib.hid hT1
            have htl1000 : T.length < 1000 := by have := HTL.out; omega
            have HTL0 := Lib.hid htl1000
            have HTL1 := Lib.hid (show T.length + 1 < 1000 by have := HTL.out; omega)
            clear hT1 hp3 hno hR htk HPU a0 a1 a2 a3 hb0 hb1 hgl hs1 hcl3 hun3 htl1000
            go_wp2_with fail
            refine HNO3.out.mono ?_
            rintro e w4 ⟨rfl, hw⟩
            rw [hw]
            clear hw
            go_wp2_with fail
            refine HOW.out.mono ?_
            rintro e w5 ⟨A6, c6, rfl, ho6, hb6⟩
            obtain ⟨A7, c7, w7, hr7, hI7⟩ := HI3.out.more_all 24 x y l b A6 c6 ho6 hb6 HTL0.out
            have HR7 := Lib.hid hr7
            have HI7 := Lib.hid hI7
            obtain ⟨g, o, A8, n8, c8, e8, hcl7, hun7⟩ := (HROW.out.then_ HI7.out.bel).at_ hlt
            cases e8
            rw [show P.getD j default = ⟨x, y, l, b⟩ from HQ.out.symm] at hcl7 hun7
            simp only at hcl7 hun7
            have b2 := (hcl7 w7 (Below.refl _ _)).2.2.1
            have hgr := growsL_big A8 n8 c8 l w7 hun7 (by rw [← hun7.len]; have := HSM.out; omega)
            rw [← HGL.out] at hgr
            have HGR := Lib.hid hgr
            clear hr7 hI7 ho6 hb6 HOW e0 e1 e2 e3 hcl7 hun7 hgr
            go_wp2_with (at_builtin; refine Lib.wpList_append_run (w5.alloc (.cells #[.int .u32 x, .int .u64 y, .slice A6 l.length c6, .bool b] 38)) (by rfl) (.tmp 94) (.tmp 100) 24 24 (by rfl) (.slice Aa T.length ca) (.slice (some ⟨w5.heap.size, 0, none⟩) 1 1) (by rfl) (by rfl) _ _ HR7.out ?_)
            refine HGR.out.mono ?_
            rintro e w8 ⟨rfl, hb8⟩
            obtain ⟨A9, d9, w9, hr9, hI9⟩ := (HI7.out.then_ hb8).more_len 29 s1 HTL1.out
            have HR9 := Lib.hid hr9
            have HI9 := Lib.hid hI9
            clear hr9 hI9 hb8 HGR b2
            go_wp2_with (at_builtin; rw [hsum]; refine Lib.wpList_append_run (w8.alloc (.cells #[.int .i64 s1] 3)) (by rfl) (.tmp 110) (.tmp 112) 29 29 (by rfl) (.slice Al (T.length + 1) cl) (.slice (some ⟨w8.heap.size, 0, none⟩) 1 1) (by rfl) (by rfl) _ _ HR9.out ?_)
            go_wp2_with fail
            go_roundw
            case rel =>
              refine ⟨j + 1, by go_num, HJ1.out, hlt2, ?_⟩
              rw [HT1.out]
              have hl : (T ++ [(⟨x, y, l, b⟩ : Pl.Op)]).length = T.length + 1 := by rw [List.length_append, List.length_singleton]
              refine ⟨by rw [HS1.out], ⟨A7, c7, by rw [hl]⟩, ⟨A9, d9, by rw [hl]⟩, ?_⟩
              rw [Pl.lens_snoc, ← HS1.out]
              exact HI9.out
            case measure => simp [intOf]; omega
          · obtain ⟨rfl, hE⟩ := hR.no htk
            have hT1 : Pl.taken N (P.take (j + 1)) = T := by rw [HST.out]; unfold Pl.step; rw [if_neg htk]
            have hp3 := hR.past
            unfold Pl.step at hp3
            rw [if_neg htk] at hp3
            have hno := now_past hp3
            rw [← HNE.out] at hno
            have HNO3 := Lib.hid hno
            have HI3 := Lib.hid (show GrS W w1.heap.size p fr N T (.int .i64 (N + Pl.total T)) (.slice Aa T.length ca) (.slice Al (T.length + 1) cl) w3 from
              ⟨rfl, ⟨_, _, rfl⟩, ⟨_, _, rfl⟩, HII.out.tn hR.tn hp3⟩)
            have HT1 := Lib.hid hT1
            clear hT1 hp3 hno hR htk HPU a0 a1 a2 a3
            rcases hE with rfl | rfl
            · go_wp2_with fail
              refine HNO3.out.mono ?_
              rintro e w4 ⟨rfl, hw⟩
              rw [hw]
              clear hw
              go_wp2_with fail
              go_roundw
              case rel => exact ⟨j + 1, by go_num, HJ1.out, hlt2, by rw [HT1.out]; exact HI3.out⟩
              case measure => simp [intOf]; omega
            · go_wp2_with fail
              refine HNO3.out.mono ?_
              rintro e w4 ⟨rfl, hw⟩
              rw [hw]
              clear hw
              go_wp2_with fail
              go_roundw
              case rel => exact ⟨j + 1, by go_num, HJ1.out, hlt2, by rw [HT1.out]; exact HI3.out⟩
              case measure => simp [intOf]; omega
        · go_wp2_with fail
          go_meet
          exact ⟨j, hj2, by rw [← HTT.out]; exact ⟨rfl, ⟨_, _, rfl⟩, ⟨_, _, rfl⟩, HII.out⟩⟩
      · go_wp2_with fail
        go_meet
        exact ⟨j, hj2, by rw [← HTT.out]; exact ⟨rfl, ⟨_, _, rfl⟩, ⟨_, _, rfl⟩, HII.out⟩⟩
  case rest =>
    obtain ⟨j, hj, rfl, ⟨Aa, ca, rfl⟩, ⟨Al, cl, rfl⟩, hI⟩ := hcut
    have hL0 := Pl.Long0.taken HN4.out.2 (P.take j)
    obtain ⟨T, hT⟩ : ∃ T, T = Pl.taken N (P.take j) := ⟨_, rfl⟩
    have hTl : T.length ≤ 60 := by rw [hT]; have := taken_le N P j; omega
    rw [← hT] at hI hL0 ⊢
    obtain ⟨M, hM⟩ : ∃ M, M = T.length := ⟨_, rfl⟩
    have hMb : M ≤ 60 := by rw [hM]; exact hTl
    have HL0 := Lib.hid hL0
    have HPJ := Lib.hid (hI.past.more (G := fun b => b ≠ p) (fun b hb => hb.1) (fun e => e rfl))
    have HBJ := Lib.hid hI.bel
    have HRA := Lib.hid (show RowP wc Aa M ca T by
      obtain ⟨F, La, h1, _, h3⟩ := hI.all
      rw [hM, ← h3]
      have := h1.rowP
      rwa [h3] at this ⊢)
    have HRL := Lib.hid (show Rws encI wc wc.heap.size Al (M + 1) cl (Pl.lens N T) by rw [hM]; exact (OwnR.rws encI_len hI.lns).2)
    obtain ⟨gk, hgk⟩ : ∃ g, g = M - k0 := ⟨_, rfl⟩
    obtain ⟨fq, hfq⟩ : ∃ g, g = fr + gk := ⟨_, rfl⟩
    obtain ⟨mk, hmk⟩ : ∃ g, g = M - gk := ⟨_, rfl⟩
    obtain ⟨nw, hnw⟩ : ∃ v, v = fr + M := ⟨_, rfl⟩
    obtain ⟨ny, hny⟩ : ∃ v, v = nw + 1 := ⟨_, rfl⟩
    obtain ⟨Tq, hTq⟩ : ∃ X, X = T.drop gk := ⟨_, rfl⟩
    obtain ⟨Nq, hNq⟩ : ∃ X, X = N + Pl.total (T.take gk) := ⟨_, rfl⟩
    have hfr0 := HFR.out
    have HM := Lib.hid hM
    have HTQ := Lib.hid hTq
    have HGK := Lib.hid (show gk ≤ M by omega)
    have HFQ := Lib.hid hfq
    have HMK := Lib.hid (show gk + mk = M by omega)
    have HTL := Lib.hid (show Tq.length = mk by rw [hTq, List.length_drop, ← hM, hmk])
    have HNW := Lib.hid (show nw = fr + M from hnw)
    have HNQ := Lib.hid (show fq + mk = nw by omega)
    have HNY := Lib.hid (show fr + T.length < ny ∧ ny ≤ 18446744073709551615 by omega)
    obtain ⟨dz, hdz⟩ : ∃ z : Int, z = (M : Int) - (k0 : Int) := ⟨_, rfl⟩
    have hm1 : max (0 : Int) dz = (gk : Int) := by omega
    have hm3 : (if (0 : Int) < dz then dz else 0) = (gk : Int) := by split <;> omega
    have HK0 := Lib.hid (show k0 ≤ 1000000 by omega)
    have HMB := Lib.hid hMb
    have hu1 : IntKind.u64.wrap (gk : Int) = (gk : Int) := wrap_u64 (by omega) (by omega)
    have hu2 : IntKind.u64.wrap ((fr : Int) + (gk : Int)) = (fq : Int) := by rw [wrap_u64 (by omega) (by omega)]; omega
    have hu3 : wrap64 ((M : Int) - (gk : Int)) = (mk : Int) := by unfold wrap64; omega
    have hu4 : IntKind.u64.wrap ((nw : Int) + 1) = (ny : Int) := by rw [wrap_u64 (by omega) (by omega)]; omega
    have hd1 : wrap64 ((M : Int) - (k0 : Int)) = dz := by
      have e : wrap64 ((M : Int) - (k0 : Int)) = (M : Int) - (k0 : Int) := by clear hm1 hm3 hu1 hu2 hu3 hu4; unfold wrap64; omega
      rw [e, hdz]
    have hk0 : wrap64 (k0 : Int) = (k0 : Int) := by clear hm1 hm3 hu1 hu2 hu3 hu4 hd1; unfold wrap64; omega
    have HGE := Lib.hid hgk
    have HNE := Lib.hid hNq
    rw [← hM] at ⊢
    clear hL0 hT hTl hI hgk hmk hnw hny hTq hfr0 hM hfq hNq hdz hMb yk
    go_wp2_with fail
    refine (copy_any HPJ.out).mono ?_
    rintro e w2 ⟨q, rfl, hq, hpq, hb2⟩
    have HQ2 := Lib.hid (hpq.more (G := fun b => b ≠ q) (fun b hb => hb.2) (fun e => e rfl))
    have HB2 := Lib.hid (below_then HBJ.out hb2)
    have HQG := Lib.hid hq
    have HPO := Lib.hid (HPJ.out.old.then_ hb2)
    have HB20 := Lib.hid hb2
    have hdr := drop_any HQ2.out (past_new HQ2.out) k0 HK0.out
    rw [← HM.out, ← HGE.out] at hdr
    have HDR := Lib.hid hdr
    clear hq hpq hb2 hdr
    go_wp2_with fail
    refine HDR.out.mono ?_
    rintro e w3 ⟨rfl, hpq3, ht3⟩
    rw [← HFQ.out, ← HNE.out, ← HTQ.out] at hpq3
    have HQ3 := Lib.hid hpq3
    have HBQ := Lib.hid (show Below wc.heap.size wc w3 from ht3.below HB20.out HB20.out.size (fun b hb => by rw [hb]; exact HQG.out))
    have HP3 := Lib.hid ((HPO.out.tn ht3 (fun b hb e => by have := hb.2; have := HQG.out; omega) (fun e => by have := HPJ.out.lt; have := HQG.out; omega)).more (G := fun b => b ≠ p) (fun b hb => hb.1) (fun e => e rfl))
    have HB3 := Lib.hid (below_then HBJ.out HBQ.out)
    have HRA3 := Lib.hid (HRA.out.then_ HBQ.out)
    have HRL3 := Lib.hid (Rws.then_ HRL.out HBQ.out)
    have hqf := from_past HQ3.out
    have hqn := now_past HQ3.out
    have hpn := now_past HP3.out
    have hql := len_past HQ3.out
    rw [HTL.out] at hqn hql
    rw [HNQ.out] at hqn
    rw [← HM.out, ← HNW.out] at hpn
    have HQF := Lib.hid hqf
    have HQN := Lib.hid hqn
    have HPN := Lib.hid hpn
    have HQL := Lib.hid hql
    clear hpq3 ht3 hqf hqn hpn hql HDR
    go_wp2_with fail
    refine HQF.out.mono ?_
    rintro e w4 ⟨rfl, hw⟩
    rw [hw]
    clear hw
    go_wp2_with fail
    refine HQN.out.mono ?_
    rintro e w4 ⟨rfl, hw⟩
    rw [hw]
    clear hw
    go_wp2_with fail
    refine HPN.out.mono ?_
    rintro e w4 ⟨rfl, hw⟩
    rw [hw]
    clear hw
    go_wp2_with fail
    refine HQL.out.mono ?_
    rintro e w4 ⟨rfl, hw⟩
    rw [hw]
    clear hw HQF HQN HQL
    go_wp2_with fail
    clear hm1 hm3 hd1 hk0 hu1 hu2 hu3
    go_loopw [20] (fun i wr => Gr2 W p q fr fq N Nq T Tq Aa M ca Al cl i wr) (fun i _ => M + 1 - (intOf i).toNat)
    case atStart => exact ⟨0, rfl, Nat.zero_le _, HP3.out, HQ3.out, HRA3.out, HRL3.out, HB3.out⟩
    case round =>
      obtain ⟨t, rfl, ht, hpt, hqt, hat, hlt0, hbt⟩ := hrel
      have HPT := Lib.hid hpt
      have HQT := Lib.hid hqt
      have HAT := Lib.hid hat
      have HLT := Lib.hid hlt0
      have HBT := Lib.hid hbt
      have hMb := HMB.out
      clear hpt hqt hat hlt0 hbt
      by_cases hlt : t ≤ M
      · obtain ⟨vt, hvt⟩ : ∃ v, v = fr + t := ⟨_, rfl⟩
        obtain ⟨K, hK⟩ : ∃ K, K = T.drop t := ⟨_, rfl⟩
        obtain ⟨lx, hlx⟩ : ∃ l, l = K.length := ⟨_, rfl⟩
        obtain ⟨kt, hkt⟩ : ∃ k, k = N + Pl.total (T.take t) := ⟨_, rfl⟩
        have htT : t ≤ T.length := by rw [← HM.out]; exact hlt
        have hk0 := HL0.out t htT
        rw [← hkt] at hk0
        have hsp := since_ok HPT.out t vt hvt htT
        rw [← hK, ← hlx] at hsp
        have HSP := Lib.hid hsp
        have HLP := Lib.hid (show ∀ w', Below wr.heap.size wr w' → Calls Try.prog 17 #[.pointer (some ⟨p, 0, none⟩), .int .u64 (vt : Int)] w' fun e w'' => e = .returned (.tuple #[.int .i64 kt, .int .i64 0]) ∧ Below w'.heap.size w' w'' from fun w' hb' => by
          have := length_ok (HPT.out.then_ hb') t vt hvt htT
          rwa [← hkt] at this)
        have hvq1 : t < gk → Pl.place fq Tq.length 0 vt = (0, 32) := fun h => by
          have e1 := HFQ.out
          have e2 := HTL.out
          have e3 := HMK.out
          have e4 := HGK.out
          exact Pl.place_gone (by omega) (by omega)
        have hvq2 : ¬ t < gk → vt = fq + (t - gk) ∧ t - gk ≤ Tq.length := fun h => by
          have e1 := HFQ.out
          have e2 := HTL.out
          have e3 := HMK.out
          have e4 := HGK.out
          omega
        have hdrop : ¬ t < gk → Tq.drop (t - gk) = K := fun h => by
          rw [HTQ.out, hK, List.drop_drop]
          congr 1
          omega
        have hfr0 := HFR.out
        have HVQ1 := Lib.hid hvq1
        have HVQ2 := Lib.hid hvq2
        have HDP := Lib.hid hdrop
        have HK := Lib.hid hK
        have HLX := Lib.hid hlx
        have HLXB := Lib.hid (show lx ≤ 1000000 by rw [hlx, hK, List.length_drop, ← HM.out]; omega)
        have HKT := Lib.hid hkt
        have HT1 := Lib.hid (show t + 1 ≤ M + 1 by omega)
        have HVB := Lib.hid (show vt ≤ 18446744073709551615 by omega)
        have zk : decide (kt < 0) = false := decide_eq_false (by omega)
        have v0 : IntKind.u64.wrap (t : Int) = (t : Int) := wrap_u64 (Int.natCast_nonneg _) (by omega)
        have v1 : IntKind.u64.wrap ((fr : Int) + (t : Int)) = (vt : Int) := by rw [wrap_u64 (by omega) (by omega)]; omega
        clear hvt hK hlx hkt htT hk0 hsp hvq1 hvq2 hdrop hfr0
        go_wp2_with fail
        refine HSP.out.mono ?_
        rintro e w4 ⟨A4, c4, rfl, ho4, hb4⟩
        have HB4 := Lib.hid hb4
        have HX4 := Lib.hid (RowO.rowP ho4)
        clear ho4 hb4 HSP
        go_wp2_with fail
        refine (HLP.out w4 HB4.out).mono ?_
        rintro e w5 ⟨rfl, hb5⟩
        have HB5 := Lib.hid (below_then HB4.out hb5)
        have HB45 := Lib.hid hb5
        clear hb5 HLP v0 v1
        by_cases hgt : t < gk
        · have hsq := since_bad (HQT.out.then_ HB5.out) vt HVB.out 32 (HVQ1.out hgt) (by decide)
          have HSQ := Lib.hid hsq
          have zt1 : decide (t < gk) = true := decide_eq_true hgt
          have zt2 : decide (gk ≤ t) = false := decide_eq_false (by omega)
          clear hsq
          go_wp2_with fail
          refine HSQ.out.mono ?_
          rintro e w7 ⟨rfl, hb7⟩
          have HB7 := Lib.hid (below_then HB5.out hb7)
          have HB47 := Lib.hid (below_then HB45.out hb7)
          clear hb7 HSQ
          have HAT7 := Lib.hid (HAT.out.then_ HB7.out)
          have HLT7 := Lib.hid (Rws.then_ HLT.out HB7.out)
          obtain ⟨g, o, rfl, _, hc⟩ := Rws.int_at HLT7.out (show t < M + 1 by omega)
          have a0 := hc t (by omega)
          rw [Pl.lens_at N T (by have := HM.out; omega), ← HKT.out] at a0
          have sO := slice_fromO Aa M ca t hlt
          have hrx := RowP.from_ HAT7.out hlt
          obtain ⟨A6, hA6⟩ : ∃ A, A = (if ca = t then Aa else Aa.map (·.add (t * 4))) := ⟨_, rfl⟩
          obtain ⟨n6, hn6⟩ : ∃ n, n = M - t := ⟨_, rfl⟩
          obtain ⟨c6, hc6⟩ : ∃ n, n = ca - t := ⟨_, rfl⟩
          rw [← hA6, ← hn6, ← hc6] at sO hrx
          rw [← HK.out] at hrx
          have hsm := same10_any A4 A6 lx c4 n6 c6 K K w7 (HX4.out.then_ HB47.out) hrx HLXB.out
          rw [decide_eq_true rfl] at hsm
          have HSM := Lib.hid hsm
          have zi0 : (0 : Int) ≤ (t : Int) := Int.natCast_nonneg _
          have zi1 : (t : Int) < ((M + 1 : Nat) : Int) := by omega
          have zi2 : (t : Int) < (M : Int) + 1 := by omega
          clear hrx hA6 hn6 hc6 hc hsm
          go_wp2_with fail
          refine HSM.out.mono ?_
          rintro e w8 ⟨rfl, hb8⟩
          clear a0 sO HSM zi0 zi1 zi2
          have HB8 := Lib.hid (below_then HB7.out hb8)
          clear hb8
          go_wp2_with fail
          go_roundw
          case rel => exact ⟨t + 1, by go_num, HT1.out, HPT.out.then_ HB8.out, HQT.out.then_ HB8.out, HAT.out.then_ HB8.out, Rws.then_ HLT.out HB8.out, below_then HBT.out HB8.out⟩
          case measure => simp [intOf]; omega
        · have hsq := since_ok (HQT.out.then_ HB5.out) (t - gk) vt (HVQ2.out hgt).1 (HVQ2.out hgt).2
          rw [HDP.out hgt, ← HLX.out] at hsq
          have HSQ := Lib.hid hsq
          have zt1 : decide (t < gk) = false := decide_eq_false hgt
          have zt2 : decide (gk ≤ t) = true := decide_eq_true (by omega)
          clear hsq
          go_wp2_with fail
          refine HSQ.out.mono ?_
          rintro e w7 ⟨A7, c7, rfl, ho7, hb7⟩
          have HX7 := Lib.hid (RowO.rowP ho7)
          have HB7 := Lib.hid (below_then HB5.out hb7)
          have HB47 := Lib.hid (below_then HB45.out hb7)
          clear hb7 ho7 HSQ
          have HAT7 := Lib.hid (HAT.out.then_ HB7.out)
          have HLT7 := Lib.hid (Rws.then_ HLT.out HB7.out)
          obtain ⟨g, o, rfl, _, hc⟩ := Rws.int_at HLT7.out (show t < M + 1 by omega)
          have a0 := hc t (by omega)
          rw [Pl.lens_at N T (by have := HM.out; omega), ← HKT.out] at a0
          have sO := slice_fromO Aa M ca t hlt
          have hrx := RowP.from_ HAT7.out hlt
          obtain ⟨A6, hA6⟩ : ∃ A, A = (if ca = t then Aa else Aa.map (·.add (t * 4))) := ⟨_, rfl⟩
          obtain ⟨n6, hn6⟩ : ∃ n, n = M - t := ⟨_, rfl⟩
          obtain ⟨c6, hc6⟩ : ∃ n, n = ca - t := ⟨_, rfl⟩
          rw [← hA6, ← hn6, ← hc6] at sO hrx
          rw [← HK.out] at hrx
          have hsm := same10_any A4 A6 lx c4 n6 c6 K K w7 (HX4.out.then_ HB47.out) hrx HLXB.out
          rw [decide_eq_true rfl] at hsm
          have HSM := Lib.hid hsm
          have zi0 : (0 : Int) ≤ (t : Int) := Int.natCast_nonneg _
          have zi1 : (t : Int) < ((M + 1 : Nat) : Int) := by omega
          have zi2 : (t : Int) < (M : Int) + 1 := by omega
          clear hrx hA6 hn6 hc6 hc hsm
          go_wp2_with fail
          refine HSM.out.mono ?_
          rintro e w8 ⟨rfl, hb8⟩
          clear a0 sO HSM zi0 zi1 zi2
          have HB8 := Lib.hid (below_then HB7.out hb8)
          have hs2 := same10_any A7 A4 lx c7 lx c4 K K w8 (HX7.out.then_ hb8) (HX4.out.then_ (below_then HB47.out hb8)) HLXB.out
          rw [decide_eq_true rfl] at hs2
          have HS2 := Lib.hid hs2
          clear hb8 hs2
          go_wp2_with fail
          refine HS2.out.mono ?_
          rintro e w9 ⟨rfl, hb9⟩
          have HB9 := Lib.hid (below_then HB8.out hb9)
          clear hb9 HS2
          go_wp2_with fail
          go_roundw
          case rel => exact ⟨t + 1, by go_num, HT1.out, HPT.out.then_ HB9.out, HQT.out.then_ HB9.out, HAT.out.then_ HB9.out, Rws.then_ HLT.out HB9.out, below_then HBT.out HB9.out⟩
          case measure => simp [intOf]; omega
      · have hno := now_past HPT.out
        rw [← HM.out, ← HNW.out] at hno
        have hsb := since_bad HPT.out ny HNY.out.2 31 (Pl.place_above HNY.out.1) (by decide)
        have HNO := Lib.hid hno
        have HSB := Lib.hid hsb
        clear hno hsb
        go_wp2_with fail
        refine HNO.out.mono ?_
        rintro e wa ⟨rfl, hw⟩
        rw [hw]
        clear hw
        go_wp2_with fail
        refine HSB.out.mono ?_
        rintro e wb ⟨rfl, hbb⟩
        have HBB := Lib.hid (below_then HBT.out hbb)
        clear hbb
        go_wp2_with fail
        refine (wakes_any _).mono ?_
        rintro e wz ⟨rfl, hbz⟩
        have HBZ := Lib.hid (below_then HBB.out hbz)
        clear hbz
        go_wp2_with fail
        go_ret
        exact ⟨rfl, HBZ.out⟩
end Go.Proofs.Ytkgehgedbgogbaa
