/-
  PastParts' walk: operations in parts. Conditions: each operation's units are of at most 2^47 bytes.
-/
import Derived.Test.YtkgehgedbgogbaaPbD
import Derived.Deep.CutBlock
import Derived.Deep.DeepCutAuto
namespace Go.Proofs.Ytkgehgedbgogbaa
open Go.RowKit
open Pl (Un)
theorem slice_fromOu (A : Option Addr) (n c k : Nat) (hk : k ≤ n) : ∀ w', (Instr.sliceAt 24 (.slice A n c) (some (.int .u64 (k : Int))) none none).run Try.prog w' = .ok (.slice (if c = k then A else A.map (·.add (k * 4))) (n - k) (c - k)) w' := by
  intro w'
  obtain ⟨i0, hi, _⟩ := info_parts infoO
  have hu : Try.prog.underlying 24 = some (.slice (Try.prog.elem 24)) := by kernel_rfl
  have he : Try.prog.elem 24 = 38 := by kernel_rfl
  rw [run_sliceAt_slice w' _ _ _ _ _ hu, run_slice_l w' 24 A n c hu .u64 (k : Int) (by omega) (by omega), he, run_sizeOf w' hi]
  simp only [Result.andThen, sliced, Int.toNat_natCast, cellsO]
theorem RowP.from_ {w : World} {A : Option Addr} {n c i : Nat} {P : List Pl.Op} (h : RowP w A n c P) (hi : i ≤ n) : RowP w (if c = i then A else A.map (·.add (i * 4))) (n - i) (c - i) (P.drop i) := by
  obtain ⟨L, h1, h2⟩ := h
  exact ⟨L.drop i, ⟨Rws.from_ encO_len h1.1 hi, fun _ _ _ => trivial, fun o ho => h1.2.2 o (List.mem_of_mem_drop ho)⟩, by rw [List.map_drop, h2]⟩
/-- between one operation and the next of the second loop -/
def PaR (W : World) (p : Nat) (T X : List Pl.Op) (A : Option Addr) (lx cx ia : Nat) (s i : Value) (wr : World) : Prop := ∃ q : Nat, i = .int .i64 (q : Int) ∧ s = .int .i64 (1000 + Pl.total (T.take (ia + q))) ∧ q ≤ lx ∧ PastAt wr p (fun b => b ≠ p) 5 1000 T ∧ RowP wr A lx cx X ∧ Below W.heap.size W wr
set_option maxRecDepth 100000 in
set_option maxHeartbeats 2000000 in
theorem pastParts.walk (W : World) (A0 : Option Addr) (n0 c0 : Nat) (L : List OpV) (h : OpsF W (fun b => b < W.heap.size) A0 n0 c0 L) (hs : ∀ o ∈ L, (∀ u ∈ o.l, Pl.UnB u) ∧ o.c * 40 ≤ reachBytes ∧ Pl.IdB o.x o.y) (a8 : Nat) (ya : a8 < 256) (b8 : Nat) (yb : b8 < 256) :
    Calls Try.prog 5 #[.slice A0 n0 c0, .int .u8 (a8 : Int), .int .u8 (b8 : Int)] W fun e w' => e = .returned (.bool true) ∧ Below W.heap.size W w' := by
  obtain ⟨hrow, hsml⟩ := open_row h hs
  obtain ⟨P, hP⟩ : ∃ P, P = L.map OpV.op := ⟨_, rfl⟩
  rw [← hP] at hrow hsml
  have hcap := h.1.cap
  have hle := h.1.le
  unfold maxLen at hcap
  have HROW := Lib.hid hrow
  have HSML := Lib.hid hsml
  have HPL := Lib.hid hrow.len
  clear h hs hP hrow hsml
  go_enter Try.func5, Try.ntmps5
  go_wp2_with fail
  refine (show Calls Try.prog 7 #[.int .u64 5, .int .i64 1000] W _ from new_any 5 1000 W (by decide) (by decide)).mono ?_
  rintro e w1 ⟨rfl, hp1, hb1⟩
  obtain ⟨p, hp⟩ : ∃ p, p = W.heap.size + 1 := ⟨_, rfl⟩
  rw [← hp] at hp1 ⊢
  have HLE := Lib.hid (show W.heap.size ≤ p by omega)
  have HP1 := Lib.hid hp1
  have HB1 := Lib.hid hb1
  clear hp hp1 hb1
  go_upto_block 0 with fail
  go_cut [9] (fun _ wx => ∃ j : Nat, j ≤ 50 ∧ PastAt wx p (fun b => b ≠ p) 5 1000 (Pl.taken 1000 (P.take j)) ∧ Below W.heap.size W wx)
  case first =>
    go_wp2_with fail
    go_loopw [9] (fun i wr => PushL W p 5 1000 P 50 i wr) (fun i _ => 50 - (intOf i).toNat)
    case atStart => exact ⟨0, rfl, Nat.zero_le _, Nat.zero_le _, by rw [List.take_zero]; exact HP1.out, HB1.out⟩
    case round =>
      obtain ⟨j, rfl, hj, hj2, hpj, hbj⟩ := hrel
      have HPJ := Lib.hid hpj
      have HBJ := Lib.hid hbj
      rw [HPL.out] at hj
      clear hpj hbj
      by_cases hlt : j < n0
      · by_cases hlt2 : j < 50
        · obtain ⟨g, o, A2, n2, c2, rfl, hcl, hun⟩ := (HROW.out.then_ HBJ.out).at_ hlt
          obtain ⟨a0, a1, a2, a3⟩ := hcl wr (Below.refl _ _)
          have hjP : j < P.length := by rw [HPL.out]; exact hlt
          have hstep := Pl.taken_take 1000 P hjP
          have hsm := HSML.out (P.getD j default) (by rw [List.getD_eq_getElem?_getD, List.getElem?_eq_getElem hjP]; exact List.getElem_mem _)
          obtain ⟨⟨x, y, l, b⟩, hq⟩ : ∃ q, q = P.getD j default := ⟨_, rfl⟩
          rw [← hq] at a0 a1 a3 hun hstep hsm
          simp only at a0 a1 a3 hun hsm
          have htl := taken_le 1000 P j
          have HPU := Lib.hid (push_any HPJ.out x y A2 n2 c2 l b hun hsm (by decide) (by omega) (by omega))
          have z0 : (0 : Int) ≤ (j : Int) := Int.natCast_nonneg _
          have z1 : (j : Int) < (n0 : Int) := Int.ofNat_lt.2 hlt
          have HST := Lib.hid hstep
          have HJ1 := Lib.hid (show j + 1 ≤ P.length from hjP)
          clear hcl hun hjP hstep hsm hq htl
          go_wp2_with fail
          refine HPU.out.mono ?_
          rintro e w2 ⟨r, E, rfl, hpu⟩
          have HP2 := Lib.hid (show PastAt w2 p (fun b => b ≠ p) 5 1000 (Pl.taken 1000 (P.take (j + 1))) by rw [HST.out]; exact hpu.past)
          have HB2 := Lib.hid (tn_past HLE.out HBJ.out hpu.tn)
          clear hpu a0 a1 a2 a3
          go_wp2_with fail
          go_roundw
          case rel => exact ⟨j + 1, by go_num, HJ1.out, hlt2, HP2.out, HB2.out⟩
          case measure => simp [intOf]; omega
        · go_wp2_with fail
          go_meet
          exact ⟨j, hj2, HPJ.out, HBJ.out⟩
      · go_wp2_with fail
        go_meet
        exact ⟨j, hj2, HPJ.out, HBJ.out⟩
  case rest =>
    obtain ⟨j, hj, hpj, hbj⟩ := hcut
    obtain ⟨T, hT⟩ : ∃ T, T = Pl.taken 1000 (P.take j) := ⟨_, rfl⟩
    have hTl : T.length ≤ 50 := by rw [hT]; have := taken_le 1000 P j; omega
    rw [← hT] at hpj
    obtain ⟨M, hM⟩ : ∃ M, M = T.length := ⟨_, rfl⟩
    have hMb : M ≤ 50 := by rw [hM]; exact hTl
    obtain ⟨ia, hia⟩ : ∃ i, i = a8 % (M + 1) := ⟨_, rfl⟩
    obtain ⟨ir, hir⟩ : ∃ i, i = b8 % (M + 1) := ⟨_, rfl⟩
    have hiaM : ia ≤ M := by have := Nat.mod_lt a8 (show 0 < M + 1 by omega); omega
    have hirM : ir ≤ M := by have := Nat.mod_lt b8 (show 0 < M + 1 by omega); omega
    have r1 : (a8 : Int).tmod ((M : Int) + 1) = (ia : Int) := by have := tmod_nat a8 (M + 1); rw [← hia] at this; exact this
    have r1b : (a8 : Int) % ((M : Int) + 1) = (ia : Int) := by rw [hia]; exact (Int.natCast_emod a8 (M + 1)).symm
    have r2 : (b8 : Int).tmod ((M : Int) + 1) = (ir : Int) := by have := tmod_nat b8 (M + 1); rw [← hir] at this; exact this
    have r2b : (b8 : Int) % ((M : Int) + 1) = (ir : Int) := by rw [hir]; exact (Int.natCast_emod b8 (M + 1)).symm
    obtain ⟨va, hva⟩ : ∃ v, v = 5 + ia := ⟨_, rfl⟩
    obtain ⟨v0, hv0⟩ : ∃ v, v = va + ir := ⟨_, rfl⟩
    obtain ⟨nw, hnw⟩ : ∃ v, v = 5 + M := ⟨_, rfl⟩
    obtain ⟨vb, hvb⟩ : ∃ v, v = min v0 nw := ⟨_, rfl⟩
    have HPJ := Lib.hid hpj
    have HBJ := Lib.hid hbj
    have HLN := Lib.hid (len_past hpj)
    have HNW := Lib.hid (now_past hpj)
    rw [← hM] at HLN HNW
    rw [← hnw] at HNW
    obtain ⟨ib, hib⟩ : ∃ i, i = vb - 5 := ⟨_, rfl⟩
    have HVA := Lib.hid (show va = 5 + ia from hva)
    have HVB := Lib.hid (show vb = 5 + ib by omega)
    have HIA := Lib.hid (show ia ≤ ib ∧ ib ≤ T.length by omega)
    have HL0 := Lib.hid (show Pl.Long0 1000 T by rw [hT]; exact Pl.Long0.taken (by decide) _)
    obtain ⟨X, hX⟩ : ∃ X, X = T.drop ia := ⟨_, rfl⟩
    obtain ⟨Y, hY⟩ : ∃ Y, Y = T.drop ib := ⟨_, rfl⟩
    obtain ⟨lx, hlx⟩ : ∃ l, l = X.length := ⟨_, rfl⟩
    obtain ⟨ly, hly⟩ : ∃ l, l = Y.length := ⟨_, rfl⟩
    obtain ⟨dk, hdk⟩ : ∃ k, k = ib - ia := ⟨_, rfl⟩
    have hlx2 : lx = M - ia := by rw [hlx, hX, List.length_drop, hM]
    have hly2 : ly = M - ib := by rw [hly, hY, List.length_drop, hM]
    have hiab : ia ≤ ib ∧ ib ≤ M := by omega
    have HMX := Lib.hid (show (nw < v0 → vb = nw) ∧ (¬ nw < v0 → vb = v0) by omega)
    have HX := Lib.hid hX
    have HY := Lib.hid hY
    have HLX := Lib.hid hlx
    have HLY := Lib.hid hly
    have HDL := Lib.hid (show dk ≤ lx by omega)
    have HLB := Lib.hid (show lx ≤ 50 by omega)
    have HXA := Lib.hid (show lx + ia = T.length by omega)
    have HXY := Lib.hid (show X.drop dk = Y by rw [hX, hY, List.drop_drop]; congr 1; omega)
    have hc1 : IntKind.u64.wrap (ia : Int) = (ia : Int) := wrap_u64 (by omega) (by omega)
    have hc2 : IntKind.u64.wrap (ir : Int) = (ir : Int) := wrap_u64 (by omega) (by omega)
    have hc3 : IntKind.u64.wrap (5 + (ia : Int)) = (va : Int) := by rw [wrap_u64 (by omega) (by omega)]; omega
    have hc4 : IntKind.u64.wrap ((va : Int) + (ir : Int)) = (v0 : Int) := by rw [wrap_u64 (by omega) (by omega)]; omega
    have q1 : wrap64 ((lx : Int) - (ly : Int)) = (dk : Int) := by unfold wrap64; omega
    have q2 : IntKind.u64.wrap ((vb : Int) - (va : Int)) = (dk : Int) := by rw [wrap_u64 (by omega) (by omega)]; omega
    have q3 : wrap64 (dk : Int) = (dk : Int) := by unfold wrap64; omega
    clear hlx2 hly2 hiab hX hY hlx hly hdk
    clear hpj hbj hj hT hTl hia hir
    go_wp2_with fail
    refine HLN.out.mono ?_
    rintro e w2 ⟨rfl, hw⟩
    rw [hw]
    clear hw
    by_cases hgt : nw < v0
    · have HBE := Lib.hid (show vb = nw by omega)
      have z1 : decide (nw < v0) = true := decide_eq_true hgt
      clear hvb hnw hv0 hva hib hiaM hirM hgt hM
      go_wp2_with fail
      refine HNW.out.mono ?_
      rintro e w3 ⟨rfl, hw⟩
      rw [hw]
      clear hw
      go_wp2_with fail
      refine HNW.out.mono ?_
      rintro e w3 ⟨rfl, hw⟩
      rw [hw, ← HBE.out]
      clear hw HBE z1 HNW HLN
      have hsa := since_ok HPJ.out ia va HVA.out (Nat.le_trans HIA.out.1 HIA.out.2)
      rw [← HX.out, ← HLX.out] at hsa
      have HSA := Lib.hid hsa
      clear hsa
      go_wp2_with fail
      refine HSA.out.mono ?_
      rintro e w4 ⟨A4, c4, rfl, ho4, hb4⟩
      have HP4 := Lib.hid (HPJ.out.then_ hb4)
      have HB4 := Lib.hid (below_then HBJ.out hb4)
      have HX4 := Lib.hid (RowO.rowP ho4)
      have hsb := since_ok HP4.out ib vb HVB.out HIA.out.2
      rw [← HY.out, ← HLY.out] at hsb
      have HSB := Lib.hid hsb
      clear hsb ho4 hb4 HSA
      go_wp2_with fail
      refine HSB.out.mono ?_
      rintro e w5 ⟨A5, c5, rfl, ho5, hb5⟩
      have HP5 := Lib.hid (HP4.out.then_ hb5)
      have HB5 := Lib.hid (below_then HB4.out hb5)
      have HX5 := Lib.hid (HX4.out.then_ hb5)
      have sx := slice_fromOu A4 lx c4 dk HDL.out
      have hrx := RowP.from_ HX5.out HDL.out
      obtain ⟨A6, hA6⟩ : ∃ A, A = (if c4 = dk then A4 else A4.map (·.add (dk * 4))) := ⟨_, rfl⟩
      obtain ⟨n6, hn6⟩ : ∃ n, n = lx - dk := ⟨_, rfl⟩
      obtain ⟨c6, hc6⟩ : ∃ n, n = c4 - dk := ⟨_, rfl⟩
      rw [← hA6, ← hn6, ← hc6] at sx hrx
      have hn6b : n6 ≤ 1000000 := by rw [hn6]; exact Nat.le_trans (Nat.sub_le _ _) (Nat.le_trans HLB.out (by decide))
      have hsm := same10_any A6 A5 n6 c6 ly c5 (X.drop dk) Y w5 hrx (RowO.rowP ho5) hn6b
      rw [decide_eq_true HXY.out] at hsm
      have HSM := Lib.hid hsm
      clear hsm hrx hA6 hn6 hn6b hc6 ho5 hb5 HSB HP4 HX4
      go_wp2_with fail
      refine HSM.out.mono ?_
      rintro e w6 ⟨rfl, hb6⟩
      have HP6 := Lib.hid (HP5.out.then_ hb6)
      have HB6 := Lib.hid (below_then HB5.out hb6)
      have HX6 := Lib.hid (HX5.out.then_ hb6)
      have HLG := Lib.hid (length_ok HP6.out ia va HVA.out (Nat.le_trans HIA.out.1 HIA.out.2))
      clear hb6 HSM HP5 HX5 sx q1 q2 q3 hc1 hc2 hc3 hc4 r1 r1b r2 r2b
      go_wp2_with fail
      refine HLG.out.mono ?_
      rintro e w7 ⟨rfl, hb7⟩
      have HP7 := Lib.hid (HP6.out.then_ hb7)
      have HB7 := Lib.hid (below_then HB6.out hb7)
      have HX7 := Lib.hid (HX6.out.then_ hb7)
      clear hb7 HLG HP6 HX6
      go_wp2_with fail
      go_loopw [17, 19] (fun s i wr => PaR W p T X A4 lx c4 ia s i wr) (fun _ i _ => lx - (intOf i).toNat)
      case atStart => exact ⟨0, rfl, by rw [Nat.add_zero], Nat.zero_le _, HP7.out, HX7.out, HB7.out⟩
      case round =>
        obtain ⟨q, rfl, rfl, hq, hpq, hxq, hbq⟩ := hrel
        have HPQ := Lib.hid hpq
        have HXQ := Lib.hid hxq
        have HBQ := Lib.hid hbq
        clear hpq hxq hbq
        by_cases hlt : q < lx
        · obtain ⟨g, o, A2, n2, c2, rfl, hcl, hun⟩ := HXQ.out.at_ hlt
          have hiq : ia + q < T.length := by have := HXA.out; omega
          have hop : X.getD q default = T.getD (ia + q) default := by
            rw [HX.out, List.getD_eq_getElem?_getD, List.getD_eq_getElem?_getD, List.getElem?_drop]
          have hsm := HPQ.out.fine.small (T.getD (ia + q) default) (by rw [List.getD_eq_getElem?_getD, List.getElem?_eq_getElem hiq]; exact List.getElem_mem _)
          have htt := Pl.total_take hiq
          have hlo1 := HL0.out (ia + q) (Nat.le_of_lt hiq)
          have hlo2 := HL0.out (ia + q + 1) hiq
          have hhi1 := Pl.total_le (HPQ.out.fine.small.take (ia + q))
          have hhi2 := Pl.total_le (HPQ.out.fine.small.take (ia + q + 1))
          have htl := HPQ.out.fine.cnt
          rw [List.length_take] at hhi1 hhi2
          obtain ⟨⟨x, y, l, b⟩, hqo⟩ : ∃ o, o = X.getD q default := ⟨_, rfl⟩
          rw [← hop, ← hqo] at hsm htt
          rw [← hqo] at hcl hun
          simp only at hcl hun hsm htt
          obtain ⟨gl, hgl⟩ : ∃ z, z = Pl.growsL l := ⟨_, rfl⟩
          obtain ⟨s0, hs0⟩ : ∃ z, z = 1000 + Pl.total (T.take (ia + q)) := ⟨_, rfl⟩
          obtain ⟨s1, hs1⟩ : ∃ z, z = 1000 + Pl.total (T.take (ia + q + 1)) := ⟨_, rfl⟩
          have hsum : wrap64 (s0 + gl) = s1 := by
            have e : s0 + gl = s1 := by rw [hs0, hs1, hgl, htt]; omega
            rw [e]
            unfold wrap64
            omega
          have hge : n2 ≤ 140737488355328 := by have := hun.len; omega
          rw [← hs0]
          obtain ⟨v1, hv1⟩ : ∃ v, v = va + q := ⟨_, rfl⟩
          obtain ⟨v2, hv2⟩ : ∃ v, v = v1 + 1 := ⟨_, rfl⟩
          have hv2e : v2 = 5 + (ia + q + 1) := by have := HVA.out; omega
          have hat := at_ok HPQ.out (ia + q + 1) v2 hv2e (Nat.succ_le_succ (Nat.zero_le _)) hiq x y l b (by rw [hqo]; exact hop)
          have HAT := Lib.hid hat
          have HLN2 := Lib.hid (show ∀ w', Below wr.heap.size wr w' → Calls Try.prog 17 #[.pointer (some ⟨p, 0, none⟩), .int .u64 (v2 : Int)] w' fun e w'' => e = .returned (.tuple #[.int .i64 s1, .int .i64 0]) ∧ Below w'.heap.size w' w'' from fun w' hb' => by
            have := length_ok (HPQ.out.then_ hb') (ia + q + 1) v2 hv2e hiq
            rw [← hs1] at this
            exact this)
          have HGR := Lib.hid (show ∀ w', Below wr.heap.size wr w' → Calls Try.prog 11 #[.slice A2 n2 c2] w' fun e w'' => e = .returned (.int .i64 gl) ∧ Below w'.heap.size w' w'' from fun w' hb' => by
            have := growsL_big A2 n2 c2 l w' (Rws.then_ hun hb') hge
            rw [← hgl] at this
            exact this)
          have HCC := Lib.hid hcl
          have HUN := Lib.hid hun
          have HS1 := Lib.hid (show s1 = 1000 + Pl.total (T.take (ia + (q + 1))) from hs1)
          have HMS := Lib.hid (show lx - (q + 1) < lx - q by omega)
          have HQ1 := Lib.hid (show q + 1 ≤ lx from hlt)
          have hq50 : q ≤ 50 := by have := HLB.out; omega
          have hva50 : va ≤ 300 := by have := HVA.out; have := HIA.out; omega
          have u0 : IntKind.u64.wrap (q : Int) = (q : Int) := wrap_u64 (Int.natCast_nonneg _) (by omega)
          have u1 : IntKind.u64.wrap ((va : Int) + (q : Int)) = (v1 : Int) := by rw [wrap_u64 (by omega) (by omega)]; omega
          have u2 : IntKind.u64.wrap ((v1 : Int) + 1) = (v2 : Int) := by rw [wrap_u64 (by omega) (by omega)]; omega
          have z0 : (0 : Int) ≤ (q : Int) := Int.natCast_nonneg _
          have z1 : (q : Int) < (lx : Int) := Int.ofNat_lt.2 hlt
          clear hq hiq hop hsm htt hlo1 hlo2 hhi1 hhi2 htl hqo hgl hs0 hs1 hge hv1 hv2 hv2e hat hcl hun hva50
          go_wp2_with fail
          refine HAT.out.mono ?_
          rintro e w8 ⟨A3, c3, rfl, hu3, hb8⟩
          obtain ⟨w9, hw9⟩ : ∃ w9, w9 = w8.alloc (.cells #[.int .u32 x, .int .u64 y, .slice A3 l.length c3, .bool b] 38) := ⟨_, rfl⟩
          have hb9 : Below w8.heap.size w8 w9 := by rw [hw9]; exact below_box _ _
          have HB9 := Lib.hid (below_then hb8 hb9)
          have HO9 := Lib.hid (show OAt w9 w8.heap.size x y A3 l.length c3 b by rw [hw9]; exact heap_new rfl)
          have HU9 := Lib.hid (Rws.then_ (OwnU.uns hu3) hb9)
          have HW9 := Lib.hid hw9
          clear hu3 hb8 hb9 hw9 HAT
          go_wp2_with fail
          rw [← HW9.out]
          refine (HLN2.out w9 HB9.out).mono ?_
          rintro e w10 ⟨rfl, hb10⟩
          have HB10 := Lib.hid (below_then HB9.out hb10)
          have HO10 := Lib.hid (HO9.out.then_ hb10)
          have HU10 := Lib.hid (Rws.then_ HU9.out hb10)
          have a2 := (HCC.out w10 HB10.out).2.2.1
          clear hb10 HLN2
          go_wp2_with fail
          refine (HGR.out w10 HB10.out).mono ?_
          rintro e w11 ⟨rfl, hb11⟩
          have HB11 := Lib.hid (below_then HB10.out hb11)
          have HO11 := Lib.hid (HO10.out.then_ hb11)
          have HU11 := Lib.hid (Rws.then_ HU10.out hb11)
          have HVR := Lib.hid (show ∀ w1, Below w11.heap.size w11 w1 → OAt w1 w8.heap.size x y A3 l.length c3 b from fun w1 hb => HO11.out.then_ hb)
          have HCL := Lib.hid (show ∀ w1, Below w11.heap.size w11 w1 → _ from fun w1 hb => HCC.out w1 (below_then HB11.out hb))
          have HON := Lib.hid (show ∀ w1, Below w11.heap.size w11 w1 → Calls Try.prog 21 #[.agg #[.int .u32 x, .int .u64 y, .slice A3 l.length c3, .bool b], .agg #[.int .u32 x, .int .u64 y, .slice A2 n2 c2, .bool b]] w1 fun e w' => e = .returned (.bool true) ∧ Below w1.heap.size w1 w' from fun w1 hb => by
            have := one10_any x y A3 l.length c3 l b x y A2 n2 c2 l b w1 (Rws.then_ HU11.out hb) (Rws.then_ HUN.out (below_then HB11.out hb))
            rwa [decide_eq_true rfl] at this)
          clear hb11 HGR a2
          go_wp2_with fail
          rw [hsum]
          clear hsum
          refine Rg.wp_region_inv (Below w11.heap.size w11) (Rg.Wd.at [.is (.int .i64 0), .is (.bool false), .is (.bool false), .is (.int .i64 0), .is (.bool false), .is (.bool false), .is (.bool false), .is (.agg #[.int .u32 x, .int .u64 y, .slice A3 l.length c3, .bool b]), .is (.slice (some ⟨g, o, none⟩) lx c4), .is (.int .i64 (q : Int)), .is (.pointer (some ⟨g, o + q * 4, none⟩)), .is (.agg #[.int .u32 x, .int .u64 y, .slice A2 n2 c2, .bool b]), .is (.bool true), .is (.bool false), .is (.bool false), .is (.bool false), .is (.int .i64 s1), .is (.int .i64 s1), .is (.bool false), .is (.bool false)]) (by kernel_rfl) (by kernel_rfl) (Rg.Wd.stays _ _) ((below_drawn (Below.refl _ _))) ⟨?_, ?_, ?_, ?_, ?_, ?_, ?_, ?_, ?_, ?_, ?_, ?_, ?_, ?_, ?_, ?_, ?_, ?_, ?_, ?_, trivial⟩ ?_
          · intro a w1 hS hb hd
            have e21 := hb 21 (Rg.nw (by decide))
            simp [Act.eval] at e21
            exact Rg.does_pure (Rg.wanted_none rfl) (by simp [execOp, e21, go_sem]) hS rfl
          · intro a w1 hS hb hd
            have e149 := hd ⟨0, .data⟩ (by simp) rfl _ _ rfl rfl
            have e149 : a.tmps[149]?.getD undef = (.int .i64 0) := Rg.slot e149
            exact Rg.does_pure (Rg.wanted_none rfl) (by simp [execOp, e149, go_sem]) hS rfl
          · intro a w1 hS hb hd
            have e150 := hd ⟨1, .data⟩ (by simp) rfl _ _ rfl rfl
            have e150 : a.tmps[150]?.getD undef = (.bool false) := Rg.slot e150
            exact Rg.does_pure (Rg.wanted_none rfl) (by simp [execOp, e150, go_sem]) hS rfl
          · intro a w1 hS hb hd
            have e23 := hb 23 (Rg.nw (by decide))
            simp [Act.eval] at e23
            have e151 := hd ⟨2, .guard⟩ (by simp) rfl _ _ rfl rfl
            exact Rg.does_pure (Rg.wanted_some rfl rfl rfl e151) (by simp [execOp, e23, go_sem]) hS rfl
          · intro a w1 hS hb hd
            have e152 := hd ⟨3, .data⟩ (by simp) rfl _ _ rfl rfl
            have e152 : a.tmps[152]?.getD undef = (.int .i64 0) := Rg.slot e152
            have e151 := hd ⟨2, .guard⟩ (by simp) rfl _ _ rfl rfl
            exact Rg.does_pure (Rg.wanted_some rfl rfl rfl e151) (by simp [execOp, e152, go_sem]) hS rfl
          · intro a w1 hS hb hd
            have e151 := hd ⟨2, .data⟩ (by simp) rfl _ _ rfl rfl
            have e151 : a.tmps[151]?.getD undef = (.bool false) := Rg.slot e151
            have e153 := hd ⟨4, .data⟩ (by simp) rfl _ _ rfl rfl
            have e153 : a.tmps[153]?.getD undef = (.bool false) := Rg.slot e153
            exact Rg.does_pure (Rg.wanted_none rfl) (by simp [execOp, e151, e153, go_sem]) hS rfl
          · intro a w1 hS hb hd
            have e154 := hd ⟨5, .data⟩ (by simp) rfl _ _ rfl rfl
            have e154 : a.tmps[154]?.getD undef = (.bool false) := Rg.slot e154
            exact Rg.does_pure (Rg.wanted_none rfl) (by simp [execOp, e154, go_sem]) hS rfl
          · intro a w1 hS hb hd
            have e20 := hb 20 (Rg.nw (by decide))
            simp [Act.eval] at e20
            have e155 := hd ⟨6, .guard⟩ (by simp) rfl _ _ rfl rfl
            exact Rg.does_pure (Rg.wanted_some rfl rfl rfl e155) (by simp [execOp, e20, (HVR.out w1 hS).cells.1, (HVR.out w1 hS).cells.2.1, (HVR.out w1 hS).cells.2.2.1, (HVR.out w1 hS).cells.2.2.2, go_sem]) hS rfl
          · intro a w1 hS hb hd
            have e13 := hb 13 (Rg.nw (by decide))
            simp [Act.eval] at e13
            have e155 := hd ⟨6, .guard⟩ (by simp) rfl _ _ rfl rfl
            exact Rg.does_pure (Rg.wanted_some rfl rfl rfl e155) (by simp [execOp, e13, go_sem]) hS rfl
          · intro a w1 hS hb hd
            have e19 := hb 19 (Rg.nw (by decide))
            simp [Act.eval] at e19
            have e155 := hd ⟨6, .guard⟩ (by simp) rfl _ _ rfl rfl
            exact Rg.does_pure (Rg.wanted_some rfl rfl rfl e155) (by simp [execOp, e19, go_sem]) hS rfl
          · intro a w1 hS hb hd
            have e157 := hd ⟨8, .data⟩ (by simp) rfl _ _ rfl rfl
            have e157 : a.tmps[157]?.getD undef = (.slice (some ⟨g, o, none⟩) lx c4) := Rg.slot e157
            have e158 := hd ⟨9, .data⟩ (by simp) rfl _ _ rfl rfl
            have e158 : a.tmps[158]?.getD undef = (.int .i64 (q : Int)) := Rg.slot e158
            have e155 := hd ⟨6, .guard⟩ (by simp) rfl _ _ rfl rfl
            exact Rg.does_pure (Rg.wanted_some rfl rfl rfl e155) (by simp [execOp, e157, e158, z0, z1, go_sem]) hS rfl
          · intro a w1 hS hb hd
            have e159 := hd ⟨10, .data⟩ (by simp) rfl _ _ rfl rfl
            have e159 : a.tmps[159]?.getD undef = (.pointer (some ⟨g, o + q * 4, none⟩)) := Rg.slot e159
            have e155 := hd ⟨6, .guard⟩ (by simp) rfl _ _ rfl rfl
            exact Rg.does_pure (Rg.wanted_some rfl rfl rfl e155) (by simp [execOp, e159, (HCL.out w1 hS).1, (HCL.out w1 hS).2.1, (HCL.out w1 hS).2.2.1, (HCL.out w1 hS).2.2.2, go_sem]) hS rfl
          · intro a w1 hS hb hd
            have e156 := hd ⟨7, .data⟩ (by simp) rfl _ _ rfl rfl
            have e156 : a.tmps[156]?.getD undef = (.agg #[.int .u32 x, .int .u64 y, .slice A3 l.length c3, .bool b]) := Rg.slot e156
            have e160 := hd ⟨11, .data⟩ (by simp) rfl _ _ rfl rfl
            have e160 : a.tmps[160]?.getD undef = (.agg #[.int .u32 x, .int .u64 y, .slice A2 n2 c2, .bool b]) := Rg.slot e160
            have e155 := hd ⟨6, .guard⟩ (by simp) rfl _ _ rfl rfl
            refine Rg.does_call (f := 21) (args := #[.agg #[.int .u32 x, .int .u64 y, .slice A3 l.length c3, .bool b], .agg #[.int .u32 x, .int .u64 y, .slice A2 n2 c2, .bool b]]) (Rg.wanted_some rfl rfl rfl e155) (by simp [e156, e160, go_sem]) ?_
            refine (HON.out w1 hS).mono ?_; rintro e w3 ⟨rfl, hb⟩; exact ⟨_, rfl, rfl, below_then hS hb, hb⟩
          · intro a w1 hS hb hd
            have e161 := hd ⟨12, .data⟩ (by simp) rfl _ _ rfl rfl
            have e161 : a.tmps[161]?.getD undef = (.bool true) := Rg.slot e161
            have e155 := hd ⟨6, .guard⟩ (by simp) rfl _ _ rfl rfl
            exact Rg.does_pure (Rg.wanted_some rfl rfl rfl e155) (by simp [execOp, e161, go_sem]) hS rfl
          · intro a w1 hS hb hd
            have e155 := hd ⟨6, .data⟩ (by simp) rfl _ _ rfl rfl
            have e155 : a.tmps[155]?.getD undef = (.bool false) := Rg.slot e155
            have e162 := hd ⟨13, .data⟩ (by simp) rfl _ _ rfl rfl
            have e162 : a.tmps[162]?.getD undef = (.bool false) := Rg.slot e162
            exact Rg.does_pure (Rg.wanted_none rfl) (by simp [execOp, e155, e162, go_sem]) hS rfl
          · intro a w1 hS hb hd
            have e163 := hd ⟨14, .data⟩ (by simp) rfl _ _ rfl rfl
            have e163 : a.tmps[163]?.getD undef = (.bool false) := Rg.slot e163
            exact Rg.does_pure (Rg.wanted_none rfl) (by simp [execOp, e163, go_sem]) hS rfl
          · intro a w1 hS hb hd
            have e22 := hb 22 (Rg.nw (by decide))
            simp [Act.eval] at e22
            have e164 := hd ⟨15, .guard⟩ (by simp) rfl _ _ rfl rfl
            exact Rg.does_pure (Rg.wanted_some rfl rfl rfl e164) (by simp [execOp, e22, go_sem]) hS rfl
          · intro a w1 hS hb hd
            have e17 := hb 17 (Rg.nw (by decide))
            simp [Act.eval] at e17
            have e164 := hd ⟨15, .guard⟩ (by simp) rfl _ _ rfl rfl
            exact Rg.does_pure (Rg.wanted_some rfl rfl rfl e164) (by simp [execOp, e17, go_sem]) hS rfl
          · intro a w1 hS hb hd
            have e165 := hd ⟨16, .data⟩ (by simp) rfl _ _ rfl rfl
            have e165 : a.tmps[165]?.getD undef = (.int .i64 s1) := Rg.slot e165
            have e166 := hd ⟨17, .data⟩ (by simp) rfl _ _ rfl rfl
            have e166 : a.tmps[166]?.getD undef = (.int .i64 s1) := Rg.slot e166
            have e164 := hd ⟨15, .guard⟩ (by simp) rfl _ _ rfl rfl
            exact Rg.does_pure (Rg.wanted_some rfl rfl rfl e164) (by simp [execOp, e165, e166, go_sem]) hS rfl
          · intro a w1 hS hb hd
            have e164 := hd ⟨15, .data⟩ (by simp) rfl _ _ rfl rfl
            have e164 : a.tmps[164]?.getD undef = (.bool false) := Rg.slot e164
            have e167 := hd ⟨18, .data⟩ (by simp) rfl _ _ rfl rfl
            have e167 : a.tmps[167]?.getD undef = (.bool false) := Rg.slot e167
            exact Rg.does_pure (Rg.wanted_none rfl) (by simp [execOp, e164, e167, go_sem]) hS rfl
          · intro v w12 hS hv
            have v168 := hv 19 _ _ rfl rfl
            have hb12 := below_then HB11.out hS
            have HP12 := Lib.hid (HPQ.out.then_ hb12)
            have HX12 := Lib.hid (HXQ.out.then_ hb12)
            have HB12 := Lib.hid (below_then HBQ.out hb12)
            clear hS hv hb12
            simp only [Rg.putAll, Nat.zero_add, Nat.reduceAdd]
            simp only [Act.put, List.setIfInBounds_toArray, List.set_cons_succ, List.set_cons_zero]
            rw [v168]
            clear v168
            go_wp2_with fail
            go_roundw
            case rel => exact ⟨q + 1, by go_num, by rw [HS1.out], HQ1.out, HP12.out, HX12.out, HB12.out⟩
            case measure => simp [intOf]; exact HMS.out
        · have z2 : decide ((q : Int) < (lx : Int)) = false := decide_eq_false (by omega)
          clear hq
          go_wp2_with fail
          refine (wakes_any _).mono ?_
          rintro e wz ⟨rfl, hbz⟩
          have HBZ := Lib.hid (below_then HBQ.out hbz)
          clear hbz
          go_wp2_with fail
          go_ret
          exact ⟨rfl, HBZ.out⟩
    · have HBE := Lib.hid (show vb = v0 by omega)
      have z1 : decide (nw < vb) = false := by rw [HBE.out]; exact decide_eq_false hgt
      clear hvb hnw hv0 hva hib hiaM hirM hgt hM
      go_wp2_with fail
      refine HNW.out.mono ?_
      rintro e w3 ⟨rfl, hw⟩
      rw [hw, ← HBE.out]
      clear hw HBE HNW HLN
      have hsa := since_ok HPJ.out ia va HVA.out (Nat.le_trans HIA.out.1 HIA.out.2)
      rw [← HX.out, ← HLX.out] at hsa
      have HSA := Lib.hid hsa
      clear hsa
      go_wp2_with fail
      refine HSA.out.mono ?_
      rintro e w4 ⟨A4, c4, rfl, ho4, hb4⟩
      have HP4 := Lib.hid (HPJ.out.then_ hb4)
      have HB4 := Lib.hid (below_then HBJ.out hb4)
      have HX4 := Lib.hid (RowO.rowP ho4)
      have hsb := since_ok HP4.out ib vb HVB.out HIA.out.2
      rw [← HY.out, ← HLY.out] at hsb
      have HSB := Lib.hid hsb
      clear hsb ho4 hb4 HSA
      go_wp2_with fail
      refine HSB.out.mono ?_
      rintro e w5 ⟨A5, c5, rfl, ho5, hb5⟩
      have HP5 := Lib.hid (HP4.out.then_ hb5)
      have HB5 := Lib.hid (below_then HB4.out hb5)
      have HX5 := Lib.hid (HX4.out.then_ hb5)
      have sx := slice_fromOu A4 lx c4 dk HDL.out
      have hrx := RowP.from_ HX5.out HDL.out
      obtain ⟨A6, hA6⟩ : ∃ A, A = (if c4 = dk then A4 else A4.map (·.add (dk * 4))) := ⟨_, rfl⟩
      obtain ⟨n6, hn6⟩ : ∃ n, n = lx - dk := ⟨_, rfl⟩
      obtain ⟨c6, hc6⟩ : ∃ n, n = c4 - dk := ⟨_, rfl⟩
      rw [← hA6, ← hn6, ← hc6] at sx hrx
      have hn6b : n6 ≤ 1000000 := by rw [hn6]; exact Nat.le_trans (Nat.sub_le _ _) (Nat.le_trans HLB.out (by decide))
      have hsm := same10_any A6 A5 n6 c6 ly c5 (X.drop dk) Y w5 hrx (RowO.rowP ho5) hn6b
      rw [decide_eq_true HXY.out] at hsm
      have HSM := Lib.hid hsm
      clear hsm hrx hA6 hn6 hn6b hc6 ho5 hb5 HSB HP4 HX4
      go_wp2_with fail
      refine HSM.out.mono ?_
      rintro e w6 ⟨rfl, hb6⟩
      have HP6 := Lib.hid (HP5.out.then_ hb6)
      have HB6 := Lib.hid (below_then HB5.out hb6)
      have HX6 := Lib.hid (HX5.out.then_ hb6)
      have HLG := Lib.hid (length_ok HP6.out ia va HVA.out (Nat.le_trans HIA.out.1 HIA.out.2))
      clear hb6 HSM HP5 HX5 sx q1 q2 q3 hc1 hc2 hc3 hc4 r1 r1b r2 r2b
      go_wp2_with fail
      refine HLG.out.mono ?_
      rintro e w7 ⟨rfl, hb7⟩
      have HP7 := Lib.hid (HP6.out.then_ hb7)
      have HB7 := Lib.hid (below_then HB6.out hb7)
      have HX7 := Lib.hid (HX6.out.then_ hb7)
      clear hb7 HLG HP6 HX6
      go_wp2_with fail
      go_loopw [17, 19] (fun s i wr => PaR W p T X A4 lx c4 ia s i wr) (fun _ i _ => lx - (intOf i).toNat)
      case atStart => exact ⟨0, rfl, by rw [Nat.add_zero], Nat.zero_le _, HP7.out, HX7.out, HB7.out⟩
      case round =>
        obtain ⟨q, rfl, rfl, hq, hpq, hxq, hbq⟩ := hrel
        have HPQ := Lib.hid hpq
        have HXQ := Lib.hid hxq
        have HBQ := Lib.hid hbq
        clear hpq hxq hbq
        by_cases hlt : q < lx
        · obtain ⟨g, o, A2, n2, c2, rfl, hcl, hun⟩ := HXQ.out.at_ hlt
          have hiq : ia + q < T.length := by have := HXA.out; omega
          have hop : X.getD q default = T.getD (ia + q) default := by
            rw [HX.out, List.getD_eq_getElem?_getD, List.getD_eq_getElem?_getD, List.getElem?_drop]
          have hsm := HPQ.out.fine.small (T.getD (ia + q) default) (by rw [List.getD_eq_getElem?_getD, List.getElem?_eq_getElem hiq]; exact List.getElem_mem _)
          have htt := Pl.total_take hiq
          have hlo1 := HL0.out (ia + q) (Nat.le_of_lt hiq)
          have hlo2 := HL0.out (ia + q + 1) hiq
          have hhi1 := Pl.total_le (HPQ.out.fine.small.take (ia + q))
          have hhi2 := Pl.total_le (HPQ.out.fine.small.take (ia + q + 1))
          have htl := HPQ.out.fine.cnt
          rw [List.length_take] at hhi1 hhi2
          obtain ⟨⟨x, y, l, b⟩, hqo⟩ : ∃ o, o = X.getD q default := ⟨_, rfl⟩
          rw [← hop, ← hqo] at hsm htt
          rw [← hqo] at hcl hun
          simp only at hcl hun hsm htt
          obtain ⟨gl, hgl⟩ : ∃ z, z = Pl.growsL l := ⟨_, rfl⟩
          obtain ⟨s0, hs0⟩ : ∃ z, z = 1000 + Pl.total (T.take (ia + q)) := ⟨_, rfl⟩
          obtain ⟨s1, hs1⟩ : ∃ z, z = 1000 + Pl.total (T.take (ia + q + 1)) := ⟨_, rfl⟩
          have hsum : wrap64 (s0 + gl) = s1 := by
            have e : s0 + gl = s1 := by rw [hs0, hs1, hgl, htt]; omega
            rw [e]
            unfold wrap64
            omega
          have hge : n2 ≤ 140737488355328 := by have := hun.len; omega
          rw [← hs0]
          obtain ⟨v1, hv1⟩ : ∃ v, v = va + q := ⟨_, rfl⟩
          obtain ⟨v2, hv2⟩ : ∃ v, v = v1 + 1 := ⟨_, rfl⟩
          have hv2e : v2 = 5 + (ia + q + 1) := by have := HVA.out; omega
          have hat := at_ok HPQ.out (ia + q + 1) v2 hv2e (Nat.succ_le_succ (Nat.zero_le _)) hiq x y l b (by rw [hqo]; exact hop)
          have HAT := Lib.hid hat
          have HLN2 := Lib.hid (show ∀ w', Below wr.heap.size wr w' → Calls Try.prog 17 #[.pointer (some ⟨p, 0, none⟩), .int .u64 (v2 : Int)] w' fun e w'' => e = .returned (.tuple #[.int .i64 s1, .int .i64 0]) ∧ Below w'.heap.size w' w'' from fun w' hb' => by
            have := length_ok (HPQ.out.then_ hb') (ia + q + 1) v2 hv2e hiq
            rw [← hs1] at this
            exact this)
          have HGR := Lib.hid (show ∀ w', Below wr.heap.size wr w' → Calls Try.prog 11 #[.slice A2 n2 c2] w' fun e w'' => e = .returned (.int .i64 gl) ∧ Below w'.heap.size w' w'' from fun w' hb' => by
            have := growsL_big A2 n2 c2 l w' (Rws.then_ hun hb') hge
            rw [← hgl] at this
            exact this)
          have HCC := Lib.hid hcl
          have HUN := Lib.hid hun
          have HS1 := Lib.hid (show s1 = 1000 + Pl.total (T.take (ia + (q + 1))) from hs1)
          have HMS := Lib.hid (show lx - (q + 1) < lx - q by omega)
          have HQ1 := Lib.hid (show q + 1 ≤ lx from hlt)
          have hq50 : q ≤ 50 := by have := HLB.out; omega
          have hva50 : va ≤ 300 := by have := HVA.out; have := HIA.out; omega
          have u0 : IntKind.u64.wrap (q : Int) = (q : Int) := wrap_u64 (Int.natCast_nonneg _) (by omega)
          have u1 : IntKind.u64.wrap ((va : Int) + (q : Int)) = (v1 : Int) := by rw [wrap_u64 (by omega) (by omega)]; omega
          have u2 : IntKind.u64.wrap ((v1 : Int) + 1) = (v2 : Int) := by rw [wrap_u64 (by omega) (by omega)]; omega
          have z0 : (0 : Int) ≤ (q : Int) := Int.natCast_nonneg _
          have z1 : (q : Int) < (lx : Int) := Int.ofNat_lt.2 hlt
          clear hq hiq hop hsm htt hlo1 hlo2 hhi1 hhi2 htl hqo hgl hs0 hs1 hge hv1 hv2 hv2e hat hcl hun hva50
          go_wp2_with fail
          refine HAT.out.mono ?_
          rintro e w8 ⟨A3, c3, rfl, hu3, hb8⟩
          obtain ⟨w9, hw9⟩ : ∃ w9, w9 = w8.alloc (.cells #[.int .u32 x, .int .u64 y, .slice A3 l.length c3, .bool b] 38) := ⟨_, rfl⟩
          have hb9 : Below w8.heap.size w8 w9 := by rw [hw9]; exact below_box _ _
          have HB9 := Lib.hid (below_then hb8 hb9)
          have HO9 := Lib.hid (show OAt w9 w8.heap.size x y A3 l.length c3 b by rw [hw9]; exact heap_new rfl)
          have HU9 := Lib.hid (Rws.then_ (OwnU.uns hu3) hb9)
          have HW9 := Lib.hid hw9
          clear hu3 hb8 hb9 hw9 HAT
          go_wp2_with fail
          rw [← HW9.out]
          refine (HLN2.out w9 HB9.out).mono ?_
          rintro e w10 ⟨rfl, hb10⟩
          have HB10 := Lib.hid (below_then HB9.out hb10)
          have HO10 := Lib.hid (HO9.out.then_ hb10)
          have HU10 := Lib.hid (Rws.then_ HU9.out hb10)
          have a2 := (HCC.out w10 HB10.out).2.2.1
          clear hb10 HLN2
          go_wp2_with fail
          refine (HGR.out w10 HB10.out).mono ?_
          rintro e w11 ⟨rfl, hb11⟩
          have HB11 := Lib.hid (below_then HB10.out hb11)
          have HO11 := Lib.hid (HO10.out.then_ hb11)
          have HU11 := Lib.hid (Rws.then_ HU10.out hb11)
          have HVR := Lib.hid (show ∀ w1, Below w11.heap.size w11 w1 → OAt w1 w8.heap.size x y A3 l.length c3 b from fun w1 hb => HO11.out.then_ hb)
          have HCL := Lib.hid (show ∀ w1, Below w11.heap.size w11 w1 → _ from fun w1 hb => HCC.out w1 (below_then HB11.out hb))
          have HON := Lib.hid (show ∀ w1, Below w11.heap.size w11 w1 → Calls Try.prog 21 #[.agg #[.int .u32 x, .int .u64 y, .slice A3 l.length c3, .bool b], .agg #[.int .u32 x, .int .u64 y, .slice A2 n2 c2, .bool b]] w1 fun e w' => e = .returned (.bool true) ∧ Below w1.heap.size w1 w' from fun w1 hb => by
            have := one10_any x y A3 l.length c3 l b x y A2 n2 c2 l b w1 (Rws.then_ HU11.out hb) (Rws.then_ HUN.out (below_then HB11.out hb))
            rwa [decide_eq_true rfl] at this)
          clear hb11 HGR a2
          go_wp2_with fail
          rw [hsum]
          clear hsum
          refine Rg.wp_region_inv (Below w11.heap.size w11) (Rg.Wd.at [.is (.int .i64 0), .is (.bool false), .is (.bool false), .is (.int .i64 0), .is (.bool false), .is (.bool false), .is (.bool false), .is (.agg #[.int .u32 x, .int .u64 y, .slice A3 l.length c3, .bool b]), .is (.slice (some ⟨g, o, none⟩) lx c4), .is (.int .i64 (q : Int)), .is (.pointer (some ⟨g, o + q * 4, none⟩)), .is (.agg #[.int .u32 x, .int .u64 y, .slice A2 n2 c2, .bool b]), .is (.bool true), .is (.bool false), .is (.bool false), .is (.bool false), .is (.int .i64 s1), .is (.int .i64 s1), .is (.bool false), .is (.bool false)]) (by kernel_rfl) (by kernel_rfl) (Rg.Wd.stays _ _) ((below_drawn (Below.refl _ _))) ⟨?_, ?_, ?_, ?_, ?_, ?_, ?_, ?_, ?_, ?_, ?_, ?_, ?_, ?_, ?_, ?_, ?_, ?_, ?_, ?_, trivial⟩ ?_
          · intro a w1 hS hb hd
            have e21 := hb 21 (Rg.nw (by decide))
            simp [Act.eval] at e21
            exact Rg.does_pure (Rg.wanted_none rfl) (by simp [execOp, e21, go_sem]) hS rfl
          · intro a w1 hS hb hd
            have e149 := hd ⟨0, .data⟩ (by simp) rfl _ _ rfl rfl
            have e149 : a.tmps[149]?.getD undef = (.int .i64 0) := Rg.slot e149
            exact Rg.does_pure (Rg.wanted_none rfl) (by simp [execOp, e149, go_sem]) hS rfl
          · intro a w1 hS hb hd
            have e150 := hd ⟨1, .data⟩ (by simp) rfl _ _ rfl rfl
            have e150 : a.tmps[150]?.getD undef = (.bool false) := Rg.slot e150
            exact Rg.does_pure (Rg.wanted_none rfl) (by simp [execOp, e150, go_sem]) hS rfl
          · intro a w1 hS hb hd
            have e23 := hb 23 (Rg.nw (by decide))
            simp [Act.eval] at e23
            have e151 := hd ⟨2, .guard⟩ (by simp) rfl _ _ rfl rfl
            exact Rg.does_pure (Rg.wanted_some rfl rfl rfl e151) (by simp [execOp, e23, go_sem]) hS rfl
          · intro a w1 hS hb hd
            have e152 := hd ⟨3, .data⟩ (by simp) rfl _ _ rfl rfl
            have e152 : a.tmps[152]?.getD undef = (.int .i64 0) := Rg.slot e152
            have e151 := hd ⟨2, .guard⟩ (by simp) rfl _ _ rfl rfl
            exact Rg.does_pure (Rg.wanted_some rfl rfl rfl e151) (by simp [execOp, e152, go_sem]) hS rfl
          · intro a w1 hS hb hd
            have e151 := hd ⟨2, .data⟩ (by simp) rfl _ _ rfl rfl
            have e151 : a.tmps[151]?.getD undef = (.bool false) := Rg.slot e151
            have e153 := hd ⟨4, .data⟩ (by simp) rfl _ _ rfl rfl
            have e153 : a.tmps[153]?.getD undef = (.bool false) := Rg.slot e153
            exact Rg.does_pure (Rg.wanted_none rfl) (by simp [execOp, e151, e153, go_sem]) hS rfl
          · intro a w1 hS hb hd
            have e154 := hd ⟨5, .data⟩ (by simp) rfl _ _ rfl rfl
            have e154 : a.tmps[154]?.getD undef = (.bool false) := Rg.slot e154
            exact Rg.does_pure (Rg.wanted_none rfl) (by simp [execOp, e154, go_sem]) hS rfl
          · intro a w1 hS hb hd
            have e20 := hb 20 (Rg.nw (by decide))
            simp [Act.eval] at e20
            have e155 := hd ⟨6, .guard⟩ (by simp) rfl _ _ rfl rfl
            exact Rg.does_pure (Rg.wanted_some rfl rfl rfl e155) (by simp [execOp, e20, (HVR.out w1 hS).cells.1, (HVR.out w1 hS).cells.2.1, (HVR.out w1 hS).cells.2.2.1, (HVR.out w1 hS).cells.2.2.2, go_sem]) hS rfl
          · intro a w1 hS hb hd
            have e13 := hb 13 (Rg.nw (by decide))
            simp [Act.eval] at e13
            have e155 := hd ⟨6, .guard⟩ (by simp) rfl _ _ rfl rfl
            exact Rg.does_pure (Rg.wanted_some rfl rfl rfl e155) (by simp [execOp, e13, go_sem]) hS rfl
          · intro a w1 hS hb hd
            have e19 := hb 19 (Rg.nw (by decide))
            simp [Act.eval] at e19
            have e155 := hd ⟨6, .guard⟩ (by simp) rfl _ _ rfl rfl
            exact Rg.does_pure (Rg.wanted_some rfl rfl rfl e155) (by simp [execOp, e19, go_sem]) hS rfl
          · intro a w1 hS hb hd
            have e157 := hd ⟨8, .data⟩ (by simp) rfl _ _ rfl rfl
            have e157 : a.tmps[157]?.getD undef = (.slice (some ⟨g, o, none⟩) lx c4) := Rg.slot e157
            have e158 := hd ⟨9, .data⟩ (by simp) rfl _ _ rfl rfl
            have e158 : a.tmps[158]?.getD undef = (.int .i64 (q : Int)) := Rg.slot e158
            have e155 := hd ⟨6, .guard⟩ (by simp) rfl _ _ rfl rfl
            exact Rg.does_pure (Rg.wanted_some rfl rfl rfl e155) (by simp [execOp, e157, e158, z0, z1, go_sem]) hS rfl
          · intro a w1 hS hb hd
            have e159 := hd ⟨10, .data⟩ (by simp) rfl _ _ rfl rfl
            have e159 : a.tmps[159]?.getD undef = (.pointer (some ⟨g, o + q * 4, none⟩)) := Rg.slot e159
            have e155 := hd ⟨6, .guard⟩ (by simp) rfl _ _ rfl rfl
            exact Rg.does_pure (Rg.wanted_some rfl rfl rfl e155) (by simp [execOp, e159, (HCL.out w1 hS).1, (HCL.out w1 hS).2.1, (HCL.out w1 hS).2.2.1, (HCL.out w1 hS).2.2.2, go_sem]) hS rfl
          · intro a w1 hS hb hd
            have e156 := hd ⟨7, .data⟩ (by simp) rfl _ _ rfl rfl
            have e156 : a.tmps[156]?.getD undef = (.agg #[.int .u32 x, .int .u64 y, .slice A3 l.length c3, .bool b]) := Rg.slot e156
            have e160 := hd ⟨11, .data⟩ (by simp) rfl _ _ rfl rfl
            have e160 : a.tmps[160]?.getD undef = (.agg #[.int .u32 x, .int .u64 y, .slice A2 n2 c2, .bool b]) := Rg.slot e160
            have e155 := hd ⟨6, .guard⟩ (by simp) rfl _ _ rfl rfl
            refine Rg.does_call (f := 21) (args := #[.agg #[.int .u32 x, .int .u64 y, .slice A3 l.length c3, .bool b], .agg #[.int .u32 x, .int .u64 y, .slice A2 n2 c2, .bool b]]) (Rg.wanted_some rfl rfl rfl e155) (by simp [e156, e160, go_sem]) ?_
            refine (HON.out w1 hS).mono ?_; rintro e w3 ⟨rfl, hb⟩; exact ⟨_, rfl, rfl, below_then hS hb, hb⟩
          · intro a w1 hS hb hd
            have e161 := hd ⟨12, .data⟩ (by simp) rfl _ _ rfl rfl
            have e161 : a.tmps[161]?.getD undef = (.bool true) := Rg.slot e161
            have e155 := hd ⟨6, .guard⟩ (by simp) rfl _ _ rfl rfl
            exact Rg.does_pure (Rg.wanted_some rfl rfl rfl e155) (by simp [execOp, e161, go_sem]) hS rfl
          · intro a w1 hS hb hd
            have e155 := hd ⟨6, .data⟩ (by simp) rfl _ _ rfl rfl
            have e155 : a.tmps[155]?.getD undef = (.bool false) := Rg.slot e155
            have e162 := hd ⟨13, .data⟩ (by simp) rfl _ _ rfl rfl
            have e162 : a.tmps[162]?.getD undef = (.bool false) := Rg.slot e162
            exact Rg.does_pure (Rg.wanted_none rfl) (by simp [execOp, e155, e162, go_sem]) hS rfl
          · intro a w1 hS hb hd
            have e163 := hd ⟨14, .data⟩ (by simp) rfl _ _ rfl rfl
            have e163 : a.tmps[163]?.getD undef = (.bool false) := Rg.slot e163
            exact Rg.does_pure (Rg.wanted_none rfl) (by simp [execOp, e163, go_sem]) hS rfl
          · intro a w1 hS hb hd
            have e22 := hb 22 (Rg.nw (by decide))
            simp [Act.eval] at e22
            have e164 := hd ⟨15, .guard⟩ (by simp) rfl _ _ rfl rfl
            exact Rg.does_pure (Rg.wanted_some rfl rfl rfl e164) (by simp [execOp, e22, go_sem]) hS rfl
          · intro a w1 hS hb hd
            have e17 := hb 17 (Rg.nw (by decide))
            simp [Act.eval] at e17
            have e164 := hd ⟨15, .guard⟩ (by simp) rfl _ _ rfl rfl
            exact Rg.does_pure (Rg.wanted_some rfl rfl rfl e164) (by simp [execOp, e17, go_sem]) hS rfl
          · intro a w1 hS hb hd
            have e165 := hd ⟨16, .data⟩ (by simp) rfl _ _ rfl rfl
            have e165 : a.tmps[165]?.getD undef = (.int .i64 s1) := Rg.slot e165
            have e166 := hd ⟨17, .data⟩ (by simp) rfl _ _ rfl rfl
            have e166 : a.tmps[166]?.getD undef = (.int .i64 s1) := Rg.slot e166
            have e164 := hd ⟨15, .guard⟩ (by simp) rfl _ _ rfl rfl
            exact Rg.does_pure (Rg.wanted_some rfl rfl rfl e164) (by simp [execOp, e165, e166, go_sem]) hS rfl
          · intro a w1 hS hb hd
            have e164 := hd ⟨15, .data⟩ (by simp) rfl _ _ rfl rfl
            have e164 : a.tmps[164]?.getD undef = (.bool false) := Rg.slot e164
            have e167 := hd ⟨18, .data⟩ (by simp) rfl _ _ rfl rfl
            have e167 : a.tmps[167]?.getD undef = (.bool false) := Rg.slot e167
            exact Rg.does_pure (Rg.wanted_none rfl) (by simp [execOp, e164, e167, go_sem]) hS rfl
          · intro v w12 hS hv
            have v168 := hv 19 _ _ rfl rfl
            have hb12 := below_then HB11.out hS
            have HP12 := Lib.hid (HPQ.out.then_ hb12)
            have HX12 := Lib.hid (HXQ.out.then_ hb12)
            have HB12 := Lib.hid (below_then HBQ.out hb12)
            clear hS hv hb12
            simp only [Rg.putAll, Nat.zero_add, Nat.reduceAdd]
            simp only [Act.put, List.setIfInBounds_toArray, List.set_cons_succ, List.set_cons_zero]
            rw [v168]
            clear v168
            go_wp2_with fail
            go_roundw
            case rel => exact ⟨q + 1, by go_num, by rw [HS1.out], HQ1.out, HP12.out, HX12.out, HB12.out⟩
            case measure => simp [intOf]; exact HMS.out
        · have z2 : decide ((q : Int) < (lx : Int)) = false := decide_eq_false (by omega)
          clear hq
          go_wp2_with fail
          refine (wakes_any _).mono ?_
          rintro e wz ⟨rfl, hbz⟩
          have HBZ := Lib.hid (below_then HBQ.out hbz)
          clear hbz
          go_wp2_with fail
          go_ret
          exact ⟨rfl, HBZ.out⟩
end Go.Proofs.Ytkgehgedbgogbaa
