/-
  The walk of EditBack: whatever row comes in, it returns true; nothing that was there turned. Conditions: those that it states.
-/
import Derived.Test.YthnenmglmebljaaEdO
import Derived.BigQuiet
namespace Go.Proofs.Ythnenmglmebljaa
open Go.RowKit
open Pl (Un)

namespace editBack
/-- ahead: the units that may be -/
def OkR (w : World) (l : List Un) (i : Value) (wr : World) : Prop := ∃ j : Nat, i = .int .i64 (j : Int) ∧ j ≤ l.length ∧ (∀ u ∈ l.take j, Pl.Okay u) ∧ Below w.heap.size w wr
/-- behind: the runs -/
def RnR (w1 w : World) (m : Nat) (i : Value) (wr : World) : Prop := ∃ j : Nat, i = .int .i64 (j : Int) ∧ j ≤ m ∧ Below w1.heap.size w1 wr ∧ Below w.heap.size w wr
theorem rn_cells {w : World} {g o n c : Nat} {L : List RnV} (h : Rns w (some ⟨g, o, none⟩) n c L) {i : Nat} (hi : i < n) (wr : World) (hb : Below w.heap.size w wr) :
    wr.cell? ⟨g, o + i * 5, none⟩ = some (.int .i64 (L.getD i default).k) ∧ wr.cell? ⟨g, o + i * 5 + 1, none⟩ = some (.int .i64 (L.getD i default).p) ∧ wr.cell? ⟨g, o + i * 5 + 2, none⟩ = some (.int .u32 (L.getD i default).x) ∧
      wr.cell? ⟨g, o + i * 5 + 3, none⟩ = some (.int .u64 (L.getD i default).y) ∧ wr.cell? ⟨g, o + i * 5 + 4, none⟩ = some (.slice (L.getD i default).A (L.getD i default).n (L.getD i default).c) := by
  obtain ⟨g', o', e, _, hc⟩ := Rnr.at_ (h.then_ hb).1 hi
  cases e
  exact hc i hi
theorem rn_getD {L : List RnV} {i : Nat} (h : i < L.length) (z : Pl.Rn) : (L.map RnV.rn).getD i z = (L.getD i default).rn := by
  rw [List.getD_eq_getElem?_getD, List.getElem?_map, List.getElem?_eq_getElem h, List.getD_eq_getElem?_getD, List.getElem?_eq_getElem h]; rfl
set_option maxRecDepth 100000 in
set_option maxHeartbeats 4000000 in
theorem walk (w : World) (A : Option Addr) (n c : Nat) (l0 : List Un) (hA : Units w w.heap.size A n c l0) :
    Calls Try.prog 4 #[.slice A n c] w fun e w' => e = .returned (.bool true) ∧ Below w.heap.size w w' := by
  obtain ⟨K, hK⟩ : ∃ K, K = min n 300 := ⟨_, rfl⟩
  have m1 : (if (300 : Int) < (n : Int) then (300 : Int) else (n : Int)) = (K : Int) := by split <;> omega
  have s1 := slice_toU A n c K (by have := hA.1.le; omega)
  obtain ⟨l, hl⟩ : ∃ x, x = l0.take K := ⟨_, rfl⟩
  have hU : Units w w.heap.size A K c l := by rw [hl]; exact hA.upto (by omega)
  have A_0 := Lib.hid hU.1
  have HBD := Lib.hid (units_I hU)
  have hk1 : K ≤ 300 := by omega
  have HL := Lib.hid A_0.out.len
  clear hA hU hK hl
  go_enter Try.func4, Try.ntmps4
  go_wp2_with fail
  clear m1 s1
  go_loopw [3] (fun i wr => OkR w l i wr) (fun i _ => K - (intOf i).toNat)
  case atStart => exact ⟨0, rfl, Nat.zero_le _, (fun u hu => by simp at hu), Below.refl _ _⟩
  case round =>
    obtain ⟨j, rfl, hj, hs, hb⟩ := hrel
    have HB := Lib.hid hb
    have HS := Lib.hid hs
    rw [HL.out] at hj
    clear hb hs
    by_cases hlt : j < K
    · obtain ⟨g1, o1, rfl, hg1, hc1⟩ := Uns.at_ (Rws.below A_0.out HB.out (Nat.le_refl _)) hlt
      obtain ⟨a0, a1, a2, a3, a4⟩ := hc1 j hlt
      have hjl : j < l.length := by rw [HL.out]; exact hlt
      obtain ⟨u, hu⟩ : ∃ u, u = l.getD j default := ⟨_, rfl⟩
      rw [← hu] at a0 a1 a2 a3 a4
      have HM := Lib.hid (okay_any u wr)
      have HY := Lib.hid (show Pl.Okay u → ∀ v ∈ l.take (j + 1), Pl.Okay v from fun h => mem_take_getD HS.out hjl (by rw [← hu]; exact h))
      obtain ⟨k, p, ch, x, y⟩ := u
      simp only at a0 a1 a2 a3 a4
      have z0 : (0 : Int) ≤ (j : Int) := Int.natCast_nonneg j
      have z1 : (j : Int) < (K : Int) := Int.ofNat_lt.2 hlt
      have HMS := Lib.hid (show K - (j + 1) < K - j by omega)
      have HJ1 := Lib.hid (show j + 1 ≤ l.length from hjl)
      clear hc1 hu
      unfold uval at HM
      simp only at HM
      by_cases hO : Pl.Okay ⟨k, p, ch, x, y⟩
      · rw [decide_eq_true hO] at HM
        have HY2 := Lib.hid (HY.out hO)
        clear hO
        go_wp2_with fail
        refine HM.out.mono ?_
        rintro e w' ⟨rfl, hb⟩
        have HB2 := Lib.hid (below_then' HB.out hb HB.out.size)
        clear hb a0 a1 a2 a3 a4
        go_wp2_with fail
        go_roundw
        case rel => exact ⟨j + 1, by go_num, HJ1.out, HY2.out, HB2.out⟩
        case measure => simp [intOf]; exact HMS.out
      · rw [decide_eq_false hO] at HM
        clear hO
        go_wp2_with fail
        refine HM.out.mono ?_
        rintro e w' ⟨rfl, hb⟩
        have HB2 := Lib.hid (below_then' HB.out hb HB.out.size)
        clear hb a0 a1 a2 a3 a4
        go_wp2_with fail
        refine (awake_any w').mono ?_
        rintro e w3 ⟨rfl, hb⟩
        have HB3 := Lib.hid (below_then' HB2.out hb HB2.out.size)
        clear hb
        go_wp2_with fail
        go_ret
        exact ⟨rfl, HB3.out⟩
    · obtain rfl : K = j := by omega
      have HE := Lib.hid (show ∀ u ∈ l, Pl.Okay u from by
        have := HS.out
        rw [List.take_of_length_le (by rw [HL.out]; omega)] at this
        exact this)
      have A_1 := Lib.hid (Rws.then_ A_0.out HB.out)
      obtain ⟨hi1, hi2, hi3, hi4, _, hi6⟩ := Pl.runs_inv l HBD.out.1
      have HI1 := Lib.hid hi1
      have HI2 := Lib.hid hi2
      have HI3 := Lib.hid hi3
      have HI4 := Lib.hid hi4
      have HI6 := Lib.hid (hi6 HE.out)
      have HRU := Lib.hid (runs_any A K c l wr A_1.out (by omega) HBD.out.1 HBD.out.2)
      clear hi1 hi2 hi3 hi4 hi6
      go_wp2_with fail
      refine HRU.out.mono ?_
      rintro e w2 ⟨B, d, L, rfl, hr, hL, hb⟩
      have A_2 := Lib.hid (Rws.then_ A_1.out hb)
      have HB2 := Lib.hid (below_then' HB.out hb HB.out.size)
      obtain ⟨M, hM⟩ : ∃ M, M = L.length := ⟨_, rfl⟩
      have hMl : M ≤ K := by rw [hM, ← HL.out, ← List.length_map RnV.rn, hL]; exact HI4.out
      rw [← hM] at hr ⊢
      have HR := Lib.hid hr
      have HLr := Lib.hid hL
      have HM := Lib.hid hM
      have HRW := Lib.hid (row_any B M d L w2 hr (by omega) (by rw [hL, HI3.out, HL.out]; omega))
      clear hr hL hb hM HRU A_1
      go_wp2_with fail
      refine HRW.out.mono ?_
      rintro e w3 ⟨C, d3, rfl, ho, hb⟩
      rw [HLr.out, HI6.out, HL.out] at ho
      simp only [HLr.out, HI6.out, HL.out]
      have A_3 := Lib.hid (Rws.then_ A_2.out hb)
      have R_3 := Lib.hid (HR.out.then_ hb)
      have HB3 := Lib.hid (below_then' HB2.out hb HB2.out.size)
      have HC := Lib.hid (OwnU.uns ho)
      have HS1 := Lib.hid (same_any C A K d3 K c l l w3 HC.out A_3.out)
      rw [decide_eq_true rfl] at HS1
      clear ho hb HRW A_2 HR
      go_wp2_with fail
      refine HS1.out.mono ?_
      rintro e w4 ⟨rfl, hb⟩
      have A_4 := Lib.hid (Rws.then_ A_3.out hb)
      have R_4 := Lib.hid (R_3.out.then_ hb)
      have C_4 := Lib.hid (Rws.then_ HC.out hb)
      have HB4 := Lib.hid (below_then' HB3.out hb HB3.out.size)
      have HS2 := Lib.hid (same8_any C A K d3 K c l l w4 C_4.out A_4.out)
      rw [decide_eq_true rfl] at HS2
      clear hb HS1 A_3 R_3 HC
      go_wp2_with fail
      refine HS2.out.mono ?_
      rintro e w5 ⟨rfl, hb⟩
      have R_5 := Lib.hid (R_4.out.then_ hb)
      have HB5 := Lib.hid (below_then' HB4.out hb HB4.out.size)
      have hMi : ¬ (K : Int) < (M : Int) := by omega
      have hMd : (M : Int) ≤ (K : Int) := by omega
      have HM5 := Lib.hid (show M ≤ 300 by omega)
      clear hb HS2 A_4 R_4 C_4
      go_wp2_with fail
      clear hMi hMd
      go_loopw [6] (fun i wr => RnR w5 w M i wr) (fun i _ => M - (intOf i).toNat)
      case atStart => exact ⟨0, rfl, Nat.zero_le _, Below.refl _ _, HB5.out⟩
      case round =>
        obtain ⟨j, rfl, hj, hbb, hb⟩ := hrel
        have HBB := Lib.hid hbb
        have HB6 := Lib.hid hb
        clear hbb hb
        by_cases hlt : j < M
        · obtain ⟨g, o, rfl, _, _⟩ := Rnr.at_ R_5.out.1 hlt
          have hm300 := HM5.out
          have hjL : j < L.length := by rw [← HM.out]; exact hlt
          obtain ⟨a0, a1, a2, a3, a4⟩ := rn_cells R_5.out hlt wr HBB.out
          have hrn : ∀ z, (Pl.runs l).getD j z = (L.getD j default).rn := fun z => by rw [← HLr.out]; exact rn_getD hjL z
          have hfu := HI2.out (L.getD j default).rn (by rw [← hrn default, ← HLr.out, List.getD_eq_getElem?_getD, List.getElem?_eq_getElem (by rw [List.length_map]; exact hjL)]; exact List.getElem_mem _)
          have hcr := (R_5.out.2 (L.getD j default) (by rw [List.getD_eq_getElem?_getD, List.getElem?_eq_getElem hjL]; exact List.getElem_mem hjL)).len
          have z0 : (0 : Int) ≤ (j : Int) := Int.natCast_nonneg j
          have z1 : (j : Int) < (M : Int) := Int.ofNat_lt.2 hlt
          have HMS := Lib.hid (show M - (j + 1) < M - j by omega)
          have HJ1 := Lib.hid (show j + 1 ≤ M from hlt)
          obtain ⟨r, hr⟩ : ∃ r, r = L.getD j default := ⟨_, rfl⟩
          rw [← hr] at a0 a1 a2 a3 a4 hrn hfu hcr
          obtain ⟨k, p, x, y, ra, rn, rc, cs⟩ := r
          simp only at a0 a1 a2 a3 a4 hcr
          obtain ⟨hf1, hf2⟩ := hfu
          have hf1' : 0 < rn := by rw [← hcr]; exact hf1
          have hf2' : k = 0 → rn = 1 := fun h => by rw [← hcr]; exact hf2 h
          have y0 : ((rn : Int) == 0) = false := by simp; omega
          have HRN := Lib.hid hrn
          clear hf1 hf2 hr hrn
          by_cases hk : k = 0
          · subst hk
            obtain rfl := hf2' rfl
            clear hf2' hf1' hcr
            by_cases h0 : j = 0
            · have hj0 : ((j : Int) == 0) = true := by simp; exact h0
              clear h0
              go_wp2_with fail
              go_quiet (fail)
              go_wp2_with fail
              go_roundw
              case rel => exact ⟨j + 1, by go_num, HJ1.out, below_drewN HBB.out _, below_drewN HB6.out _⟩
              case measure => simp [intOf]; exact HMS.out
            · have hjx := h0
              clear hjx
              obtain ⟨q0, hq0⟩ : ∃ q0, j = q0 + 1 := ⟨j - 1, by omega⟩
              have hj0 : ((j : Int) == 0) = false := by simp; exact h0
              have hqM : q0 < M := by omega
              obtain ⟨y1, _, yi, yw, yj, yk⟩ := idx_facts hq0 (by omega : j ≤ 1001)
              have y2 : (q0 : Int) < (M : Int) := Int.ofNat_lt.2 hqM
              obtain ⟨b0, b1, b2, b3, b4⟩ := rn_cells R_5.out hqM wr HBB.out
              have hql : q0 < L.length := by rw [← HM.out]; exact hqM
              have hrq : ∀ z, (Pl.runs l).getD q0 z = (L.getD q0 default).rn := fun z => by rw [← HLr.out]; exact rn_getD hql z
              have hqn := (R_5.out.2 (L.getD q0 default) (by rw [List.getD_eq_getElem?_getD, List.getElem?_eq_getElem hql]; exact List.getElem_mem hql)).len
              have hfe := Pl.few_at HI1.out (i := q0) (by rw [← HLr.out, List.length_map, ← HM.out, ← hq0]; exact hlt)
              rw [hrq, ← hq0, HRN.out] at hfe
              obtain ⟨qr, hqr⟩ : ∃ r, r = L.getD q0 default := ⟨_, rfl⟩
              rw [← hqr] at b0 b1 b2 b3 b4 hqn hfe
              obtain ⟨qk, qp, qx, qy, qa, qn, qc, qcs⟩ := qr
              simp only at b0 b1 b2 b3 b4 hqn
              have HFE := Lib.hid hfe
              clear hrq hqr hql hq0 h0 hqM hfe
              by_cases e1 : qk = 0
              · rw [e1] at b0 HFE
                clear e1
                have hgd := fun x1 y1 w => guard_id .neq x1 y1 #[.int .u32 qx, .int .u64 qy] #[.int .u32 x, .int .u64 y] w
                have hq := fun w => neq_id qx qy x y w
                by_cases e2 : qx = x ∧ qy = y
                · rw [decide_eq_true e2] at hq
                  have HFEW := Lib.hid (show ¬ Pl.RFol ⟨0, qp, x, y, qcs⟩ ⟨0, p, x, y, cs⟩ by have h := HFE.out; rw [e2.1, e2.2] at h; exact h)
                  clear e2
                  go_wp2_with fail
                  go_quiet (fail)
                  go_wp2_with fail
                  go_roundw
                  case rel => exact ⟨j + 1, by go_num, HJ1.out, below_drewN HBB.out _, below_drewN HB6.out _⟩
                  case measure => simp [intOf]; exact HMS.out
                · rw [decide_eq_false e2] at hq
                  clear e2
                  go_wp2_with fail
                  go_quiet (fail)
                  go_wp2_with fail
                  go_roundw
                  case rel => exact ⟨j + 1, by go_num, HJ1.out, below_drewN HBB.out _, below_drewN HB6.out _⟩
                  case measure => simp [intOf]; exact HMS.out
              · have hne : (qk != 0) = true := by simpa using e1
                go_wp2_with fail
                go_quiet (fail)
                go_wp2_with fail
                go_roundw
                case rel => exact ⟨j + 1, by go_num, HJ1.out, below_drewN HBB.out _, below_drewN HB6.out _⟩
                case measure => simp [intOf]; exact HMS.out
          · have hk0 : (k == 0) = false := by simpa using hk
            clear hf2' hf1' hcr
            by_cases h0 : j = 0
            · have hj0 : ((j : Int) == 0) = true := by simp; exact h0
              clear h0
              go_wp2_with fail
              go_quiet (fail)
              go_wp2_with fail
              go_roundw
              case rel => exact ⟨j + 1, by go_num, HJ1.out, below_drewN HBB.out _, below_drewN HB6.out _⟩
              case measure => simp [intOf]; exact HMS.out
            · have hjx := h0
              clear hjx
              obtain ⟨q0, hq0⟩ : ∃ q0, j = q0 + 1 := ⟨j - 1, by omega⟩
              have hj0 : ((j : Int) == 0) = false := by simp; exact h0
              have hqM : q0 < M := by omega
              obtain ⟨y1, _, yi, yw, yj, yk⟩ := idx_facts hq0 (by omega : j ≤ 1001)
              have y2 : (q0 : Int) < (M : Int) := Int.ofNat_lt.2 hqM
              obtain ⟨b0, b1, b2, b3, b4⟩ := rn_cells R_5.out hqM wr HBB.out
              have hql : q0 < L.length := by rw [← HM.out]; exact hqM
              have hrq : ∀ z, (Pl.runs l).getD q0 z = (L.getD q0 default).rn := fun z => by rw [← HLr.out]; exact rn_getD hql z
              have hqn := (R_5.out.2 (L.getD q0 default) (by rw [List.getD_eq_getElem?_getD, List.getElem?_eq_getElem hql]; exact List.getElem_mem hql)).len
              have hfe := Pl.few_at HI1.out (i := q0) (by rw [← HLr.out, List.length_map, ← HM.out, ← hq0]; exact hlt)
              rw [hrq, ← hq0, HRN.out] at hfe
              obtain ⟨qr, hqr⟩ : ∃ r, r = L.getD q0 default := ⟨_, rfl⟩
              rw [← hqr] at b0 b1 b2 b3 b4 hqn hfe
              obtain ⟨qk, qp, qx, qy, qa, qn, qc, qcs⟩ := qr
              simp only at b0 b1 b2 b3 b4 hqn
              have HFE := Lib.hid hfe
              clear hrq hqr hql hq0 h0 hqM hfe
              by_cases e1 : qk = k
              · rw [e1] at b0 HFE
                clear e1
                have hgd := fun x1 y1 w => guard_id .neq x1 y1 #[.int .u32 qx, .int .u64 qy] #[.int .u32 x, .int .u64 y] w
                have hq := fun w => neq_id qx qy x y w
                by_cases e2 : qx = x ∧ qy = y
                · rw [decide_eq_true e2] at hq
                  have HFEW := Lib.hid (show ¬ Pl.RFol ⟨k, qp, x, y, qcs⟩ ⟨k, p, x, y, cs⟩ by have h := HFE.out; rw [e2.1, e2.2] at h; exact h)
                  clear e2
                  have hfew := HFEW.out
                  have hpE : p ≠ Pl.posAt ⟨k, qp, x, y, qcs⟩ qcs.length := fun h => hfew ⟨rfl, rfl, rfl, hk, h⟩
                  rw [hqn] at hpE
                  clear hfew
                  by_cases hk1 : k = 1
                  · subst hk1
                    obtain ⟨E, hE⟩ : ∃ E, E = wrap64 (qp + (qn : Int)) := ⟨_, rfl⟩
                    have hp0 : (p == E) = false := by
                      have e : Pl.posAt ⟨1, qp, x, y, qcs⟩ qn = E := by rw [hE]; rfl
                      rw [e] at hpE
                      simpa using hpE
                    have hE1 := hE.symm
                    clear hpE hE hqn hk0
                    go_wp2_with fail
                    go_quiet (fail)
                    go_wp2_with fail
                    go_roundw
                    case rel => exact ⟨j + 1, by go_num, HJ1.out, below_drewN HBB.out _, below_drewN HB6.out _⟩
                    case measure => simp [intOf]; exact HMS.out
                  · have hp0 : (p == qp) = false := by
                      have e : Pl.posAt ⟨k, qp, x, y, qcs⟩ qn = qp := by unfold Pl.posAt; rw [if_neg hk1]
                      rw [e] at hpE
                      simpa using hpE
                    have hk10 : (k == 1) = false := by simpa using hk1
                    clear hpE hqn hk1
                    go_wp2_with fail
                    go_quiet (fail)
                    go_wp2_with fail
                    go_roundw
                    case rel => exact ⟨j + 1, by go_num, HJ1.out, below_drewN HBB.out _, below_drewN HB6.out _⟩
                    case measure => simp [intOf]; exact HMS.out
                · rw [decide_eq_false e2] at hq
                  clear e2
                  go_wp2_with fail
                  go_quiet (fail)
                  go_wp2_with fail
                  go_roundw
                  case rel => exact ⟨j + 1, by go_num, HJ1.out, below_drewN HBB.out _, below_drewN HB6.out _⟩
                  case measure => simp [intOf]; exact HMS.out
              · have hne : (qk != k) = true := by simpa using e1
                go_wp2_with fail
                go_quiet (fail)
                go_wp2_with fail
                go_roundw
                case rel => exact ⟨j + 1, by go_num, HJ1.out, below_drewN HBB.out _, below_drewN HB6.out _⟩
                case measure => simp [intOf]; exact HMS.out
        · obtain rfl : M = j := by omega
          clear HI1 HI2 HI3 HI4 HI6
          go_wp2_with fail
          refine (awake_any wr).mono ?_
          rintro e w6 ⟨rfl, hb⟩
          have HB7 := Lib.hid (below_then' HB6.out hb HB6.out.size)
          clear hb
          go_wp2_with fail
          go_ret
          exact ⟨rfl, HB7.out⟩
end editBack
end Go.Proofs.Ythnenmglmebljaa
