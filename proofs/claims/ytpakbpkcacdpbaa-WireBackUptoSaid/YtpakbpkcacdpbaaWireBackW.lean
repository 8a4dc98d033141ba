/-
  The walk of copybooklaw03.WireBack: it returns true for every list of things, every cut and at most 2^20 bytes behind, and turns nothing that was there.
-/
import Derived.Test.YtpakbpkcacdpbaaWireBackC
namespace Go.Proofs.Ytpakbpkcacdpbaa.wireBack
open Go.RowKit

/-- l[:k] of things -/
theorem slice_things (A : Option Addr) (n c k : Nat) (hk : k ≤ c) : ∀ w', (Instr.sliceAt 22 (.slice A n c) none (some (.int .i64 (k : Int))) none).run Try.prog w' = .ok (.slice A k c) w' := by
  intro w'
  have hu : Try.prog.underlying 22 = some (.slice (Try.prog.elem 22)) := by rw [Try.underlying22]; rfl
  have hinfo : (Try.prog.info? (Try.prog.elem 22)).map (fun i => i.size) = some 3 := by kernel_rfl
  obtain ⟨i0, hi, _⟩ : ∃ i, Try.prog.info? (Try.prog.elem 22) = some i ∧ True := by
    cases h : Try.prog.info? (Try.prog.elem 22) with
    | none => rw [h] at hinfo; cases hinfo
    | some i => exact ⟨i, rfl, trivial⟩
  rw [run_sliceAt_slice w' _ _ _ _ _ hu, run_slice_h w' 22 A n c hu .i64 (k : Int) (by omega) (by omega), run_sizeOf w' hi]
  simp only [Result.andThen, sliced, Int.toNat_natCast, Nat.zero_mul, Nat.sub_zero]
  congr 2
  split
  · rfl
  · cases A <;> rfl

/-- the first loop: what is left of the whole record -/
def Rel1 (w : World) (n p : Nat) (F : Nat → Prop) (l : List Thg) (bb : List Nat) (i : Value) (wr : World) : Prop :=
  ∃ j : Nat, i = .int .i64 (j : Int) ∧ j ≤ n ∧ Rd wr (some ⟨p, 0, none⟩) F (recs (l.drop j) ++ bb) 0 ∧ Below w.heap.size w wr
/-- the second loop: what is left of the beginning -/
def Rel2 (w : World) (n p : Nat) (F : Nat → Prop) (l : List Thg) (i : Value) (wr : World) : Prop :=
  ∃ j kk : Nat, i = .int .i64 (j : Int) ∧ j ≤ n ∧ kk < (recs (l.drop j)).length ∧ Rd wr (some ⟨p, 0, none⟩) F ((recs (l.drop j)).take kk) 0 ∧ Below w.heap.size w wr
theorem recs_len (l : List Thg) (hU : ∀ t ∈ l, Pl.U t.n) : (recs l).length ≤ 310 * l.length := by
  induction l with
  | nil => simp [recs]
  | cons t r ih =>
    have h1 := thg_len t (hU t (List.mem_cons_self ..))
    have h2 := ih fun x hx => hU x (List.mem_cons_of_mem _ hx)
    have h3 : recs (t :: r) = thg t ++ recs r := by simp [recs]
    rw [h3, List.length_append, List.length_cons]
    omega
theorem drop_len (l : List Thg) (j : Nat) (hU : ∀ t ∈ l, Pl.U t.n) (h : l.length ≤ 60) : (recs (l.drop j)).length ≤ 18600 := by
  have := recs_len (l.drop j) (fun t ht => hU t (List.mem_of_mem_drop ht))
  rw [List.length_drop] at this
  omega

set_option maxRecDepth 100000 in
set_option maxHeartbeats 8000000 in
theorem walk (w : World) (A0 : Option Addr) (n c0 : Nat) (l0 : List Thg) (hT0 : Things w w.heap.size A0 n c0 l0) (C : Nat) (hC : C < 65536) (Ab : Option Addr) (nb cb : Nat) (bb : List Nat) (hBb : Bys w w.heap.size Ab nb cb bb) (hnb : nb ≤ 1048576) :
    Calls Try.prog 5 #[.slice A0 n c0, .int .u16 (C : Int), .slice Ab nb cb] w fun e w' => e = .returned (.bool true) ∧ Below w.heap.size w w' := by
  have hn := hT0.2.1
  have hcl := hT0.2.2.1
  unfold maxLen at hcl
  obtain ⟨K, hK1, hK2, _, hmin0⟩ := min_run n 60
  have hmin : ∀ (w' : World) (ts : Array TypeId) (t : TypeId), (Builtin.min_ ts t #[.int .i64 (n : Int), .int .i64 60]).run Try.prog w' = .ok (.int .i64 (K : Int)) w' := hmin0
  clear hmin0
  have hsl := slice_things A0 n c0 K (by omega)
  obtain ⟨l, hld⟩ : ∃ l, l = l0.take K := ⟨_, rfl⟩
  have hT : Things w w.heap.size A0 K c0 l := by rw [hld]; exact hT0.upto hK1
  have hll := hT.1
  have hU : ∀ t ∈ l, Pl.U t.n := fun t ht => by
    obtain ⟨i, hi, e⟩ := List.getElem_of_mem ht
    obtain ⟨_, _, _, _, _, _, _, _, _, _, hu, _⟩ := hT.2.2.2 i (by omega)
    rw [List.getD_eq_getElem?_getD, List.getElem?_eq_getElem hi, Option.getD_some, e] at hu
    exact hu
  have hRL := recs_len l hU
  have HDL := Lib.hid (fun j => drop_len l j hU (by omega))
  have HWR := Lib.hid (written_any A0 K c0 l w hT hK2)
  have HT := Lib.hid hT
  have HLL := Lib.hid hll
  have HBb := Lib.hid hBb
  obtain ⟨B, hBd⟩ : ∃ B, B = recs l := ⟨_, rfl⟩
  rw [← hBd] at HWR hRL
  have HBd := Lib.hid hBd
  have hBl : B.length ≤ 18600 := by omega
  have HBL := Lib.hid hBb.len
  clear hT0 hld hT hll hU hBb hBd hRL
  go_enter Try.func5, Try.ntmps5
  go_wp2_with fail
  refine HWR.out.mono ?_
  rintro e w1 ⟨A1, c1, rfl, hV1, hb1⟩
  have z1 := hb1.size
  have hb2 : Below w1.heap.size w1 (w1.alloc (.cells #[] 5)) := (Below.refl _ _).alloc (Nat.le_refl _) _
  have HV1 := Lib.hid hV1
  have HB1 := Lib.hid (hV1.bys.2.below hb2 (Nat.le_refl _))
  have HV2 := Lib.hid (own_lit w1 [] (fun x hx => by cases hx) (by simp)).toV
  clear hV1
  go_wp2_with (at_builtin; refine wpList_append_bys _ rfl (.tmp 21) (.tmp 22) rfl w1.heap.size _ _ _ [] rfl HV2.out w1.heap.size _ _ _ B rfl HB1.out (by omega) (by simp) ?_)
  intro A3 c3 w3 hV3 hg3 hx3 hy3
  have hb3 : Below w1.heap.size w1 w3 := below_append HV2.out hg3 hb2 (by simp)
  have hV3 : OwnV w3 w1.heap.size (.slice A3 B.length c3) B := by simpa using hV3
  have z3 := hb3.size
  have hb3' : Below w.heap.size w w3 := hb1.trans (hb3.mono z1)
  have HV3 := Lib.hid hV3
  have HBb3 := Lib.hid (HBb.out.below hb3' (Nat.le_refl _))
  clear hg3 hx3 hy3 hb2 HB1 HV2 hV3
  go_wp2_with (at_builtin; refine wpList_append_bys _ rfl (.tmp 23) (.tmp 24) rfl w1.heap.size _ _ _ B rfl HV3.out w.heap.size _ _ _ bb rfl HBb3.out (by omega) z3 ?_)
  intro A4 c4 w4 hV4 hg4 hx4 hy4
  have hb4 : Below w1.heap.size w1 w4 := below_append HV3.out hg4 hb3 z3
  have z4 := hb4.size
  obtain ⟨D, hDd⟩ : ∃ D, D = B ++ bb := ⟨_, rfl⟩
  rw [← hDd] at hV4
  have hDl : D.length = B.length + nb := by rw [hDd, List.length_append, HBL.out]
  have HN := Lib.hid (new_any A4 (B.length + nb) c4 D w4 hV4.bys.2 (by omega))
  have HDD := Lib.hid hDd
  clear hg4 hx4 hy4 hV4 hb3 hb3' HV3 HBb3 hDd hDl
  go_wp2_with fail
  refine HN.out.mono ?_
  rintro e w5 ⟨p, F, rfl, hR5, hb5, hF5⟩
  have z5 := hb5.size
  have hb5' : Below w1.heap.size w1 w5 := hb4.trans (hb5.mono z4)
  have hb5w : Below w.heap.size w w5 := hb1.trans (hb5'.mono z1)
  have HV5 := Lib.hid (HV1.out.below hb5' (fun g hg => (HV1.out.lt g hg).2))
  have HR5 := Lib.hid hR5
  have hpF := hR5.pt
  have HPF := Lib.hid (fun b (hb : Pt (some ⟨p, 0, none⟩) b) => (by have := hF5 b (hpF b hb); omega : w1.heap.size ≤ b))
  have HFA := Lib.hid (fun b (hb : F b) => (by have := hF5 b hb; omega : w.heap.size ≤ b))
  clear hR5 hF5 hb4 hb5 hpF HN HWR hmin hsl
  go_wp2_with fail
  go_loopw [29] (fun i wr => Rel1 w1 K p F l bb i wr) (fun i _ => K - (intOf i).toNat)
  case atStart => exact ⟨0, rfl, by omega, by rw [List.drop_zero, ← HBd.out, ← HDD.out]; exact HR5.out, hb5'⟩
  case round =>
    obtain ⟨j, rfl, hj, hR, hb⟩ := hrel
    have z := hb.size
    have hbw : Below w.heap.size w wr := hb1.trans (hb.mono z1)
    by_cases hlt : j < K
    · obtain ⟨g, o, A', m, c', rfl, hg, x0, hI0, x1, hU1, x2, hB2⟩ := (HT.out.below hbw (Nat.le_refl _)).2.2.2 j hlt
      obtain ⟨t, ht⟩ : ∃ t, t = l.getD j default := ⟨_, rfl⟩
      have hat := recs_at l j (by rw [HLL.out]; exact hlt)
      rw [← ht] at x0 hI0 x1 hU1 hB2 hat
      have hdl := HDL.out j
      rw [hat, List.append_assoc] at hR
      have hrl : (thg t ++ (recs (l.drop (j + 1)) ++ bb)).length ≤ 140737488355328 := by
        rw [← List.append_assoc, ← hat, List.length_append, HBL.out]; omega
      obtain ⟨what, N, ts⟩ := t
      simp only at x0 hI0 x1 hU1 hB2
      have hap : Apart F A' m := fun h0 ad e hf => by
        obtain ⟨g', o', e', hg', _⟩ := hB2.at_ h0
        rw [e] at e'
        cases e'
        have := HFA.out _ hf
        simp at this
        omega
      have hb6 : Below wr.heap.size wr (wr.alloc (.cells #[.int .i64 what, .int .u64 (N : Int), .slice A' m c'] 29)) := (Below.refl _ _).alloc (Nat.le_refl _) _
      have HC := Lib.hid (reads_good (recs (l.drop (j + 1)) ++ bb) (hR.below hb6) ((hB2.below (hb6.mono (by have := hbw.size; omega)) (Nat.le_refl _)).more (by have := hb6.size; have := hbw.size; omega)) hU1 hap hrl)
      have H6 := Lib.hid (hb.trans (hb6.mono z))
      clear hR hB2 hat hdl hrl hap hb6 ht hb hbw
      go_wp2_with fail
      refine HC.out.mono ?_
      rintro e w7 ⟨rfl, hR7, hT7⟩
      have HE := Lib.hid (err_any _ F _ 0 w7 hR7)
      have H7 := Lib.hid (And.intro hR7 (hT7.below H6.out (by have := H6.out.size; exact this) HPF.out))
      clear hR7 hT7 HC H6 x0 x1 x2
      go_wp2_with fail
      refine HE.out.mono ?_
      rintro e w' ⟨rfl, rfl⟩
      go_wp2_with fail
      go_roundw
      case rel => exact ⟨j + 1, by go_num, by omega, H7.out.1, H7.out.2⟩
      case measure => simp [intOf]; omega
    · have hge : K ≤ j := by omega
      rw [List.drop_of_length_le (by rw [HLL.out]; exact hge), show recs [] ++ bb = bb from rfl] at hR
      have hLF := left_any _ F bb 0 wr hR
      rw [HBL.out] at hLF
      have HLF := Lib.hid hLF
      have HEN := Lib.hid (fun w' (h : Rd w' (some ⟨p, 0, none⟩) F bb 0) => end_any _ F bb 0 w' h)
      have H8 := Lib.hid (And.intro hR hb)
      clear hR hLF hb hbw
      go_wp2_with fail
      refine HLF.out.mono ?_
      rintro e w' ⟨rfl, nd, rfl⟩
      have HEQ := Lib.hid (HEN.out (wr.drewN nd) (show Rd (wr.drewN nd) _ F bb 0 from H8.out.1))
      by_cases h0 : nb = 0
      · have hre : Pl.re_ bb 0 = ([], 0) := by
          have : bb = [] := List.eq_nil_of_length_eq_zero (by rw [HBL.out]; exact h0)
          rw [this]; rfl
        rw [hre] at HEQ
        subst h0
        clear hre
        go_wp2_with fail
        refine HEQ.out.mono ?_
        rintro e w9 ⟨rfl, hR9, hT9⟩
        have hb8 := H8.out.2
        have hb9 : Below w1.heap.size w1 w9 := hT9.below ⟨hb8.os, hb8.tape, hb8.output, hb8.size, hb8.block⟩ z HPF.out
        clear hb8
        clear hR9 hT9 HEQ HEN HLF H8
        have z9 := hb9.size
        have hb9w : Below w.heap.size w w9 := hb1.trans (hb9.mono z1)
        by_cases hB0 : B.length = 0
        · have H9 := Lib.hid hb9w
          clear hb9 hb9w
          go_wp2_with fail
          refine (awake_any w9).mono ?_
          rintro e wa ⟨rfl, hba⟩
          go_wp2_with fail
          go_ret
          exact ⟨rfl, H9.out.trans (hba.mono (by omega))⟩
        · have hbB : ((B.length : Int) == 0) = false := by rw [beq_eq_false_iff_ne]; omega
          have hBp : 1 ≤ B.length := by omega
          obtain ⟨K2, hK2d⟩ : ∃ K2, K2 = C % B.length := ⟨_, rfl⟩
          have hrem : (C : Int) % (B.length : Int) = (K2 : Int) := by rw [hK2d]; simp
          have hK2l : K2 < B.length := by rw [hK2d]; exact Nat.mod_lt _ (by omega)
          have hV9 := HV1.out.below hb9 (fun g hg => (HV1.out.lt g hg).2)
          have hB9 := hV9.bys.2
          have hsl2 := slice_to A1 B.length c1 K2 (by have := hB9.le; omega)
          have HN2 := Lib.hid (new_any A1 K2 c1 (B.take K2) w9 (hB9.upto (by omega)) (by omega))
          have H9 := Lib.hid (And.intro hb9 hb9w)
          clear hK2d hV9 hB9 hB0 hb9 hb9w
          go_wp2_with fail
          refine HN2.out.mono ?_
          rintro e w10 ⟨p2, F2, rfl, hR10, hb10, hF10⟩
          obtain ⟨hb9, hb9w⟩ := H9.out
          have hbA : Below w.heap.size w w10 := hb9w.trans (hb10.mono (by omega))
          have hpF2 := hR10.pt
          have HPF2 := Lib.hid (fun b (hb : Pt (some ⟨p2, 0, none⟩) b) => (by have := hF10 b (hpF2 b hb); omega : w.heap.size ≤ b))
          have HFA2 := Lib.hid (fun b (hb : F2 b) => (by have := hF10 b hb; omega : w.heap.size ≤ b))
          have H10 := Lib.hid (And.intro hR10 hbA)
          clear hb9 hb9w hb10 hR10 hbA hF10 hpF2 HN2 hsl2 hrem H9 hbB
          go_wp2_with fail
          go_loopw [81] (fun i wr => Rel2 w K p2 F2 l i wr) (fun i _ => K - (intOf i).toNat)
          case atStart => exact ⟨0, K2, rfl, by omega, by rw [List.drop_zero, ← HBd.out]; exact hK2l, by rw [List.drop_zero, ← HBd.out]; exact H10.out.1, H10.out.2⟩
          case round =>
            obtain ⟨j2, kk, rfl, hj2, hkk, hR, hb⟩ := hrel
            obtain ⟨wp, rfl⟩ : ∃ wp : World, wp = wr := ⟨_, rfl⟩
            have zz := hb.size
            by_cases hlt2 : j2 < K
            · obtain ⟨g2, o2, A2', m2, c2', eL, hg2, y0, hJ0, y1, hV1', y2, hB2⟩ := (HT.out.below hb (Nat.le_refl _)).2.2.2 j2 hlt2
              subst eL
              obtain ⟨t, ht⟩ : ∃ t, t = l.getD j2 default := ⟨_, rfl⟩
              have hat := recs_at l j2 (by rw [HLL.out]; exact hlt2)
              rw [← ht] at y0 hJ0 y1 hV1' hB2 hat
              have hdl := HDL.out j2
              rw [hat, List.length_append] at hkk hdl
              rw [hat] at hR
              have HTL := Lib.hid (thg_len t hV1')
              obtain ⟨what2, N2, ts2⟩ := t
              simp only at y0 hJ0 y1 hV1' hB2
              have hap : Apart F2 A2' m2 := fun h0 ad e hf => by
                obtain ⟨g', o', e', hg', _⟩ := hB2.at_ h0
                rw [e] at e'
                cases e'
                have := HFA2.out _ hf
                simp at this
                omega
              have hb6 : Below wp.heap.size wp (wp.alloc (.cells #[.int .i64 what2, .int .u64 (N2 : Int), .slice A2' m2 c2'] 29)) := (Below.refl _ _).alloc (Nat.le_refl _) _
              have hB6 := (hB2.below (hb6.mono zz) (Nat.le_refl _)).more (Nat.le_trans zz hb6.size)
              have H6 := Lib.hid (hb.trans (hb6.mono zz))
              by_cases hcut : kk < (thg ⟨what2, N2, ts2⟩).length
              · rw [List.take_append_of_le_length (by omega)] at hR
                have HC := Lib.hid (reads_short kk hcut (hR.below hb6) hB6 hV1' hap)
                clear hR hB2 hat hdl hap hb6 ht hb hB6 hkk hcut
                go_wp2_with fail
                refine HC.out.mono ?_
                rintro e w7 ⟨bv, rfl, hR7, hT7⟩
                have hb7 := hT7.below H6.out (by have := H6.out.size; exact this) HPF2.out
                have HE := Lib.hid (err_any _ F2 _ 4 w7 hR7)
                have H7 := Lib.hid (And.intro hR7 hb7)
                clear hR7 hT7 HC H6 y0 y1 y2 hb7
                go_wp2_with fail
                refine HE.out.mono ?_
                rintro e w' ⟨rfl, rfl⟩
                go_wp2_with fail
                refine (awake_any w7).mono ?_
                rintro e wa ⟨rfl, hba⟩
                obtain ⟨hR7, hb7⟩ := H7.out
                have hRa := hR7.below hba
                have hbA := hb7.trans (hba.mono hb7.size)
                have HEa := Lib.hid (err_any _ F2 _ 4 wa hRa)
                have HLa := Lib.hid (left_any _ F2 _ 4 wa hRa)
                have HNa := Lib.hid (fun w' (h : Rd w' (some ⟨p2, 0, none⟩) F2 [] 4) => rnum_any _ F2 _ 4 w' h)
                have hrn : Pl.rn [] 4 = (0, [], 4) := by decide
                rw [hrn] at HNa
                have HRA := Lib.hid hRa
                clear hR7 hb7 hba hRa hrn
                go_wp2_with fail
                refine HEa.out.mono ?_
                rintro e w' ⟨rfl, rfl⟩
                go_wp2_with fail
                refine HLa.out.mono ?_
                rintro e w' ⟨rfl, nd, rfl⟩
                have HNb := Lib.hid (HNa.out (wa.drewN nd) (show Rd (wa.drewN nd) _ F2 [] 4 from HRA.out))
                go_wp2_with fail
                refine HNb.out.mono ?_
                rintro e wz ⟨rfl, _, hTz⟩
                have hbz : Below w.heap.size w wz := hTz.below ⟨hbA.os, hbA.tape, hbA.output, hbA.size, hbA.block⟩ hbA.size HPF2.out
                clear hTz hbA
                go_wp2_with fail
                go_ret
                exact ⟨rfl, hbz⟩
              · rw [List.take_append, List.take_of_length_le (by omega)] at hR
                have HC := Lib.hid (reads_good ((recs (l.drop (j2 + 1))).take (kk - (thg ⟨what2, N2, ts2⟩).length)) (hR.below hb6) hB6 hV1' hap (by rw [List.length_append, List.length_take]; have := HTL.out; omega))
                have HKK := Lib.hid (show kk - (thg ⟨what2, N2, ts2⟩).length < (recs (l.drop (j2 + 1))).length by omega)
                clear hR hB2 hat hdl hap hb6 ht hb hB6 hkk hcut
                go_wp2_with fail
                refine HC.out.mono ?_
                rintro e w7 ⟨rfl, hR7, hT7⟩
                have hb7 := hT7.below H6.out (by have := H6.out.size; exact this) HPF2.out
                have HE := Lib.hid (err_any _ F2 _ 0 w7 hR7)
                have H7 := Lib.hid (And.intro hR7 hb7)
                clear hR7 hT7 HC H6 y0 y1 y2 hb7
                go_wp2_with fail
                refine HE.out.mono ?_
                rintro e w' ⟨rfl, rfl⟩
                go_wp2_with fail
                go_roundw
                case rel => exact ⟨j2 + 1, _, by go_num, by omega, HKK.out, H7.out.1, H7.out.2⟩
                case measure => simp [intOf]; omega
            · exfalso
              rw [List.drop_of_length_le (by rw [HLL.out]; omega)] at hkk
              simp [recs] at hkk
      · have hre : Pl.re_ bb 0 = ([], 3) := by
          have : bb ≠ [] := fun e => h0 (by rw [← HBL.out, e]; rfl)
          simp [Pl.re_, this]
        rw [hre] at HEQ
        have hp0 : 0 < nb := by omega
        have hbne : ((nb : Int) == 0) = false := by rw [beq_eq_false_iff_ne]; omega
        clear hre h0
        go_wp2_with fail
        refine HEQ.out.mono ?_
        rintro e w9 ⟨rfl, hR9, hT9⟩
        have hb8 := H8.out.2
        have hb9 : Below w1.heap.size w1 w9 := hT9.below ⟨hb8.os, hb8.tape, hb8.output, hb8.size, hb8.block⟩ z HPF.out
        clear hb8
        have HE9 := Lib.hid (err_any _ F [] 3 w9 hR9)
        clear hR9 hT9 HEQ HEN HLF H8
        go_wp2_with fail
        refine HE9.out.mono ?_
        rintro e w' ⟨rfl, rfl⟩
        have z9 := hb9.size
        have hb9w : Below w.heap.size w w9 := hb1.trans (hb9.mono z1)
        by_cases hB0 : B.length = 0
        · have H9 := Lib.hid hb9w
          clear hb9 hb9w
          go_wp2_with fail
          refine (awake_any w9).mono ?_
          rintro e wa ⟨rfl, hba⟩
          go_wp2_with fail
          go_ret
          exact ⟨rfl, H9.out.trans (hba.mono (by omega))⟩
        · have hbB : ((B.length : Int) == 0) = false := by rw [beq_eq_false_iff_ne]; omega
          have hBp : 1 ≤ B.length := by omega
          obtain ⟨K2, hK2d⟩ : ∃ K2, K2 = C % B.length := ⟨_, rfl⟩
          have hrem : (C : Int) % (B.length : Int) = (K2 : Int) := by rw [hK2d]; simp
          have hK2l : K2 < B.length := by rw [hK2d]; exact Nat.mod_lt _ (by omega)
          have hV9 := HV1.out.below hb9 (fun g hg => (HV1.out.lt g hg).2)
          have hB9 := hV9.bys.2
          have hsl2 := slice_to A1 B.length c1 K2 (by have := hB9.le; omega)
          have HN2 := Lib.hid (new_any A1 K2 c1 (B.take K2) w9 (hB9.upto (by omega)) (by omega))
          have H9 := Lib.hid (And.intro hb9 hb9w)
          clear hK2d hV9 hB9 hB0 hb9 hb9w
          go_wp2_with fail
          refine HN2.out.mono ?_
          rintro e w10 ⟨p2, F2, rfl, hR10, hb10, hF10⟩
          obtain ⟨hb9, hb9w⟩ := H9.out
          have hbA : Below w.heap.size w w10 := hb9w.trans (hb10.mono (by omega))
          have hpF2 := hR10.pt
          have HPF2 := Lib.hid (fun b (hb : Pt (some ⟨p2, 0, none⟩) b) => (by have := hF10 b (hpF2 b hb); omega : w.heap.size ≤ b))
          have HFA2 := Lib.hid (fun b (hb : F2 b) => (by have := hF10 b hb; omega : w.heap.size ≤ b))
          have H10 := Lib.hid (And.intro hR10 hbA)
          clear hb9 hb9w hb10 hR10 hbA hF10 hpF2 HN2 hsl2 hrem H9 hbB
          go_wp2_with fail
          go_loopw [81] (fun i wr => Rel2 w K p2 F2 l i wr) (fun i _ => K - (intOf i).toNat)
          case atStart => exact ⟨0, K2, rfl, by omega, by rw [List.drop_zero, ← HBd.out]; exact hK2l, by rw [List.drop_zero, ← HBd.out]; exact H10.out.1, H10.out.2⟩
          case round =>
            obtain ⟨j2, kk, rfl, hj2, hkk, hR, hb⟩ := hrel
            obtain ⟨wp, rfl⟩ : ∃ wp : World, wp = wr := ⟨_, rfl⟩
            have zz := hb.size
            by_cases hlt2 : j2 < K
            · obtain ⟨g2, o2, A2', m2, c2', eL, hg2, y0, hJ0, y1, hV1', y2, hB2⟩ := (HT.out.below hb (Nat.le_refl _)).2.2.2 j2 hlt2
              subst eL
              obtain ⟨t, ht⟩ : ∃ t, t = l.getD j2 default := ⟨_, rfl⟩
              have hat := recs_at l j2 (by rw [HLL.out]; exact hlt2)
              rw [← ht] at y0 hJ0 y1 hV1' hB2 hat
              have hdl := HDL.out j2
              rw [hat, List.length_append] at hkk hdl
              rw [hat] at hR
              have HTL := Lib.hid (thg_len t hV1')
              obtain ⟨what2, N2, ts2⟩ := t
              simp only at y0 hJ0 y1 hV1' hB2
              have hap : Apart F2 A2' m2 := fun h0 ad e hf => by
                obtain ⟨g', o', e', hg', _⟩ := hB2.at_ h0
                rw [e] at e'
                cases e'
                have := HFA2.out _ hf
                simp at this
                omega
              have hb6 : Below wp.heap.size wp (wp.alloc (.cells #[.int .i64 what2, .int .u64 (N2 : Int), .slice A2' m2 c2'] 29)) := (Below.refl _ _).alloc (Nat.le_refl _) _
              have hB6 := (hB2.below (hb6.mono zz) (Nat.le_refl _)).more (Nat.le_trans zz hb6.size)
              have H6 := Lib.hid (hb.trans (hb6.mono zz))
              by_cases hcut : kk < (thg ⟨what2, N2, ts2⟩).length
              · rw [List.take_append_of_le_length (by omega)] at hR
                have HC := Lib.hid (reads_short kk hcut (hR.below hb6) hB6 hV1' hap)
                clear hR hB2 hat hdl hap hb6 ht hb hB6 hkk hcut
                go_wp2_with fail
                refine HC.out.mono ?_
                rintro e w7 ⟨bv, rfl, hR7, hT7⟩
                have hb7 := hT7.below H6.out (by have := H6.out.size; exact this) HPF2.out
                have HE := Lib.hid (err_any _ F2 _ 4 w7 hR7)
                have H7 := Lib.hid (And.intro hR7 hb7)
                clear hR7 hT7 HC H6 y0 y1 y2 hb7
                go_wp2_with fail
                refine HE.out.mono ?_
                rintro e w' ⟨rfl, rfl⟩
                go_wp2_with fail
                refine (awake_any w7).mono ?_
                rintro e wa ⟨rfl, hba⟩
                obtain ⟨hR7, hb7⟩ := H7.out
                have hRa := hR7.below hba
                have hbA := hb7.trans (hba.mono hb7.size)
                have HEa := Lib.hid (err_any _ F2 _ 4 wa hRa)
                have HLa := Lib.hid (left_any _ F2 _ 4 wa hRa)
                have HNa := Lib.hid (fun w' (h : Rd w' (some ⟨p2, 0, none⟩) F2 [] 4) => rnum_any _ F2 _ 4 w' h)
                have hrn : Pl.rn [] 4 = (0, [], 4) := by decide
                rw [hrn] at HNa
                have HRA := Lib.hid hRa
                clear hR7 hb7 hba hRa hrn
                go_wp2_with fail
                refine HEa.out.mono ?_
                rintro e w' ⟨rfl, rfl⟩
                go_wp2_with fail
                refine HLa.out.mono ?_
                rintro e w' ⟨rfl, nd, rfl⟩
                have HNb := Lib.hid (HNa.out (wa.drewN nd) (show Rd (wa.drewN nd) _ F2 [] 4 from HRA.out))
                go_wp2_with fail
                refine HNb.out.mono ?_
                rintro e wz ⟨rfl, _, hTz⟩
                have hbz : Below w.heap.size w wz := hTz.below ⟨hbA.os, hbA.tape, hbA.output, hbA.size, hbA.block⟩ hbA.size HPF2.out
                clear hTz hbA
                go_wp2_with fail
                go_ret
                exact ⟨rfl, hbz⟩
              · rw [List.take_append, List.take_of_length_le (by omega)] at hR
                have HC := Lib.hid (reads_good ((recs (l.drop (j2 + 1))).take (kk - (thg ⟨what2, N2, ts2⟩).length)) (hR.below hb6) hB6 hV1' hap (by rw [List.length_append, List.length_take]; have := HTL.out; omega))
                have HKK := Lib.hid (show kk - (thg ⟨what2, N2, ts2⟩).length < (recs (l.drop (j2 + 1))).length by omega)
                clear hR hB2 hat hdl hap hb6 ht hb hB6 hkk hcut
                go_wp2_with fail
                refine HC.out.mono ?_
                rintro e w7 ⟨rfl, hR7, hT7⟩
                have hb7 := hT7.below H6.out (by have := H6.out.size; exact this) HPF2.out
                have HE := Lib.hid (err_any _ F2 _ 0 w7 hR7)
                have H7 := Lib.hid (And.intro hR7 hb7)
                clear hR7 hT7 HC H6 y0 y1 y2 hb7
                go_wp2_with fail
                refine HE.out.mono ?_
                rintro e w' ⟨rfl, rfl⟩
                go_wp2_with fail
                go_roundw
                case rel => exact ⟨j2 + 1, _, by go_num, by omega, HKK.out, H7.out.1, H7.out.2⟩
                case measure => simp [intOf]; omega
            · exfalso
              rw [List.drop_of_length_le (by rw [HLL.out]; omega)] at hkk
              simp [recs] at hkk
end Go.Proofs.Ytpakbpkcacdpbaa.wireBack
