/-
  The walk of copybooklaw05.PieceTyped: it returns true for every text, every place and whatever is typed; nothing that was there turned. No conditions.
-/
import Derived.Test.YtpebkjejjogkkaaPceTypedP
import Derived.Test.YtpebkjejjogkkaaPceT
namespace Go.Proofs.Ytpebkjejjogkkaa.pieceTyped
open Go.RowKit
open Pl (Pc Plc Tab)

/-- typed so far -/
def R1 (w : World) (cs ty : List Int) (pos p : Nat) (i : Value) (wr : World) : Prop := ∃ j : Nat, i = .int .i64 (j : Int) ∧ j ≤ ty.length ∧ Has w.heap.size w p (D cs (ty.take j) pos j) (cs.length + j) wr
/-- counted so far -/
def R2 (w1 : World) (ps : List Pc) (s i : Value) (wr : World) : Prop := ∃ j : Nat, i = .int .i64 (j : Int) ∧ j ≤ ps.length ∧ s = .int .i64 ((cnt (ps.take j) : Nat) : Int) ∧ Below w1.heap.size w1 wr
/-- erased so far -/
def R3 (w : World) (cs ty : List Int) (pos p : Nat) (i : Value) (wr : World) : Prop := ∃ j : Nat, i = .int .i64 (j : Int) ∧ j ≤ ty.length ∧ Has w.heap.size w p (D cs ty pos (ty.length - j)) (cs.length + ty.length) wr

set_option maxRecDepth 100000 in
set_option maxHeartbeats 16000000 in
theorem walk (w : World) (A : Option Addr) (n c : Nat) (cs0 : List Int) (hA : Crs w w.heap.size A n c cs0) (at_ : Nat) (hat : at_ < 65536) (B : Option Addr) (m d : Nat) (ty0 : List Int) (hB : Crs w w.heap.size B m d ty0) :
    Calls Try.prog 5 #[.slice A n c, .int .u16 (at_ : Int), .slice B m d] w fun e w' => e = .returned (.bool true) ∧ Below w.heap.size w w' := by
  obtain ⟨M, hM⟩ : ∃ M, M = min n 300 := ⟨_, rfl⟩
  obtain ⟨K, hK⟩ : ∃ K, K = min m 60 := ⟨_, rfl⟩
  have rM := min_run (n : Int) 300 (M : Int) (by omega)
  have rK := min_run (m : Int) 60 (K : Int) (by omega)
  have sM := slice_toC A n c M (by have := hA.le; omega)
  have sK := slice_toC B m d K (by have := hB.le; omega)
  have HA := Lib.hid (hA.upto (k := M) (by omega))
  have HB := Lib.hid (hB.upto (k := K) (by omega))
  obtain ⟨cs, hcs⟩ : ∃ cs, cs = cs0.take M := ⟨_, rfl⟩
  obtain ⟨ty, hty⟩ : ∃ ty, ty = ty0.take K := ⟨_, rfl⟩
  rw [← hcs] at HA
  rw [← hty] at HB
  have hcl := HA.out.len
  have htl := HB.out.len
  have hMb : M ≤ 300 := by omega
  have hKb : K ≤ 60 := by omega
  have hn9 : n ≤ 9223372036854775807 := by have := hA.le; have := hA.cap; unfold maxLen at *; omega
  have hm9 : m ≤ 9223372036854775807 := by have := hB.le; have := hB.cap; unfold maxLen at *; omega
  have HN := Lib.hid (new_has (base := w.heap.size) (w0 := w) A M c cs w.drew (show Crs w.drew w.drew.heap.size A M c cs from HA.out) (by omega) ((Below.refl _ w).drew) (Nat.le_refl _))
  have HCL := Lib.hid (And.intro hcl htl)
  clear hA hB hcs hty hcl htl hM hK
  go_enter Try.func5, Try.ntmps5
  go_wp2_with fail
  go_region
  clear rM rK sM sK
  go_wp2_with fail
  refine HN.out.mono ?_
  rintro e w1 ⟨p, rfl, hT1, hb1⟩
  have HT1 := Lib.hid hT1
  clear hT1 hb1 HN
  obtain ⟨pos, hpos⟩ : ∃ pos, pos = at_ % (M + 1) := ⟨_, rfl⟩
  have hposM : pos ≤ M := by have := Nat.mod_lt at_ (show 0 < M + 1 by omega); omega
  have hrem : (at_ : Int) % ((M : Int) + 1) = (pos : Int) := by rw [hpos, Int.natCast_emod, Int.natCast_add]; rfl
  have HPOS := Lib.hid hposM
  clear hpos
  go_wp2_with fail
  simp only [hrem]
  clear hrem
  go_loopw [35] (fun i wr => R1 w cs ty pos p i wr) (fun i _ => K - (intOf i).toNat)
  case atStart => exact ⟨0, rfl, Nat.zero_le _, by rw [List.take_zero, ← D_start cs (by rw [HCL.out.1]; exact HPOS.out), Nat.add_zero, HCL.out.1]; exact HT1.out⟩
  case round =>
    obtain ⟨j, rfl, hj, hH⟩ := hrel
    rw [HCL.out.2] at hj
    have HH := Lib.hid hH
    by_cases hlt : j < K
    · obtain ⟨g, o, rfl, hg, hc0⟩ := (HB.out.below hH.bel (Nat.le_refl _)).at_ hlt
      have x0 := hc0 j hlt
      obtain ⟨x, hx⟩ : ∃ x, x = ty.getD j 0 := ⟨_, rfl⟩
      rw [← hx] at x0
      have hxJ : Pl.J x := by rw [hx]; exact HB.out.getJ j
      have hz := hH.bel.size
      obtain ⟨V, hV⟩ : ∃ V, V = wr.alloc (.cells #[.int .i32 x] 29) := ⟨_, rfl⟩
      have hbV : Below wr.heap.size wr V := by rw [hV]; exact below_alloc (Below.refl _ wr) _
      have hO := crs_lit wr [x] (fun y hy => by simp at hy; rw [hy]; exact hxJ) (by simp [maxLen])
      have hS : Crs V V.heap.size (some ⟨wr.heap.size, 0, none⟩) 1 1 [x] := by rw [hV]; exact hO.crs.2
      have HI := Lib.hid (ins_has (hH.grow hbV hz) (Nat.le_trans hz hbV.size) ((pos : Int) + (j : Int)) (Pl.I.mk (by omega)) (some ⟨wr.heap.size, 0, none⟩) 1 1 [x] hS (by have := HCL.out.1; omega))
      have hD := D_ins cs (ty.take j) (pos := pos) (k := j) x (by rw [List.length_take, HCL.out.2]; omega) (by rw [HCL.out.1]; exact HPOS.out)
      rw [hD.1, hD.2] at HI
      have HTY := Lib.hid (show ty.take j ++ [x] = ty.take (j + 1) by
        rw [List.take_add_one, hx, List.getD_eq_getElem?_getD, List.getElem?_eq_getElem (by rw [HCL.out.2]; exact hlt)]; rfl)
      have HV := Lib.hid hV
      have hw : IntKind.i64.wrap ((pos : Int) + (j : Int)) = (pos : Int) + (j : Int) := by simp [IntKind.wrap, IntKind.bits, IntKind.signed]; omega
      clear hc0 hx hxJ hz hV hbV hO hS hD hH
      go_wp2_with fail
      rw [← HV.out]
      refine HI.out.mono ?_
      rintro e w3 ⟨rfl, hT3⟩
      have HT3 := Lib.hid hT3
      clear hT3 HI
      go_wp2_with fail
      go_roundw
      case rel => exact ⟨j + 1, by go_num, by rw [HCL.out.2]; omega, by rw [← HTY.out]; exact HT3.out⟩
      case measure => simp [intOf]; omega
    · have hjn : j = K := by omega
      have HK := Lib.hid (show Has w.heap.size w p (D cs ty pos K) (M + K) wr by
        rw [hjn, ← HCL.out.2, List.take_length, HCL.out.2, HCL.out.1] at hH; exact hH)
      have HPP := Lib.hid (show Calls Try.prog 26 #[.pointer (some ⟨p, 0, none⟩)] wr (RetP wr (Pl.group (D cs ty pos K).L)) by
        obtain ⟨F, h1, _, _⟩ := HK.out
        exact pieces_tb h1)
      have HCNT := Lib.hid (D_cnt cs ty (pos := pos) (k := K) (by rw [HCL.out.1]; exact HPOS.out))
      obtain ⟨ps, hps⟩ : ∃ ps, ps = Pl.group (D cs ty pos K).L := ⟨_, rfl⟩
      rw [← hps] at HPP HCNT
      unfold RetP at HPP
      have hp3 := HCNT.out.2
      obtain ⟨np, hnp⟩ : ∃ k, k = ps.length := ⟨_, rfl⟩
      rw [← hnp] at HPP hp3
      have HNP := Lib.hid (And.intro hps hnp)
      clear hps hjn hH hnp
      go_wp2_with fail
      refine HPP.out.mono ?_
      rintro e w4 ⟨A4, c4, rfl, hO4, hb4⟩
      have HO4 := Lib.hid hO4
      have HB4 := Lib.hid hb4
      clear hO4 hb4
      go_wp2_with fail
      go_loopw [11, 52] (fun s i wr => R2 w4 ps s i wr) (fun _ i _ => np - (intOf i).toNat)
      case atStart => exact ⟨0, rfl, Nat.zero_le _, rfl, Below.refl _ _⟩
      case round =>
        obtain ⟨i, rfl, hi, rfl, hb⟩ := hrel
        rw [← HNP.out.2] at hi
        have HB2 := Lib.hid hb
        by_cases hlt2 : i < np
        · obtain ⟨g, o, rfl, hg, hc0⟩ := Pcs.at_ (Rws.below (OwnR.rws encP_len HO4.out).2 hb (Nat.le_refl _)) hlt2
          obtain ⟨x0, x1, x2⟩ := hc0 i hlt2
          have hct := cnt_take ps i (by rw [← HNP.out.2]; exact hlt2)
          have hctl : cnt (ps.take i) ≤ i := by unfold cnt; exact Nat.le_trans (List.length_filter_le _ _) (by rw [List.length_take]; omega)
          obtain ⟨q, hq⟩ : ∃ q, q = cnt (ps.take i) := ⟨_, rfl⟩
          obtain ⟨q2, hq2⟩ : ∃ q, q = cnt (ps.take (i + 1)) := ⟨_, rfl⟩
          obtain ⟨⟨s, a, l⟩, hx⟩ : ∃ x, x = ps.getD i default := ⟨_, rfl⟩
          rw [← hx] at x0 x1 x2 hct
          rw [← hq] at hct hctl
          rw [← hq2] at hct
          rw [← hq]
          simp only at x0 x1 x2 hct
          have HCT := Lib.hid (And.intro hct hq2)
          clear hc0 hx hq hq2 hct hb
          cases s with
          | true =>
            go_wp2_with fail
            go_roundw
            case rel => exact ⟨i + 1, by go_num, by rw [← HNP.out.2]; omega, by rw [← HCT.out.2, HCT.out.1]; go_num, HB2.out.alloc HB2.out.size _⟩
            case measure => simp [intOf]; omega
          | false =>
            go_wp2_with fail
            go_roundw
            case rel => exact ⟨i + 1, by go_num, by rw [← HNP.out.2]; omega, by rw [← HCT.out.2, HCT.out.1]; go_num, HB2.out.alloc HB2.out.size _⟩
            case measure => simp [intOf]; omega
        · have hin : i = np := by omega
          have hcn : cnt (ps.take i) = min K 1 := by rw [hin, HNP.out.2, List.take_length]; exact HCNT.out.1
          rw [hcn]
          have hz : w.heap.size ≤ w4.heap.size := Nat.le_trans HK.out.bel.size HB4.out.size
          have HS4 := Lib.hid (HK.out.grow (HB4.out.trans (hb.mono HB4.out.size)) HK.out.bel.size)
          have HP2 := Lib.hid (show Calls Try.prog 26 #[.pointer (some ⟨p, 0, none⟩)] wr (RetP wr ps) by
            obtain ⟨F, h1, _, _⟩ := HS4.out
            have := pieces_tb h1
            rwa [← HNP.out.1] at this)
          unfold RetP at HP2
          rw [← HNP.out.2] at HP2
          obtain ⟨k1, hk1⟩ : ∃ k, k = min K 1 := ⟨_, rfl⟩
          have rK1 := min_run (K : Int) 1 (k1 : Int) (by omega)
          have HK1 := Lib.hid hk1
          rw [← hk1]
          clear hin hcn hz hb hk1
          go_wp2_with fail
          refine HP2.out.mono ?_
          rintro e w6 ⟨A6, c6, rfl, _, hb6⟩
          have HS6 := Lib.hid (HS4.out.grow hb6 HS4.out.bel.size)
          clear hb6 HP2
          go_wp2_with fail
          go_loopw [74] (fun i wr => R3 w cs ty pos p i wr) (fun i _ => K - (intOf i).toNat)
          case atStart => exact ⟨0, rfl, Nat.zero_le _, by rw [HCL.out.2, HCL.out.1]; exact HS6.out⟩
          case round =>
            obtain ⟨j, rfl, hj, hH3⟩ := hrel
            rw [HCL.out.2] at hj
            have HH3 := Lib.hid hH3
            rw [HCL.out.2, HCL.out.1] at HH3
            clear hH3
            by_cases hlt3 : j < K
            · obtain ⟨r, hr⟩ : ∃ r, r = K - j - 1 := ⟨_, rfl⟩
              have hjr : K - j = r + 1 := by omega
              have hKr : (K : Int) = (j : Int) + (r : Int) + 1 := by omega
              have hD := D_del cs ty (pos := pos) (k := r) (by rw [HCL.out.1]; exact HPOS.out)
              rw [hjr] at HH3
              have HI := Lib.hid (del_has HH3.out HH3.out.bel.size ((pos : Int) + (r : Int)) 1 (Pl.I.mk (by omega)))
              rw [hD.1, hD.2] at HI
              have HR := Lib.hid (show r = K - (j + 1) by omega)
              have hw1 : (pos : Int) + (K : Int) - 1 - (j : Int) = (pos : Int) + (r : Int) := by omega
              have hw2 : IntKind.i64.wrap ((pos : Int) + (K : Int)) = (pos : Int) + (K : Int) := by simp [IntKind.wrap, IntKind.bits, IntKind.signed]; omega
              have hw3 : IntKind.i64.wrap ((pos : Int) + (K : Int) - 1) = (pos : Int) + (K : Int) - 1 := by simp [IntKind.wrap, IntKind.bits, IntKind.signed]; omega
              have hw4 : IntKind.i64.wrap ((pos : Int) + (K : Int) - 1 - (j : Int)) = (pos : Int) + (r : Int) := by simp [IntKind.wrap, IntKind.bits, IntKind.signed]; omega
              clear hr hjr hKr hD hw1
              go_wp2_with fail
              refine HI.out.mono ?_
              rintro e w7 ⟨rfl, hT7⟩
              have HT7 := Lib.hid hT7
              clear hT7 HI
              go_wp2_with fail
              go_roundw
              case rel => exact ⟨j + 1, by go_num, by rw [HCL.out.2]; omega, by rw [HCL.out.2, HCL.out.1, ← HR.out]; exact HT7.out⟩
              case measure => simp [intOf]; omega
            · have hjn3 : j = K := by omega
              have HE := Lib.hid (show Has w.heap.size w p (D cs ty pos 0) (M + K) wr by
                rw [hjn3, Nat.sub_self] at HH3; exact HH3.out)
              have HEND := Lib.hid (D_end cs ty (pos := pos) (by rw [HCL.out.1]; exact HPOS.out))
              rw [HCL.out.1] at HEND
              clear hjn3 HH3
              go_wp2_with fail
              refine (awake_any wr).mono ?_
              rintro e w8 ⟨rfl, hb8⟩
              have HS8 := Lib.hid (HE.out.grow hb8 HE.out.bel.size)
              clear hb8
              have HTX := Lib.hid (show Calls Try.prog 24 #[.pointer (some ⟨p, 0, none⟩)] w8 (RetC w8 cs) by
                obtain ⟨F, h1, _, _⟩ := HS8.out
                have := text_tb h1
                rwa [HEND.out.1] at this)
              unfold RetC at HTX
              rw [HCL.out.1] at HTX
              go_wp2_with fail
              refine HTX.out.mono ?_
              rintro e w9 ⟨A9, c9, rfl, hO9, hb9⟩
              have HS9 := Lib.hid (HS8.out.grow hb9 HS8.out.bel.size)
              have hEQ := equalC_any A9 A M c9 M c cs cs w9 hO9.crs.2 ((HA.out.below HS9.out.bel (Nat.le_refl _)).more HS9.out.bel.size)
              rw [decide_eq_true rfl] at hEQ
              have HEQ := Lib.hid hEQ
              clear hEQ hO9 hb9 HTX
              go_wp2_with fail
              refine HEQ.out.mono ?_
              rintro e w10 ⟨rfl, hb10⟩
              have HS10 := Lib.hid (HS9.out.grow hb10 HS9.out.bel.size)
              clear hb10 HEQ
              have HPP3 := Lib.hid (show Calls Try.prog 26 #[.pointer (some ⟨p, 0, none⟩)] w10 (RetP w10 (Pl.group (D cs ty pos 0).L)) by
                obtain ⟨F, h1, _, _⟩ := HS10.out
                exact pieces_tb h1)
              unfold RetP at HPP3
              rw [HEND.out.2] at HPP3
              obtain ⟨k2, hk2⟩ : ∃ k, k = min M 1 := ⟨_, rfl⟩
              have rM1 := min_run (M : Int) 1 (k2 : Int) (by omega)
              rw [← hk2] at HPP3
              clear hk2
              go_wp2_with fail
              refine HPP3.out.mono ?_
              rintro e w11 ⟨A11, c11, rfl, _, hb11⟩
              have HS11 := Lib.hid (HS10.out.grow hb11 HS10.out.bel.size)
              clear hb11 HPP3
              go_wp2_with fail
              go_ret
              exact ⟨rfl, HS11.out.bel⟩
end Go.Proofs.Ytpebkjejjogkkaa.pieceTyped
