/-
  edit.Row: the units of runs. Conditions: at most a thousand units in all, at most a thousand runs.
-/
import Derived.Test.YthnenmglmebljaaEdC
namespace Go.Proofs.Ythnenmglmebljaa
open Go.RowKit
open Pl (Un)

namespace Pl
theorem units_take_snoc (r : Rn) (t : Nat) (h : t < r.cs.length) : (unitsR r).take (t + 1) = (unitsR r).take t ++ [unitAt r t] := by
  unfold unitsR
  rw [List.take_add_one, List.getElem?_map, List.getElem?_range h]
  rfl
theorem units_len (r : Rn) : (unitsR r).length = r.cs.length := by simp [unitsR]
theorem row_len (rs : List Rn) : (rowR rs).length = sumR rs := by
  induction rs with
  | nil => rfl
  | cons r rs ih =>
    rw [show r :: rs = [r] ++ rs from rfl, row_append, sum_append, List.length_append, ih, row_one, units_len]
    simp [sumR]
theorem row_take_succ (rs : List Rn) (j : Nat) (r : Rn) (h : rs[j]? = some r) : rowR (rs.take (j + 1)) = rowR (rs.take j) ++ unitsR r := by
  rw [List.take_add_one, h, row_append]
  show _ ++ rowR [r] = _
  rw [row_one]
theorem sum_take_le (rs : List Rn) (j : Nat) (r : Rn) (h : rs[j]? = some r) : sumR (rs.take j) + r.cs.length ≤ sumR rs := by
  have h1 : sumR (rs.take (j + 1)) = sumR (rs.take j) + r.cs.length := by
    rw [List.take_add_one, h, sum_append]; simp [sumR]
  have h2 : sumR rs = sumR (rs.take (j + 1)) + sumR (rs.drop (j + 1)) := by rw [← sum_append, List.take_append_drop]
  omega
end Pl
/-- between one run and the next -/
def RoR (w : World) (R : List Pl.Rn) (s i : Value) (wr : World) : Prop := ∃ (j : Nat) (A : Option Addr) (c : Nat), i = .int .i64 (j : Int) ∧ s = .slice A (Pl.rowR (R.take j)).length c ∧ j ≤ R.length ∧ OwnU wr w.heap.size (.slice A (Pl.rowR (R.take j)).length c) (Pl.rowR (R.take j)) ∧ Below w.heap.size w wr
/-- between one unit of a run and the next -/
def RiR (w : World) (M : Nat) (X Y : List Un) (s i : Value) (wr : World) : Prop := ∃ (j : Nat) (A : Option Addr) (c : Nat), i = .int .i64 (j : Int) ∧ s = .slice A (M + j) c ∧ j ≤ Y.length ∧ OwnU wr w.heap.size (.slice A (M + j) c) (X ++ Y.take j) ∧ Below w.heap.size w wr
set_option maxRecDepth 100000 in
set_option maxHeartbeats 1000000 in
theorem row_any (B : Option Addr) (m d : Nat) (L : List RnV) (w : World) (h : Rns w B m d L) (hm : m ≤ 1000) (hs : Pl.sumR (L.map RnV.rn) ≤ 1000) :
    Calls Try.prog 20 #[.slice B m d] w (RetU w (Pl.rowR (L.map RnV.rn))) := by
  have HR := Lib.hid h
  have HM := Lib.hid h.1.len
  have HS := Lib.hid hs
  obtain ⟨R, hR⟩ : ∃ R, R = L.map RnV.rn := ⟨_, rfl⟩
  have HRL := Lib.hid (show R.length = m by rw [hR, List.length_map, h.1.len])
  rw [← hR] at HS ⊢
  have HRE := Lib.hid hR
  clear h hR hs
  go_enter Try.func20, Try.ntmps20
  go_wp2_with fail
  go_loopw [3, 8] (fun s i wr => RoR w R s i wr) (fun _ i _ => m - (intOf i).toNat)
  case atStart => exact ⟨0, none, 0, rfl, rfl, Nat.zero_le _, OwnR.nil_ _ _ _ _ _, Below.refl _ _⟩
  case round =>
    obtain ⟨j, A, c, rfl, rfl, hj, ho, hb⟩ := hrel
    have HB := Lib.hid hb
    have HO := Lib.hid ho
    rw [HRL.out] at hj
    clear hb ho
    by_cases hlt : j < m
    · obtain ⟨g1, o1, rfl, hg1, hc1⟩ := Rnr.at_ HR.out.1 hlt
      have hcl := hc1 j hlt
      have hjl : j < L.length := by rw [HM.out]; exact hlt
      have hcr := HR.out.2 (L.getD j default) (by rw [List.getD_eq_getElem?_getD, List.getElem?_eq_getElem hjl]; exact List.getElem_mem hjl)
      obtain ⟨r, hr⟩ : ∃ r, r = L.getD j default := ⟨_, rfl⟩
      have hRj : R[j]? = some r.rn := by
        rw [HRE.out, List.getElem?_map, List.getElem?_eq_getElem hjl, hr, List.getD_eq_getElem?_getD, List.getElem?_eq_getElem hjl]; rfl
      rw [← hr] at hcl hcr
      have hrn : r.rn.cs.length = r.n := hcr.len
      have hsum := Pl.sum_take_le R j _ hRj
      have HSU := HS.out
      rw [hrn] at hsum
      have HT := Lib.hid (Pl.row_take_succ R j _ hRj)
      obtain ⟨X, hX⟩ : ∃ X, X = Pl.rowR (R.take j) := ⟨_, rfl⟩
      obtain ⟨X2, hX2⟩ : ∃ X2, X2 = Pl.rowR (R.take (j + 1)) := ⟨_, rfl⟩
      have hxl : X.length = Pl.sumR (R.take j) := by rw [hX]; exact Pl.row_len _
      rw [← hX, ← hX2] at HT
      rw [← hX] at HO ⊢
      rw [← hxl] at hsum
      have HX2 := Lib.hid hX2
      have hbound : X.length + r.n ≤ 1000 := by omega
      have z0 : (0 : Int) ≤ (j : Int) := Int.natCast_nonneg j
      have z1 : (j : Int) < (m : Int) := Int.ofNat_lt.2 hlt
      obtain ⟨Y, hY⟩ : ∃ Y, Y = Pl.unitsR r.rn := ⟨_, rfl⟩
      have hyl : Y.length = r.n := by rw [hY, Pl.units_len, hrn]
      have HY := Lib.hid hY
      have HYL := Lib.hid hyl
      have HRN := Lib.hid hrn
      have HCR := Lib.hid hcr
      rw [← hY] at HT
      obtain ⟨M, hM⟩ : ∃ M, M = X.length := ⟨_, rfl⟩
      rw [← hM] at HO hbound ⊢
      have HMX := Lib.hid hM
      obtain ⟨k, p, x, y, C, n, q, cs⟩ := r
      simp only at hcl hbound HYL
      have HCL := Lib.hid (show ∀ w1, Below w.heap.size w w1 → w1.cell? ⟨g1, o1 + j * 5, none⟩ = some (.int .i64 k) ∧ w1.cell? ⟨g1, o1 + j * 5 + 1, none⟩ = some (.int .i64 p) ∧ w1.cell? ⟨g1, o1 + j * 5 + 2, none⟩ = some (.int .u32 x) ∧ w1.cell? ⟨g1, o1 + j * 5 + 3, none⟩ = some (.int .u64 y) ∧ w1.cell? ⟨g1, o1 + j * 5 + 4, none⟩ = some (.slice C n q) from fun w1 hb =>
        ⟨(hb.cell hg1).trans hcl.1, (hb.cell hg1).trans hcl.2.1, (hb.cell hg1).trans hcl.2.2.1, (hb.cell hg1).trans hcl.2.2.2.1, (hb.cell hg1).trans hcl.2.2.2.2⟩)
      have a4 := (HCL.out _ HB.out).2.2.2.2
      clear hc1 hcl hr hcr hRj hrn hsum HSU hX hX2 hxl hY hyl hM
      go_wp2_with fail
      go_loopw [3, 17] (fun s i wr2 => RiR w M X Y s i wr2) (fun _ i _ => n - (intOf i).toNat)
      case atStart => exact ⟨0, A, c, rfl, rfl, Nat.zero_le _, by rw [List.take_zero, List.append_nil]; exact HO.out, HB.out⟩
      case round =>
        obtain ⟨t, A2, c2, rfl, rfl, ht, ho2, hb2⟩ := hrel
        have HB2 := Lib.hid hb2
        have HO2 := Lib.hid ho2
        rw [HYL.out] at ht
        clear hb2 ho2
        by_cases htn : t < n
        · have hcr2 := HCR.out.then_ HB2.out
          obtain ⟨b0, b1, b2, b3, b4⟩ := HCL.out _ HB2.out
          have HAT := Lib.hid (at_any ⟨k, p, x, y, C, n, q, cs⟩ t wr hcr2 htn)
          have HU := Lib.hid (show Y.take (t + 1) = Y.take t ++ [Pl.unitAt ⟨k, p, x, y, cs⟩ t] by rw [HY.out]; exact Pl.units_take_snoc _ _ (by rw [HRN.out]; exact htn))
          obtain ⟨u, hu⟩ : ∃ u, u = Pl.unitAt (RnV.rn ⟨k, p, x, y, C, n, q, cs⟩) t := ⟨_, rfl⟩
          rw [show (Pl.unitAt ⟨k, p, x, y, cs⟩ t) = u from hu.symm] at HU
          rw [← hu] at HAT
          obtain ⟨k', q', ch', x', y'⟩ := u
          unfold rval at HAT
          simp only at HAT
          have z2 : (0 : Int) ≤ (t : Int) := Int.natCast_nonneg t
          have z3 : (t : Int) < (n : Int) := Int.ofNat_lt.2 htn
          have HMS := Lib.hid (show n - (t + 1) < n - t by omega)
          clear hu hcr2
          go_wp2_with fail
          refine HAT.out.mono ?_
          rintro en w2 ⟨rfl, hb3⟩
          simp only [uval]
          have HO3 := Lib.hid (OwnR.then_ HO2.out hb3)
          have HB3 := Lib.hid (below_then HB2.out hb3)
          clear hb3 HAT
          have HRW := Lib.hid (unit_row w2 k' q' ch' x' y')
          have hbx := below_box w2 (.cells #[.int .i64 k', .int .i64 q', .int .i32 ch', .int .u32 x', .int .u64 y'] 44)
          have HOW := Lib.hid (OwnR.then_ HO3.out hbx)
          have HBW := Lib.hid (below_then HB3.out hbx)
          have hsz := HBW.out.size
          clear hbx
          go_wp2_with (at_builtin; refine wpList_append_rws encU_len encU_one Try.underlying27 infoUn (by decide) (by decide) (World.alloc w2 (.cells #[.int .i64 k', .int .i64 q', .int .i32 ch', .int .u32 x', .int .u64 y'] 44)) rfl (.tmp 20) (.tmp 27) rfl w.heap.size A2 (M + t) c2 (X ++ Y.take t) (by rfl) HOW.out _ (some ⟨w2.heap.size, 0, none⟩) 1 1 [⟨k', q', ch', x', y'⟩] (by rfl) (OwnU.uns HRW.out) (by unfold maxLen; omega) (by omega) hsz ?_)
          intro A3 c3 w3 hO4 hg3 hat3
          have HB4 := Lib.hid (OwnR.grownBelow HOW.out hg3 HBW.out hsz)
          have HO4 := Lib.hid (show OwnU w3 w.heap.size (.slice A3 (M + (t + 1)) c3) (X ++ Y.take (t + 1)) by rw [HU.out, ← Nat.add_assoc]; exact hO4)
          clear hO4 hg3 hat3 hsz
          go_wp2_with fail
          go_roundw
          case rel => exact ⟨t + 1, A3, c3, by go_num, rfl, by rw [HYL.out]; omega, HO4.out, HB4.out⟩
          case measure => simp [intOf]; exact HMS.out
        · obtain rfl : t = n := by omega
          have hYt : Y.take t = Y := List.take_of_length_le (by rw [HYL.out]; exact Nat.le_refl _)
          have HX3 := Lib.hid (show OwnU wr w.heap.size (.slice A2 X2.length c2) X2 by
            have h := HO2.out
            rw [hYt, ← HT.out] at h
            have hl := OwnU.len h
            rwa [hl] at h)
          have HXL := Lib.hid (show M + t = X2.length by
            have h := HO2.out
            rw [hYt, ← HT.out] at h
            exact OwnU.len h)
          have HMS := Lib.hid (show m - (j + 1) < m - j by omega)
          clear hYt
          go_wp2_with fail
          go_roundw
          case rel => exact ⟨j + 1, A2, c2, by go_num, by rw [← HX2.out, HXL.out], by rw [HRL.out]; omega, by rw [← HX2.out]; exact HX3.out, HB2.out⟩
          case measure => simp [intOf]; exact HMS.out
    · have hjm : R.take j = R := List.take_of_length_le (by rw [HRL.out]; omega)
      rw [hjm] at HO ⊢
      clear hjm
      go_wp2_with fail
      go_ret
      exact ⟨A, c, rfl, HO.out, HB.out⟩
end Go.Proofs.Ythnenmglmebljaa
