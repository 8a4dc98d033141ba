/-
  The walk of copybooklaw06.UnitPlace: it returns true; nothing that was there turned. No conditions.
-/
import Derived.Test.YtogmddneimhpeaaUniF
import Derived.Test.YtogmddneimhpeaaUniBothP
import Derived.Test.YtogmddneimhpeaaBaseR
import Derived.BigQuiet
namespace Go.Proofs.Ytogmddneimhpeaa.unitPlace
open Go.RowKit
open Pl (Un)

theorem min_run (x y z : Int) (h : z = min x y) : ∀ (w' : World) (ts : Array TypeId) (t : TypeId), (Builtin.min_ ts t #[.int .i64 x, .int .i64 y]).run Try.prog w' = .ok (.int .i64 z) w' := by
  intro w' ts t
  rw [run_min_int2]
  subst h
  congr 2
  split <;> omega
theorem okay_J {u : Un} (h : Pl.Okay u) : Pl.J u.c := by
  rcases h with ⟨_, _, h⟩ | ⟨_, _, h⟩
  · rw [h]; unfold Pl.J; omega
  · unfold Pl.May at h; unfold Pl.J; omega
/-- in the loop -/
def RL (w : World) (N : Nat) (i : Value) (wr : World) : Prop := ∃ j : Nat, i = .int .i64 (j : Int) ∧ j ≤ N ∧ Below w.heap.size w wr
theorem getD_of {l m : List Int} {i j : Nat} (h : l[i]? = m[j]?) : l.getD i 0 = m.getD j 0 := by rw [List.getD_eq_getElem?_getD, List.getD_eq_getElem?_getD, h]

set_option maxRecDepth 100000 in
set_option maxHeartbeats 4000000 in
theorem walk (w : World) (A : Option Addr) (n cap : Nat) (cs0 : List Int) (hA : Crs w w.heap.size A n cap cs0) (u : Un) (hu : Pl.UnB u) :
    Calls Try.prog 7 #[.slice A n cap, uval u] w fun e w' => e = .returned (.bool true) ∧ Below w.heap.size w w' := by
  obtain ⟨N, hN⟩ : ∃ N, N = min n 300 := ⟨_, rfl⟩
  have rM := min_run (n : Int) 300 (N : Int) (by omega)
  obtain ⟨A1, hC1, hs1⟩ := hA.to_ (k := N) (by omega) (N : Int) rfl
  obtain ⟨l0, hl0⟩ : ∃ l0, l0 = cs0.take N := ⟨_, rfl⟩
  rw [← hl0] at hC1
  have HL0 := Lib.hid hC1.len
  have HC1 := Lib.hid hC1
  have hNb : N ≤ 300 := by omega
  have hn9 : n ≤ 9223372036854775807 := by have := hA.le; have := hA.cap; unfold maxLen at *; omega
  have HF1 := fun w => Lib.hid (fits_any u N w)
  have HM1 := fun w => Lib.hid (okay_any u w)
  have HX := fun (k p c x y : Int) (he : u = ⟨k, p, c, x, y⟩) => Lib.hid (apply_any u A1 N cap l0 _ hu.2.2.1 (hC1.then_ (below_box w (.cells #[.int .i64 k, .int .i64 p, .int .i32 c, .int .u32 x, .int .u64 y] 65))) (by omega))
  clear hA hC1 hl0 hN hu
  by_cases hfit : Pl.Fit u N
  · rw [decide_eq_true hfit] at HF1
    rw [Pl.applyE_fit hfit, Pl.applyT_fit (by rw [HL0.out]; exact hfit)] at HX
    have HG := fun w => Lib.hid (grows_any u w)
    have HLX := Lib.hid (Pl.len_behind (u := u) (cs := l0) (by rw [HL0.out]; exact hfit))
    rw [HL0.out] at HLX
    have HFC := Lib.hid (Pl.fit_cases hfit)
    clear hfit HM1
    obtain ⟨k, p, c, x, y⟩ := u
    replace HX := HX k p c x y rfl
    have HU := Lib.hid (uat_new w k p c x y)
    obtain ⟨g, hg⟩ : ∃ g, g = Pl.grows k := ⟨_, rfl⟩
    rw [← hg] at HG
    simp only at HLX
    rw [← hg] at HLX
    have hgb : -1 ≤ g ∧ g ≤ 1 := by rw [hg]; unfold Pl.grows; split <;> (try split) <;> omega
    have HGK := Lib.hid hg
    clear hg
    unfold uval at *
    simp only at *
    obtain ⟨X, hX⟩ : ∃ X, X = Pl.behind ⟨k, p, c, x, y⟩ l0 := ⟨_, rfl⟩
    rw [← hX] at HX HLX
    have HXX := Lib.hid hX
    clear hX
    go_enter Try.func7, Try.ntmps7
    go_wp2_with fail
    refine HX.out.mono ?_
    rintro e w1 ⟨A5, XL, c5, rfl, hO5, hb1⟩
    have HB1 := Lib.hid (below_on hb1)
    have HU1 := Lib.hid (HU.out.then_ hb1)
    have hXL : XL = X.length := hO5.crs.1
    have hadd : IntKind.i64.wrap ((N : Int) + g) = (XL : Int) := by
      have := HLX.out
      rw [← hXL] at this
      rw [IntKind.wrap_i64]
      omega
    have hXb : XL ≤ 301 := by have := HLX.out; rw [← hXL] at this; omega
    have HO5 := Lib.hid hO5.crs.2
    have HXL := Lib.hid hXL
    clear hO5 hb1 HX HU hXL
    obtain ⟨a0, a1, a2, a3, a4⟩ := HU1.out.cells
    go_wp2_with fail
    refine (HF1 _).out.mono ?_
    rintro e w2 ⟨rfl, hb2⟩
    have HB2 := Lib.hid (HB1.out.trans (hb2.mono HB1.out.size))
    have HU2 := Lib.hid (HU1.out.then_ hb2)
    have HO2 := Lib.hid (HO5.out.then_ hb2)
    clear hb2 a0 a1 a2 a3 a4 HF1 HB1 HU1 HO5
    obtain ⟨a0, a1, a2, a3, a4⟩ := HU2.out.cells
    go_wp2_with fail
    refine (HG _).out.mono ?_
    rintro e w3 ⟨rfl, hb3⟩
    have HB := Lib.hid (HB2.out.trans (hb3.mono HB2.out.size))
    have HU := Lib.hid (HU2.out.then_ hb3)
    have HO := Lib.hid (HO2.out.then_ hb3)
    clear hb3 a0 a1 a2 a3 a4 HG HB2 HU2 HO2
    go_wp2_with fail
    rcases HFC.out with ⟨x1, y1, he⟩ | ⟨q, c1, x1, y1, he, hq, hc⟩ | ⟨q, c1, x1, y1, he, hq, hc⟩
    · injection he with e1 e2 e3 e4 e5
      subst e1 e2 e3
      clear e4 e5
      obtain rfl : g = 0 := by rw [HGK.out]; rfl
      obtain rfl : X = l0 := by rw [HXX.out]; exact Pl.behind_nop _ _ _ _ _
      clear HGK HXX HFC
      have hXN : N = XL := by have := HXL.out; rw [HL0.out] at this; exact this.symm
      subst hXN
      go_loopw [8] (fun i wr => RL w3 (N) i wr) (fun i _ => N - (intOf i).toNat)
      case atStart => exact ⟨0, rfl, Nat.zero_le _, Below.refl _ _⟩
      case round =>
        obtain ⟨j, rfl, hj, hb⟩ := hrel
        have HBr := Lib.hid (HB.out.trans (hb.mono HB.out.size))
        have HBB := Lib.hid hb
        have HUr := Lib.hid (HU.out.then_ hb)
        have HOr := Lib.hid (HO.out.then_ hb)
        have HCr := Lib.hid (HC1.out.then_ HBr.out)
        clear hb HB HU HO HC1
        by_cases hlt : j < N
        · obtain ⟨g1, o1, rfl, _, hc1⟩ := HCr.out.at_ hlt
          have t1 := hc1 j hlt
          obtain ⟨g5, o5, rfl, _, hc5⟩ := HOr.out.at_ (i := j) (by omega)
          have t5 := hc5 j (by omega)
          obtain ⟨z, hz⟩ : ∃ z, z = X.getD j 0 := ⟨_, rfl⟩
          rw [← hz] at t1 t5
          clear hz hc1 hc5 HCr HOr
          obtain ⟨a0, a1, a2, a3, a4⟩ := HUr.out.cells
          by_cases h0 : j = 0
          · subst h0
            simp only [Nat.add_zero] at t1 t5
            go_wp2_with fail
            go_quiet (fail)
            go_wp2_with fail
            go_roundw
            case rel => exact ⟨1, rfl, by omega, HBB.out.dn nq⟩
            case measure => simp [intOf]; omega
          · have h0b : ((j : Int) == 0) = false := by simpa using h0
            go_wp2_with fail
            go_quiet (fail)
            go_wp2_with fail
            go_roundw
            case rel => exact ⟨j + 1, by go_num, hlt, HBB.out.dn nq⟩
            case measure => simp only [intOf]; omega
        · obtain rfl : j = N := by omega
          go_wp2_with fail
          refine (wakes_any _).mono ?_
          rintro e w9 ⟨rfl, hb9⟩
          have HB9 := Lib.hid (HBr.out.trans (hb9.mono HBr.out.size))
          clear hb9
          go_wp2_with fail
          go_ret
          exact ⟨rfl, HB9.out⟩
    · injection he with e1 e2 e3 e4 e5
      subst e1 e2 e3
      clear e4 e5
      obtain rfl : g = 1 := by rw [HGK.out]; rfl
      have hX : X = Pl.insL q c l0 := by rw [HXX.out]; exact Pl.behind_ins _ _ _ _ _
      have hXN : N + 1 = XL := by have h := HXL.out; have h2 := HLX.out; omega
      subst hXN
      have hql : q ≤ l0.length := by rw [HL0.out]; exact hq
      have HI := fun i => Lib.hid (show X[i]? = (if i < q then l0[i]? else if i = q then some c else l0[i - 1]?) from by rw [hX, Pl.get_insL hql])
      have HQ := Lib.hid (And.intro hX (And.intro hq hc))
      have hqn : q ≤ N := hq
      clear HGK HXX HFC hql hX hq hc
      go_loopw [8] (fun i wr => RL w3 (N) i wr) (fun i _ => N - (intOf i).toNat)
      case atStart => exact ⟨0, rfl, Nat.zero_le _, Below.refl _ _⟩
      case round =>
        obtain ⟨j, rfl, hj, hb⟩ := hrel
        have HBr := Lib.hid (HB.out.trans (hb.mono HB.out.size))
        have HBB := Lib.hid hb
        have HUr := Lib.hid (HU.out.then_ hb)
        have HOr := Lib.hid (HO.out.then_ hb)
        have HCr := Lib.hid (HC1.out.then_ HBr.out)
        clear hb HB HU HO HC1
        by_cases hlt : j < N
        · by_cases hjq : j < q
          · have hjj : j < N := hlt
            obtain ⟨g1, o1, rfl, _, hc1⟩ := HCr.out.at_ hlt
            have t1 := hc1 j hlt
            obtain ⟨g5, o5, rfl, _, hc5⟩ := HOr.out.at_ (i := j) (by omega)
            have t5 := hc5 (j) (by omega)
            rw [show X.getD (j) 0 = l0.getD j 0 from getD_of ((HI (j)).out.trans (by simp[hjq]))] at t5
            obtain ⟨z, hz⟩ : ∃ z, z = l0.getD j 0 := ⟨_, rfl⟩
            rw [← hz] at t1 t5
            clear hz hc1 hc5 HCr HOr
            obtain ⟨a0, a1, a2, a3, a4⟩ := HUr.out.cells
            have h0b : ((j : Int) == (q : Int)) = false := by rw [beq_eq_false_iff_ne]; omega
            have h3b : ((j : Int) != (q : Int)) = true := by rw [bne, h0b]; rfl
            have h1b : decide ((q : Int) < (j : Int)) = false := decide_eq_false (by omega)
            have h2b : decide (q < j) = false := decide_eq_false (by omega)
            go_wp2_with fail
            go_quiet (fail)
            go_wp2_with fail
            go_roundw
            case rel => exact ⟨j + 1, by go_num, hlt, HBB.out.dn nq⟩
            case measure => simp only [intOf]; omega
          · by_cases hje : j = q
            · subst hje
              have hjn : ¬ j + 1 < j := by omega
              obtain ⟨g1, o1, rfl, _, hc1⟩ := HCr.out.at_ hlt
              have t1 := hc1 j hlt
              obtain ⟨g5, o5, rfl, _, hc5⟩ := HOr.out.at_ (i := j+1) (by omega)
              have t5 := hc5 (j+1) (by omega)
              rw [show X.getD (j+1) 0 = l0.getD j 0 from getD_of ((HI (j+1)).out.trans (by simp[hjn]))] at t5
              obtain ⟨z, hz⟩ : ∃ z, z = l0.getD j 0 := ⟨_, rfl⟩
              rw [← hz] at t1 t5
              clear hz hc1 hc5 HCr HOr
              obtain ⟨a0, a1, a2, a3, a4⟩ := HUr.out.cells
              have h1b : decide ((j : Int) < (j : Int)) = false := decide_eq_false (by omega)
              have h2b : decide (j < j) = false := decide_eq_false (by omega)
              go_wp2_with fail
              go_quiet (fail)
              go_wp2_with fail
              go_roundw
              case rel => exact ⟨j + 1, by go_num, hlt, HBB.out.dn nq⟩
              case measure => simp only [intOf]; omega
            · have hjn : ¬ j + 1 < q := by omega
              have hjm : ¬ j + 1 = q := by omega
              obtain ⟨g1, o1, rfl, _, hc1⟩ := HCr.out.at_ hlt
              have t1 := hc1 j hlt
              obtain ⟨g5, o5, rfl, _, hc5⟩ := HOr.out.at_ (i := j+1) (by omega)
              have t5 := hc5 (j+1) (by omega)
              rw [show X.getD (j+1) 0 = l0.getD j 0 from getD_of ((HI (j+1)).out.trans (by simp[hjn,hjm]))] at t5
              obtain ⟨z, hz⟩ : ∃ z, z = l0.getD j 0 := ⟨_, rfl⟩
              rw [← hz] at t1 t5
              clear hz hc1 hc5 HCr HOr
              obtain ⟨a0, a1, a2, a3, a4⟩ := HUr.out.cells
              have h0b : ((j : Int) == (q : Int)) = false := by rw [beq_eq_false_iff_ne]; omega
              have h3b : ((j : Int) != (q : Int)) = true := by rw [bne, h0b]; rfl
              have h1b : decide ((q : Int) < (j : Int)) = true := decide_eq_true (by omega)
              have h2b : decide (q < j) = true := decide_eq_true (by omega)
              go_wp2_with fail
              go_quiet (fail)
              go_wp2_with fail
              go_roundw
              case rel => exact ⟨j + 1, by go_num, hlt, HBB.out.dn nq⟩
              case measure => simp only [intOf]; omega
        · obtain rfl : N = j := by omega
          have hfd : Pl.Fit ⟨2, (q : Int), c, 0, 0⟩ ((N + 1 : Nat) : Int) := Pl.fit_del 0 0 (by omega) HQ.out.2.2
          have hbk : Pl.applyT ⟨2, (q : Int), c, 0, 0⟩ X = l0 := by
            rw [Pl.applyT_fit (by rw [← HOr.out.len] at hfd; exact hfd), Pl.behind_del, HQ.out.1]
            exact Pl.del_back (by rw [HL0.out]; exact hqn)
          have HP := Lib.hid (apply_any ⟨2, (q : Int), c, 0, 0⟩ A5 (N + 1) c5 X wr (okay_J hfd.1) HOr.out (by omega))
          rw [Pl.applyE_fit hfd, hbk] at HP
          clear hfd hbk
          unfold uval at HP
          simp only at HP
          obtain ⟨a0, a1, a2, a3, a4⟩ := HUr.out.cells
          go_wp2_with fail
          refine HP.out.mono ?_
          rintro e wa ⟨A10, YL, c10, rfl, hO10, hba⟩
          have HBa := Lib.hid (HBr.out.trans (hba.mono HBr.out.size))
          have HU := Lib.hid (HUr.out.then_ hba)
          obtain ⟨g5, o5, e5, _, _⟩ := HOr.out.at_ (i := q) (by omega)
          subst e5
          have HC5 : ∀ w1, Below wa.heap.size wa w1 → w1.cell? ⟨g5, o5 + q, none⟩ = some (.int .i32 c) := fun w1 hb => by
            obtain ⟨g, o, e, _, h⟩ := ((HOr.out.then_ hba).then_ hb).at_ (i := q) (by omega)
            injection e with e
            injection e with e1 e2 _
            subst e1 e2
            rw [h q (by omega), List.getD_eq_getElem?_getD, (HI q).out]
            simp
          have HS1 : ∀ w1, Below wa.heap.size wa w1 → Hid (Calls Try.prog 38 #[.slice A10 YL c10, .slice A1 N cap] w1 fun e w' => e = .returned (.bool true) ∧ Below w1.heap.size w1 w') := fun w1 hb => by
            have h := same_any A10 A1 YL c10 N cap l0 l0 w1 (hO10.crs.2.then_ hb) ((HCr.out.then_ hba).then_ hb)
            rw [decide_eq_true rfl] at h
            exact Lib.hid h
          have hqI : ((N : Int) + 1 ≤ (q : Int)) = False := eq_false (by omega)
          clear hba a0 a1 a2 a3 a4 hO10 HP HCr HOr HUr HBr HBB
          go_wp2_with fail
          refine Rg.wp_region_inv (fun w'' => Below wa.heap.size wa w'') (Rg.Wd.at [.is (.slice (some ⟨g5, o5, none⟩) (N + 1) c5), .is (.pointer (some ⟨w.heap.size, 1, none⟩)), .is (.int .i64 (q : Int)), .is (.pointer (some ⟨g5, o5 + q, none⟩)), .is (.int .i32 c), .is (.pointer (some ⟨w.heap.size, 2, none⟩)), .is (.int .i32 c), .is (.bool true), .is (.bool true), .is (.int .i64 0), .is (.bool true), .is (.bool true), .is (.bool true), .is (.slice A10 YL c10), .is (.slice A1 N cap), .is (.bool true), .is (.bool true), .is (.bool true), .is (.bool true), .is (.bool true), .is (.bool true)]) (by kernel_rfl) (by kernel_rfl) (Rg.Wd.stays _ _) (below_drawn (Below.refl _ _)) ⟨?_, ?_, ?_, ?_, ?_, ?_, ?_, ?_, ?_, ?_, ?_, ?_, ?_, ?_, ?_, ?_, ?_, ?_, ?_, ?_, ?_, trivial⟩ ?_
          · intro a w1 hS hb hd
            have e5 := hb 5 (Rg.nw (by decide))
            simp [Act.eval] at e5
            exact Rg.does_pure (Rg.wanted_none rfl) (by simp [execOp, e5, go_sem]) hS rfl
          · intro a w1 hS hb hd
            have e3 := hb 3 (Rg.nw (by decide))
            simp [Act.eval] at e3
            exact Rg.does_pure (Rg.wanted_none rfl) (by simp [execOp, e3, go_sem]) hS rfl
          · intro a w1 hS hb hd
            have e124 := hd ⟨1, .data⟩ (by simp) rfl _ _ rfl rfl
            have e124 : a.tmps[124]?.getD undef = (.pointer (some ⟨w.heap.size, 1, none⟩)) := Rg.slot e124
            exact Rg.does_pure (Rg.wanted_none rfl) (by simp [execOp, e124, (HU.out.then_ hS).cells, go_sem]) hS rfl
          · intro a w1 hS hb hd
            have e123 := hd ⟨0, .data⟩ (by simp) rfl _ _ rfl rfl
            have e123 : a.tmps[123]?.getD undef = (.slice (some ⟨g5, o5, none⟩) (N + 1) c5) := Rg.slot e123
            have e125 := hd ⟨2, .data⟩ (by simp) rfl _ _ rfl rfl
            have e125 : a.tmps[125]?.getD undef = (.int .i64 (q : Int)) := Rg.slot e125
            exact Rg.does_pure (Rg.wanted_none rfl) (by simp [execOp, e123, e125, hqI, go_sem]) hS rfl
          · intro a w1 hS hb hd
            have e126 := hd ⟨3, .data⟩ (by simp) rfl _ _ rfl rfl
            have e126 : a.tmps[126]?.getD undef = (.pointer (some ⟨g5, o5 + q, none⟩)) := Rg.slot e126
            exact Rg.does_pure (Rg.wanted_none rfl) (by simp [execOp, e126, (HC5 w1 hS), go_sem]) hS rfl
          · intro a w1 hS hb hd
            have e3 := hb 3 (Rg.nw (by decide))
            simp [Act.eval] at e3
            exact Rg.does_pure (Rg.wanted_none rfl) (by simp [execOp, e3, go_sem]) hS rfl
          · intro a w1 hS hb hd
            have e128 := hd ⟨5, .data⟩ (by simp) rfl _ _ rfl rfl
            have e128 : a.tmps[128]?.getD undef = (.pointer (some ⟨w.heap.size, 2, none⟩)) := Rg.slot e128
            exact Rg.does_pure (Rg.wanted_none rfl) (by simp [execOp, e128, (HU.out.then_ hS).cells, go_sem]) hS rfl
          · intro a w1 hS hb hd
            have e127 := hd ⟨4, .data⟩ (by simp) rfl _ _ rfl rfl
            have e127 : a.tmps[127]?.getD undef = (.int .i32 c) := Rg.slot e127
            have e129 := hd ⟨6, .data⟩ (by simp) rfl _ _ rfl rfl
            have e129 : a.tmps[129]?.getD undef = (.int .i32 c) := Rg.slot e129
            exact Rg.does_pure (Rg.wanted_none rfl) (by simp [execOp, e127, e129, go_sem]) hS rfl
          · intro a w1 hS hb hd
            have e130 := hd ⟨7, .data⟩ (by simp) rfl _ _ rfl rfl
            have e130 : a.tmps[130]?.getD undef = (.bool true) := Rg.slot e130
            exact Rg.does_pure (Rg.wanted_none rfl) (by simp [execOp, e130, go_sem]) hS rfl
          · intro a w1 hS hb hd
            have e11 := hb 11 (Rg.nw (by decide))
            simp [Act.eval] at e11
            have e131 := hd ⟨8, .guard⟩ (by simp) rfl _ _ rfl rfl
            exact Rg.does_pure (Rg.wanted_some rfl rfl rfl e131) (by simp [execOp, e11, go_sem]) hS rfl
          · intro a w1 hS hb hd
            have e132 := hd ⟨9, .data⟩ (by simp) rfl _ _ rfl rfl
            have e132 : a.tmps[132]?.getD undef = (.int .i64 0) := Rg.slot e132
            have e131 := hd ⟨8, .guard⟩ (by simp) rfl _ _ rfl rfl
            exact Rg.does_pure (Rg.wanted_some rfl rfl rfl e131) (by simp [execOp, e132, go_sem]) hS rfl
          · intro a w1 hS hb hd
            have e131 := hd ⟨8, .data⟩ (by simp) rfl _ _ rfl rfl
            have e131 : a.tmps[131]?.getD undef = (.bool true) := Rg.slot e131
            have e133 := hd ⟨10, .data⟩ (by simp) rfl _ _ rfl rfl
            have e133 : a.tmps[133]?.getD undef = (.bool true) := Rg.slot e133
            exact Rg.does_pure (Rg.wanted_none rfl) (by simp [execOp, e131, e133, go_sem]) hS rfl
          · intro a w1 hS hb hd
            have e134 := hd ⟨11, .data⟩ (by simp) rfl _ _ rfl rfl
            have e134 : a.tmps[134]?.getD undef = (.bool true) := Rg.slot e134
            exact Rg.does_pure (Rg.wanted_none rfl) (by simp [execOp, e134, go_sem]) hS rfl
          · intro a w1 hS hb hd
            have e10 := hb 10 (Rg.nw (by decide))
            simp [Act.eval] at e10
            have e135 := hd ⟨12, .guard⟩ (by simp) rfl _ _ rfl rfl
            exact Rg.does_pure (Rg.wanted_some rfl rfl rfl e135) (by simp [execOp, e10, go_sem]) hS rfl
          · intro a w1 hS hb hd
            have e0 := hb 0 (Rg.nw (by decide))
            simp [Act.eval] at e0
            have e135 := hd ⟨12, .guard⟩ (by simp) rfl _ _ rfl rfl
            exact Rg.does_pure (Rg.wanted_some rfl rfl rfl e135) (by simp [execOp, e0, go_sem]) hS rfl
          · intro a w1 hS hb hd
            have e136 := hd ⟨13, .data⟩ (by simp) rfl _ _ rfl rfl
            have e136 : a.tmps[136]?.getD undef = (.slice A10 YL c10) := Rg.slot e136
            have e137 := hd ⟨14, .data⟩ (by simp) rfl _ _ rfl rfl
            have e137 : a.tmps[137]?.getD undef = (.slice A1 N cap) := Rg.slot e137
            have e135 := hd ⟨12, .guard⟩ (by simp) rfl _ _ rfl rfl
            refine Rg.does_call (f := 38) (args := #[.slice A10 YL c10, .slice A1 N cap]) (Rg.wanted_some rfl rfl rfl e135) (by simp [e136, e137, go_sem]) ?_
            exact (HS1 w1 hS).out.mono fun e w' ⟨h1, h2⟩ => ⟨_, h1, rfl, below_then hS h2, h2⟩
          · intro a w1 hS hb hd
            have e135 := hd ⟨12, .data⟩ (by simp) rfl _ _ rfl rfl
            have e135 : a.tmps[135]?.getD undef = (.bool true) := Rg.slot e135
            have e138 := hd ⟨15, .data⟩ (by simp) rfl _ _ rfl rfl
            have e138 : a.tmps[138]?.getD undef = (.bool true) := Rg.slot e138
            exact Rg.does_pure (Rg.wanted_none rfl) (by simp [execOp, e135, e138, go_sem]) hS rfl
          · intro a w1 hS hb hd
            have e139 := hd ⟨16, .data⟩ (by simp) rfl _ _ rfl rfl
            have e139 : a.tmps[139]?.getD undef = (.bool true) := Rg.slot e139
            exact Rg.does_pure (Rg.wanted_none rfl) (by simp [execOp, e139, go_sem]) hS rfl
          · intro a w1 hS hb hd
            have e140 := hd ⟨17, .guard⟩ (by simp) rfl _ _ rfl rfl
            refine Rg.does_call (f := 35) (args := #[]) (Rg.wanted_some rfl rfl rfl e140) (by simp [go_sem]) ?_
            exact (wakes_any w1).mono fun e w' ⟨h1, h2⟩ => ⟨_, h1, rfl, below_then hS h2, h2⟩
          · intro a w1 hS hb hd
            have e140 := hd ⟨17, .data⟩ (by simp) rfl _ _ rfl rfl
            have e140 : a.tmps[140]?.getD undef = (.bool true) := Rg.slot e140
            have e141 := hd ⟨18, .data⟩ (by simp) rfl _ _ rfl rfl
            have e141 : a.tmps[141]?.getD undef = (.bool true) := Rg.slot e141
            exact Rg.does_pure (Rg.wanted_none rfl) (by simp [execOp, e140, e141, go_sem]) hS rfl
          · intro a w1 hS hb hd
            have e142 := hd ⟨19, .data⟩ (by simp) rfl _ _ rfl rfl
            have e142 : a.tmps[142]?.getD undef = (.bool true) := Rg.slot e142
            exact Rg.does_pure (Rg.wanted_none rfl) (by simp [execOp, e142, go_sem]) hS rfl
          intro v w9 hS hv
          have h6 : v 20 = .bool true := hv 20 _ _ rfl rfl
          have HB9 := Lib.hid (HBa.out.trans (hS.mono HBa.out.size))
          simp only [Rg.putAll, Nat.zero_add, Nat.reduceAdd]
          simp only [Act.put, List.setIfInBounds_toArray, List.set_cons_succ, List.set_cons_zero]
          rw [h6]
          clear h6 hv hS HU HBa HC5 HS1
          go_wp2_with fail
          go_ret
          exact ⟨rfl, HB9.out⟩
    · injection he with e1 e2 e3 e4 e5
      subst e1 e2 e3
      clear e4 e5
      obtain rfl : g = -1 := by rw [HGK.out]; rfl
      have hX : X = Pl.delL q l0 := by rw [HXX.out]; exact Pl.behind_del _ _ _ _ _
      obtain ⟨M, hM⟩ : ∃ M, N = M + 1 := ⟨N - 1, by omega⟩
      have hXN : M = XL := by have h := HXL.out; have h2 := HLX.out; omega
      subst hM hXN
      have hql : q ≤ l0.length := by rw [HL0.out]; omega
      have HI := fun i => Lib.hid (show X[i]? = (if i < q then l0[i]? else l0[i + 1]?) from by rw [hX, Pl.get_delL hql])
      clear HGK HXX HFC hql hX hc
      go_loopw [8] (fun i wr => RL w3 (M+1) i wr) (fun i _ => M+1 - (intOf i).toNat)
      case atStart => exact ⟨0, rfl, Nat.zero_le _, Below.refl _ _⟩
      case round =>
        obtain ⟨j, rfl, hj, hb⟩ := hrel
        have HBr := Lib.hid (HB.out.trans (hb.mono HB.out.size))
        have HBB := Lib.hid hb
        have HUr := Lib.hid (HU.out.then_ hb)
        have HOr := Lib.hid (HO.out.then_ hb)
        have HCr := Lib.hid (HC1.out.then_ HBr.out)
        clear hb HB HU HO HC1
        by_cases hlt : j < M + 1
        · by_cases hjq : j < q
          · have hjj : j < M + 1 := hlt
            obtain ⟨g1, o1, rfl, _, hc1⟩ := HCr.out.at_ hlt
            have t1 := hc1 j hlt
            obtain ⟨g5, o5, rfl, _, hc5⟩ := HOr.out.at_ (i := j) (by omega)
            have t5 := hc5 (j) (by omega)
            rw [show X.getD (j) 0 = l0.getD j 0 from getD_of ((HI (j)).out.trans (by simp[hjq]))] at t5
            obtain ⟨z, hz⟩ : ∃ z, z = l0.getD j 0 := ⟨_, rfl⟩
            rw [← hz] at t1 t5
            clear hz hc1 hc5 HCr HOr
            obtain ⟨a0, a1, a2, a3, a4⟩ := HUr.out.cells
            have h0b : ((j : Int) == (q : Int)) = false := by rw [beq_eq_false_iff_ne]; omega
            have h3b : ((j : Int) != (q : Int)) = true := by rw [bne, h0b]; rfl
            have h1b : decide ((q : Int) < (j : Int)) = false := decide_eq_false (by omega)
            have h2b : decide (q < j) = false := decide_eq_false (by omega)
            go_wp2_with fail
            go_quiet (fail)
            go_wp2_with fail
            go_roundw
            case rel => exact ⟨j + 1, by go_num, hlt, HBB.out.dn nq⟩
            case measure => simp only [intOf]; omega
          · by_cases hje : j = q
            · subst hje
              have h1b : decide ((j : Int) < (j : Int)) = false := decide_eq_false (by omega)
              have h2b : decide (j < j) = false := decide_eq_false (by omega)
              obtain ⟨a0, a1, a2, a3, a4⟩ := HUr.out.cells
              go_wp2_with fail
              go_quiet (fail)
              go_wp2_with fail
              go_roundw
              case rel => exact ⟨j + 1, by go_num, hlt, HBB.out.dn nq⟩
              case measure => simp only [intOf]; omega
            · obtain ⟨i, rfl⟩ : ∃ i, j = i + 1 := ⟨j - 1, by omega⟩
              obtain ⟨g1, o1, rfl, _, hc1⟩ := HCr.out.at_ hlt
              have t1 := hc1 (i + 1) hlt
              obtain ⟨g5, o5, rfl, _, hc5⟩ := HOr.out.at_ (i := i) (by omega)
              have t5 := hc5 i (by omega)
              have hjn : ¬ i < q := by omega
              rw [show X.getD i 0 = l0.getD (i + 1) 0 from getD_of ((HI i).out.trans (by simp[hjn]))] at t5
              obtain ⟨z, hz⟩ : ∃ z, z = l0.getD (i + 1) 0 := ⟨_, rfl⟩
              rw [← hz] at t1 t5
              clear hz hc1 hc5 HCr HOr
              obtain ⟨a0, a1, a2, a3, a4⟩ := HUr.out.cells
              have h0b : (((i : Int) + 1) == (q : Int)) = false := by rw [beq_eq_false_iff_ne]; omega
              have h3b : (((i : Int) + 1) != (q : Int)) = true := by rw [bne, h0b]; rfl
              have h1b : decide ((q : Int) < (i : Int) + 1) = true := decide_eq_true (by omega)
              have hm : (i : Int) + 1 + -1 = (i : Int) := by omega
              go_wp2_with fail
              go_quiet (fail)
              go_wp2_with fail
              go_roundw
              case rel => exact ⟨i + 1 + 1, by go_num, hlt, HBB.out.dn nq⟩
              case measure => simp only [intOf]; omega
        · obtain rfl : j = M + 1 := by omega
          go_wp2_with fail
          refine (wakes_any _).mono ?_
          rintro e w9 ⟨rfl, hb9⟩
          have HB9 := Lib.hid (HBr.out.trans (hb9.mono HBr.out.size))
          clear hb9
          go_wp2_with fail
          go_ret
          exact ⟨rfl, HB9.out⟩
  · rw [decide_eq_false hfit] at HF1
    rw [show Pl.applyT u l0 = [] from by unfold Pl.applyT; rw [HL0.out, if_neg hfit]] at HX
    obtain ⟨ok, hok⟩ : ∃ ok, ok = decide (Pl.Okay u) := ⟨_, rfl⟩
    rw [← hok] at HM1
    have hE : Pl.applyE u N = if ok then 30 else 1 := by
      unfold Pl.applyE
      rw [hok, if_neg hfit]
      simp
    rw [hE] at HX
    clear hfit hE hok
    obtain ⟨k, p, c, x, y⟩ := u
    replace HX := HX k p c x y rfl
    have HU := Lib.hid (uat_new w k p c x y)
    unfold uval at *
    simp only at *
    go_enter Try.func7, Try.ntmps7
    go_wp2_with fail
    refine HX.out.mono ?_
    rintro e w1 ⟨A5, XL, c5, rfl, hO5, hb1⟩
    have HB1 := Lib.hid (below_on hb1)
    have HU1 := Lib.hid (HU.out.then_ hb1)
    obtain rfl : XL = 0 := hO5.crs.1
    clear hO5 hb1 HX HU
    obtain ⟨a0, a1, a2, a3, a4⟩ := HU1.out.cells
    cases ok with
    | true =>
      simp only [if_true]
      go_wp2_with fail
      refine (HF1 _).out.mono ?_
      rintro e w2 ⟨rfl, hb2⟩
      have HB2 := Lib.hid (HB1.out.trans (hb2.mono HB1.out.size))
      have HU2 := Lib.hid (HU1.out.then_ hb2)
      clear hb2 a0 a1 a2 a3 a4 HF1 HB1 HU1
      obtain ⟨a0, a1, a2, a3, a4⟩ := HU2.out.cells
      go_wp2_with fail
      refine (HM1 _).out.mono ?_
      rintro e w3 ⟨rfl, hb3⟩
      have HB3 := Lib.hid (HB2.out.trans (hb3.mono HB2.out.size))
      clear hb3 a0 a1 a2 a3 a4 HM1 HB2 HU2
      go_wp2_with fail
      refine (wakes_any _).mono ?_
      rintro e w9 ⟨rfl, hb9⟩
      have HB9 := Lib.hid (HB3.out.trans (hb9.mono HB3.out.size))
      clear hb9
      go_wp2_with fail
      go_ret
      exact ⟨rfl, HB9.out⟩
    | false =>
      simp only [Bool.false_eq_true, if_false]
      go_wp2_with fail
      refine (HF1 _).out.mono ?_
      rintro e w2 ⟨rfl, hb2⟩
      have HB2 := Lib.hid (HB1.out.trans (hb2.mono HB1.out.size))
      have HU2 := Lib.hid (HU1.out.then_ hb2)
      clear hb2 a0 a1 a2 a3 a4 HF1 HB1 HU1
      obtain ⟨a0, a1, a2, a3, a4⟩ := HU2.out.cells
      go_wp2_with fail
      refine (HM1 _).out.mono ?_
      rintro e w3 ⟨rfl, hb3⟩
      have HB3 := Lib.hid (HB2.out.trans (hb3.mono HB2.out.size))
      clear hb3 a0 a1 a2 a3 a4 HM1 HB2 HU2
      go_wp2_with fail
      refine (wakes_any _).mono ?_
      rintro e w9 ⟨rfl, hb9⟩
      have HB9 := Lib.hid (HB3.out.trans (hb9.mono HB3.out.size))
      clear hb9
      go_wp2_with fail
      go_ret
      exact ⟨rfl, HB9.out⟩
end Go.Proofs.Ytogmddneimhpeaa.unitPlace
