/-
  The walk of copybooklaw06.UnitBoth: it returns true; nothing that was there turned. No conditions.
-/
import Derived.Test.YtogmddneimhpeaaUniP
import Derived.Test.YtogmddneimhpeaaUniBothP
import Derived.Test.YtogmddneimhpeaaBaseR
import Derived.Deep.DeepCutAuto
import Derived.Deep.CutRange
namespace Go.Proofs.Ytogmddneimhpeaa.unitBoth
open Go.RowKit
open Pl (Un)

theorem min_run (x y z : Int) (h : z = min x y) : ∀ (w' : World) (ts : Array TypeId) (t : TypeId), (Builtin.min_ ts t #[.int .i64 x, .int .i64 y]).run Try.prog w' = .ok (.int .i64 z) w' := by
  intro w' ts t
  rw [run_min_int2]
  subst h
  congr 2
  split <;> omega
theorem okay_J {u : Un} (h : Pl.Okay u) : Pl.J u.c := by
  rcases h with ⟨_, _, h⟩ | ⟨_, _, h⟩
  · rw [h]; unfold Pl.J; omega
  · unfold Pl.May at h; unfold Pl.J; omega
/-- Apply, of a unit that fits -/
theorem apply_fit (u : Un) (A : Option Addr) (n c : Nat) (cs X : List Int) (w : World) (hX : X = Pl.behind u cs) (h : Crs w w.heap.size A n c cs) (hr : n ≤ 100000) (hf : Pl.Fit u n) :
    Calls Try.prog 36 #[uval u, .slice A n c] w fun e w' => ∃ A' m c', e = .returned (.tuple #[.slice A' m c', .int .i64 0]) ∧ OwnC w' w.heap.size (.slice A' m c') X ∧ Below w.heap.size w w' := by
  have := apply_any u A n c cs w (okay_J hf.1) h hr
  rwa [Pl.applyE_fit hf, Pl.applyT_fit (by rw [h.len]; exact hf), ← hX] at this
/-- what stands there behind region 3 -/
def K3 (w : World) (k p c x y k' p' c' x' y' : Int) (wr : World) : Prop := Below w.heap.size w wr ∧ UAt wr w.heap.size k p c x y ∧ UAt wr (w.heap.size + 1) k' p' c' x' y'
theorem K3.then_ {w wr w' : World} {k p c x y k' p' c' x' y' : Int} (h : K3 w k p c x y k' p' c' x' y' wr) (hb : Below wr.heap.size wr w') : K3 w k p c x y k' p' c' x' y' w' := ⟨h.1.trans (hb.mono h.1.size), h.2.1.then_ hb, h.2.2.then_ hb⟩
theorem wrapEq (x : Int) : IntKind.i64.wrap x = wrap64 x := by rw [IntKind.wrap_i64]; unfold wrap64; rfl
/-- the test of region 3 -/
def bad (k p c x y k' p' c' x' y' : Int) (N : Nat) : Bool := !decide (Pl.Fit ⟨k, p, c, x, y⟩ N) || !decide (Pl.Fit ⟨k', p', c', x', y'⟩ N) || (decide (k = 1) && decide (k' = 1) && decide (x = x' ∧ y = y'))

set_option maxRecDepth 100000 in
set_option maxHeartbeats 2000000 in
theorem walk (w : World) (A : Option Addr) (n cap : Nat) (cs0 : List Int) (hA : Crs w w.heap.size A n cap cs0) (u : Un) (hu : Pl.UnB u) (v : Un) (hv : Pl.UnB v) :
    Calls Try.prog 5 #[.slice A n cap, uval u, uval v] w fun e w' => e = .returned (.bool true) ∧ Below w.heap.size w w' := by
  obtain ⟨N, hN⟩ : ∃ N, N = min n 300 := ⟨_, rfl⟩
  have rM := min_run (n : Int) 300 (N : Int) (by omega)
  obtain ⟨A1, hC1, hs1⟩ := hA.to_ (k := N) (by omega) (N : Int) rfl
  obtain ⟨l0, hl0⟩ : ∃ l0, l0 = cs0.take N := ⟨_, rfl⟩
  rw [← hl0] at hC1
  have HL0 := Lib.hid hC1.len
  have HC1 := Lib.hid hC1
  have hNb : N ≤ 300 := by omega
  have hn9 : n ≤ 9223372036854775807 := by have := hA.le; have := hA.cap; unfold maxLen at *; omega
  have HF1 := fun w => Lib.hid (fits_any u N w)
  have HF2 := fun w => Lib.hid (fits_any v N w)
  have HJu := Lib.hid hu.2.2.1
  have HJv := Lib.hid hv.2.2.1
  have HO1 := fun w => Lib.hid (over_any u v w)
  have HO2 := fun w => Lib.hid (over_any v u w)
  have G1 := fun w => Lib.hid (grows_any u w)
  clear hA hC1 hl0 hN hu hv
  obtain ⟨k, p, c, x, y⟩ := u
  obtain ⟨k', p', c', x', y'⟩ := v
  have hqi := fun w => eql_id x y x' y' w
  have hgi := fun o1 o2 w => guard_id .eql o1 o2 #[.int .u32 x, .int .u64 y] #[.int .u32 x', .int .u64 y'] w
  obtain ⟨W0, hW0⟩ : ∃ W0, W0 = (w.alloc (.cells #[.int .i64 k, .int .i64 p, .int .i32 c, .int .u32 x, .int .u64 y] 65)).alloc (.cells #[.int .i64 k', .int .i64 p', .int .i32 c', .int .u32 x', .int .u64 y'] 65) := ⟨_, rfl⟩
  have HK0 := Lib.hid (show K3 w k p c x y k' p' c' x' y' W0 from by
    rw [hW0]
    exact ⟨below_alloc (below_box _ _) _, (uat_new w k p c x y).alloc _, heap_new (by simp)⟩)
  unfold uval at *
  simp only at *
  go_enter Try.func5, Try.ntmps5
  go_upto_region 3 with fail
  rw [← hW0]
  have HW0 := Lib.hid hW0
  clear hW0
  go_cut [51] (fun C wx => C = .bool (bad k p c x y k' p' c' x' y' N) ∧ K3 w k p c x y k' p' c' x' y' wx)
  case first =>
    obtain ⟨c0, c1, c2, c3, c4⟩ := HK0.out.2.1.cells
    by_cases h1 : Pl.Fit ⟨k, p, c, x, y⟩ N
    · rw [decide_eq_true h1] at HF1
      go_wp2_with fail
      refine (HF1 _).out.mono ?_
      rintro e w1 ⟨rfl, hb1⟩
      have HK1 := Lib.hid (HK0.out.then_ hb1)
      clear c0 c1 c2 c3 c4 hb1
      obtain ⟨c0, c1, c2, c3, c4⟩ := HK1.out.2.1.cells
      obtain ⟨d0, d1, d2, d3, d4⟩ := HK1.out.2.2.cells
      by_cases h2 : Pl.Fit ⟨k', p', c', x', y'⟩ N
      · rw [decide_eq_true h2] at HF2
        go_wp2_with fail
        refine (HF2 _).out.mono ?_
        rintro e w2 ⟨rfl, hb2⟩
        have HK2 := Lib.hid (HK1.out.then_ hb2)
        clear c0 c1 c2 c3 c4 d0 d1 d2 d3 d4 hb2
        obtain ⟨c0, c1, c2, c3, c4⟩ := HK2.out.2.1.cells
        obtain ⟨d0, d1, d2, d3, d4⟩ := HK2.out.2.2.cells
        have HBD := Lib.hid (show bad k p c x y k' p' c' x' y' N = (decide (k = 1) && decide (k' = 1) && decide (x = x' ∧ y = y')) from by unfold bad; rw [decide_eq_true h1, decide_eq_true h2]; rfl)
        clear h1 h2
        by_cases h3 : k = 1
        · by_cases h4 : k' = 1
          · subst h3 h4
            go_wp2_with fail
            go_meet
            exact ⟨by rw [HBD.out]; simp, HK2.out⟩
          · have h4b : (k' == 1) = false := by simpa using h4
            subst h3
            go_wp2_with fail
            go_meet
            exact ⟨by rw [HBD.out]; simp [h4], HK2.out⟩
        · have h3b : (k == 1) = false := by simpa using h3
          go_wp2_with fail
          go_meet
          exact ⟨by rw [HBD.out]; simp [h3], HK2.out⟩
      · rw [decide_eq_false h2] at HF2
        have HBD := Lib.hid (show bad k p c x y k' p' c' x' y' N = true from by unfold bad; rw [decide_eq_true h1, decide_eq_false h2]; rfl)
        clear h1 h2
        go_wp2_with fail
        refine (HF2 _).out.mono ?_
        rintro e w2 ⟨rfl, hb2⟩
        have HK2 := Lib.hid (HK1.out.then_ hb2)
        clear c0 c1 c2 c3 c4 d0 d1 d2 d3 d4 hb2
        go_wp2_with fail
        go_meet
        exact ⟨by rw [HBD.out], HK2.out⟩
    · rw [decide_eq_false h1] at HF1
      have HBD := Lib.hid (show bad k p c x y k' p' c' x' y' N = true from by unfold bad; rw [decide_eq_false h1]; rfl)
      clear h1
      go_wp2_with fail
      refine (HF1 _).out.mono ?_
      rintro e w1 ⟨rfl, hb1⟩
      have HK1 := Lib.hid (HK0.out.then_ hb1)
      clear c0 c1 c2 c3 c4 hb1
      go_wp2_with fail
      go_meet
      exact ⟨by rw [HBD.out], HK1.out⟩
  case rest =>
    obtain ⟨rfl, hK⟩ := hcut
    have HK := Lib.hid hK
    clear hK hqi hgi HF1 HF2
    obtain ⟨bd, hbd⟩ : ∃ bd, bd = bad k p c x y k' p' c' x' y' N := ⟨_, rfl⟩
    rw [← hbd]
    have HBD := Lib.hid hbd
    clear hbd
    cases bd with
    | true =>
      go_wp2_with fail
      refine (wakes_any _).mono ?_
      rintro e w9 ⟨rfl, hb9⟩
      have HB9 := Lib.hid (HK.out.1.trans (hb9.mono HK.out.1.size))
      clear hb9
      go_wp2_with fail
      go_ret
      exact ⟨rfl, HB9.out⟩
    | false =>
      have HG := Lib.hid (show Pl.Fit ⟨k, p, c, x, y⟩ N ∧ Pl.Fit ⟨k', p', c', x', y'⟩ N ∧ ¬ (k = 1 ∧ k' = 1 ∧ x = x' ∧ y = y') from by
        have := HBD.out
        unfold bad at this
        simp only [Bool.false_eq, Bool.or_eq_false_iff, Bool.not_eq_false', Bool.and_eq_false_iff, decide_eq_true_eq, decide_eq_false_iff_not] at this
        obtain ⟨⟨h1, h2⟩, h3⟩ := this
        refine ⟨h1, h2, fun h => ?_⟩
        rcases h3 with (h3 | h3) | h3
        · exact h3 h.1
        · exact h3 h.2.1
        · exact h3 h.2.2)
      clear HBD
      obtain ⟨X, hX⟩ : ∃ X, X = Pl.behind ⟨k, p, c, x, y⟩ l0 := ⟨_, rfl⟩
      obtain ⟨Y, hY⟩ : ∃ Y, Y = Pl.behind ⟨k', p', c', x', y'⟩ l0 := ⟨_, rfl⟩
      obtain ⟨r1, hr1⟩ : ∃ r1, r1 = Pl.over ⟨k, p, c, x, y⟩ ⟨k', p', c', x', y'⟩ := ⟨_, rfl⟩
      obtain ⟨r2, hr2⟩ : ∃ r2, r2 = Pl.over ⟨k', p', c', x', y'⟩ ⟨k, p, c, x, y⟩ := ⟨_, rfl⟩
      rw [← hr1] at HO1
      rw [← hr2] at HO2
      obtain ⟨Z, hZ⟩ : ∃ Z, Z = Pl.behind r2 X := ⟨_, rfl⟩
      have HF := Lib.hid (show Pl.Fit r2 X.length ∧ Pl.Fit r1 Y.length ∧ Z = Pl.behind r1 Y ∧ (X.length : Int) = N + Pl.grows k ∧ (Z.length : Int) = X.length + Pl.grows r2.k ∧ X.length ≤ 301 ∧ Y.length ≤ 301 from by
        have g1 : Pl.Fit ⟨k, p, c, x, y⟩ l0.length := by rw [HL0.out]; exact HG.out.1
        have g2 : Pl.Fit ⟨k', p', c', x', y'⟩ l0.length := by rw [HL0.out]; exact HG.out.2.1
        obtain ⟨h1, h2, h3⟩ := Pl.both (cs := l0) (by rw [HL0.out]; omega) g1 g2 HG.out.2.2
        rw [← hX, ← hY, ← hr1, ← hr2] at h3
        rw [← hr2, ← hX] at h1
        rw [← hr1, ← hY] at h2
        have h4 := Pl.len_behind g1
        have h5 := Pl.len_behind g2
        have h6 := Pl.len_behind h1
        rw [← hX, HL0.out] at h4
        rw [← hY, HL0.out] at h5
        rw [← hZ] at h6 h3
        simp only at h4 h5
        have e1 : Pl.grows k ≤ 1 := by unfold Pl.grows; split <;> (try split) <;> omega
        have e2 : Pl.grows k' ≤ 1 := by unfold Pl.grows; split <;> (try split) <;> omega
        exact ⟨h1, h2, h3, h4, h6, by omega, by omega⟩)
      have HX5 := Lib.hid (apply_fit ⟨k, p, c, x, y⟩ A1 N cap l0 X wc hX (HC1.out.then_ HK.out.1) (by omega) HG.out.1)
      have HY5 := fun w1 (hb : Below w.heap.size w w1) => Lib.hid (apply_fit ⟨k', p', c', x', y'⟩ A1 N cap l0 Y w1 hY (HC1.out.then_ hb) (by omega) HG.out.2.1)
      have HZ := Lib.hid hZ
      have HR := Lib.hid (And.intro hr1 hr2)
      clear hX hY hZ hr1 hr2 HC1 HG
      unfold uval at HX5 HY5
      simp only at HX5 HY5
      obtain ⟨c0, c1, c2, c3, c4⟩ := HK.out.2.1.cells
      go_wp2_with fail
      refine HX5.out.mono ?_
      rintro e w2 ⟨A8, XL, c8, rfl, hO8, hb2⟩
      have HK2 := Lib.hid (HK.out.then_ hb2)
      have hXL : XL = X.length := hO8.crs.1
      have HXL := Lib.hid hXL
      have HO8 := Lib.hid hO8.crs.2
      clear hO8 hb2 c0 c1 c2 c3 c4 HX5 HK hXL
      obtain ⟨c0, c1, c2, c3, c4⟩ := HK2.out.2.2.cells
      have HY6 := Lib.hid (HY5 w2 HK2.out.1).out
      clear HY5
      go_wp2_with fail
      refine HY6.out.mono ?_
      rintro e w3 ⟨A10, YL, c10, rfl, hO10, hb3⟩
      have HK3 := Lib.hid (HK2.out.then_ hb3)
      have hYL : YL = Y.length := hO10.crs.1
      have HYL := Lib.hid hYL
      have HO10 := Lib.hid hO10.crs.2
      have HO8' := Lib.hid (HO8.out.then_ hb3)
      clear hO10 hb3 c0 c1 c2 c3 c4 HY6 HK2 hYL HO8
      obtain ⟨a0, a1, a2, a3, a4⟩ := r1
      obtain ⟨d0, d1, d2, d3, d4⟩ := r2
      simp only at HO1 HO2
      go_upto_region 7 with fail
      refine Rv.wp_region_inv (PS w3 12 13 a0 a1 a2 a3 a4 d0 d1 d2 d3 d4) PR (Rv.Wd.at [.is (.agg #[.int .i64 k, .int .i64 p, .int .i32 c, .int .u32 x, .int .u64 y]), .is (.agg #[.int .i64 k', .int .i64 p', .int .i32 c', .int .u32 x', .int .u64 y']), .is (.agg #[.int .i64 a0, .int .i64 a1, .int .i32 a2, .int .u32 a3, .int .u64 a4]), .is (.agg #[.int .i64 k', .int .i64 p', .int .i32 c', .int .u32 x', .int .u64 y']), .is (.agg #[.int .i64 k, .int .i64 p, .int .i32 c, .int .u32 x, .int .u64 y]), .is (.agg #[.int .i64 d0, .int .i64 d1, .int .i32 d2, .int .u32 d3, .int .u64 d4]), .any, .any, .any, .any]) (by kernel_rfl) (by kernel_rfl) (Rv.Wd.stays _ _ (fun i q hi => (by rcases i with _ | _ | _ | _ | _ | _ | _ | _ | _ | _ | i <;> simp at hi))) (PS.begin (by simp) (by simp)) ⟨?_, ?_, ?_, ?_, ?_, ?_, ?_, ?_, ?_, ?_, trivial⟩ ?_
      · intro L a w1 hL hS hb hd
        have e4 := hb 4 (Rv.nw (by decide))
        simp [Act.eval] at e4
        obtain ⟨c0, c1, c2, c3, c4⟩ := ((HK3.out.2.1).then_ hS.below).cells
        exact Rv.does_pure (Rv.wanted_none rfl) (by simp [execOp, e4, c0, c1, c2, c3, c4, go_sem]) rfl (hS.put (d := 65) (by decide) (by decide) (by decide) (Below.refl _ _)) trivial
      · intro L a w1 hL hS hb hd
        have e5 := hb 5 (Rv.nw (by decide))
        simp [Act.eval] at e5
        obtain ⟨c0, c1, c2, c3, c4⟩ := ((HK3.out.2.2).then_ hS.below).cells
        exact Rv.does_pure (Rv.wanted_none rfl) (by simp [execOp, e5, c0, c1, c2, c3, c4, go_sem]) rfl (hS.put (d := 66) (by decide) (by decide) (by decide) (Below.refl _ _)) trivial
      · intro L a w1 hL hS hb hd
        have p1 := (hd ⟨0, .data⟩ (by simp) rfl).2 _ _ rfl rfl
        have e1 : a.tmps[65]?.getD undef = .agg #[.int .i64 k, .int .i64 p, .int .i32 c, .int .u32 x, .int .u64 y] := Rv.slot p1
        have p2 := (hd ⟨1, .data⟩ (by simp) rfl).2 _ _ rfl rfl
        have e2 : a.tmps[66]?.getD undef = .agg #[.int .i64 k', .int .i64 p', .int .i32 c', .int .u32 x', .int .u64 y'] := Rv.slot p2
        refine Rv.does_call (f := 37) (args := #[.agg #[.int .i64 k, .int .i64 p, .int .i32 c, .int .u32 x, .int .u64 y], .agg #[.int .i64 k', .int .i64 p', .int .i32 c', .int .u32 x', .int .u64 y']]) (Rv.wanted_none rfl) (by simp [e1, e2, go_sem]) (((HO1 w1).out).mono ?_)
        rintro e w3 ⟨rfl, hb3⟩
        exact ⟨_, rfl, rfl, hS.put (d := 67) (by decide) (by decide) (by decide) hb3, trivial⟩
      · intro L a w1 hL hS hb hd
        have e5 := hb 5 (Rv.nw (by decide))
        simp [Act.eval] at e5
        obtain ⟨c0, c1, c2, c3, c4⟩ := ((HK3.out.2.2).then_ hS.below).cells
        exact Rv.does_pure (Rv.wanted_none rfl) (by simp [execOp, e5, c0, c1, c2, c3, c4, go_sem]) rfl (hS.put (d := 68) (by decide) (by decide) (by decide) (Below.refl _ _)) trivial
      · intro L a w1 hL hS hb hd
        have e4 := hb 4 (Rv.nw (by decide))
        simp [Act.eval] at e4
        obtain ⟨c0, c1, c2, c3, c4⟩ := ((HK3.out.2.1).then_ hS.below).cells
        exact Rv.does_pure (Rv.wanted_none rfl) (by simp [execOp, e4, c0, c1, c2, c3, c4, go_sem]) rfl (hS.put (d := 69) (by decide) (by decide) (by decide) (Below.refl _ _)) trivial
      · intro L a w1 hL hS hb hd
        have p1 := (hd ⟨3, .data⟩ (by simp) rfl).2 _ _ rfl rfl
        have e1 : a.tmps[68]?.getD undef = .agg #[.int .i64 k', .int .i64 p', .int .i32 c', .int .u32 x', .int .u64 y'] := Rv.slot p1
        have p2 := (hd ⟨4, .data⟩ (by simp) rfl).2 _ _ rfl rfl
        have e2 : a.tmps[69]?.getD undef = .agg #[.int .i64 k, .int .i64 p, .int .i32 c, .int .u32 x, .int .u64 y] := Rv.slot p2
        refine Rv.does_call (f := 37) (args := #[.agg #[.int .i64 k', .int .i64 p', .int .i32 c', .int .u32 x', .int .u64 y'], .agg #[.int .i64 k, .int .i64 p, .int .i32 c, .int .u32 x, .int .u64 y]]) (Rv.wanted_none rfl) (by simp [e1, e2, go_sem]) (((HO2 w1).out).mono ?_)
        rintro e w3 ⟨rfl, hb3⟩
        exact ⟨_, rfl, rfl, hS.put (d := 70) (by decide) (by decide) (by decide) hb3, trivial⟩
      · intro L a w1 hL hS hb hd
        exact Rv.does_run (Rv.wanted_none rfl) (by simp [execOp, go_sem]) trivial (hS.new1 (by decide) hL) trivial
      · intro L a w1 hL hS hb hd
        exact Rv.does_run (Rv.wanted_none rfl) (by simp [execOp, go_sem]) trivial (hS.new2 (by decide) hL) trivial
      · intro L a w1 hL hS hb hd
        have p1 := (hd ⟨2, .data⟩ (by simp) rfl).2 _ _ rfl rfl
        have e1 : a.tmps[67]?.getD undef = .agg #[.int .i64 a0, .int .i64 a1, .int .i32 a2, .int .u32 a3, .int .u64 a4] := Rv.slot p1
        have q6 := (hd ⟨6, .data⟩ (by simp) rfl).1
        obtain ⟨b, eb, _⟩ := hS.half1 q6
        obtain ⟨hz, hn⟩ := hS.laid1 eb q6 hL
        obtain ⟨d0, d1, d2, d3, d4⟩ := hz.cells
        have f2 := fun j => hz.frozen j
        have e2 : a.tmps[12]?.getD undef = .pointer (some ⟨b, 0, none⟩) := Rv.slot eb
        exact Rv.does_skip rfl (Rv.wanted_none rfl) (by simp [execOp, e1, e2, go_sem, d0, d1, d2, d3, d4, f2]) trivial hn trivial
      · intro L a w1 hL hS hb hd
        have p1 := (hd ⟨5, .data⟩ (by simp) rfl).2 _ _ rfl rfl
        have e1 : a.tmps[70]?.getD undef = .agg #[.int .i64 d0, .int .i64 d1, .int .i32 d2, .int .u32 d3, .int .u64 d4] := Rv.slot p1
        have q6 := (hd ⟨7, .data⟩ (by simp) rfl).1
        obtain ⟨b, eb, _⟩ := hS.half2 q6
        obtain ⟨hz, hn⟩ := hS.laid2 eb q6 hL
        obtain ⟨d0, d1, d2, d3, d4⟩ := hz.cells
        have f2 := fun j => hz.frozen j
        have e2 : a.tmps[13]?.getD undef = .pointer (some ⟨b, 0, none⟩) := Rv.slot eb
        exact Rv.does_skip rfl (Rv.wanted_none rfl) (by simp [execOp, e1, e2, go_sem, d0, d1, d2, d3, d4, f2]) trivial hn trivial
      · intro L v w5 hS hall hv
        obtain ⟨b1, b2, hv1, hv2, hne, hg1, hg2, hu1, hu2, hB5⟩ := hS.done (fun i hi => hall i hi)
        replace hv1 : v 6 = .pointer (some ⟨b1, 0, none⟩) := (hv 6 _ _ rfl rfl).2.symm.trans hv1
        replace hv2 : v 7 = .pointer (some ⟨b2, 0, none⟩) := (hv 7 _ _ rfl rfl).2.symm.trans hv2
        simp only [Rv.putAll, Nat.zero_add, Nat.reduceAdd]
        simp only [Act.put, List.setIfInBounds_toArray, List.set_cons_succ, List.set_cons_zero]
        rw [hv1, hv2]
        clear hv1 hv2 hS hall hv
        have HK5 := Lib.hid (HK3.out.then_ hB5)
        have HU5 := Lib.hid (And.intro hu1 hu2)
        have H8 := Lib.hid (HO8'.out.then_ hB5)
        have H10 := Lib.hid (HO10.out.then_ hB5)
        clear hu1 hu2 hB5 hne hg1 hg2 HK3 HO8' HO10 HO1 HO2
        have HP := Lib.hid (apply_fit ⟨d0, d1, d2, d3, d4⟩ A8 XL c8 X Z w5 HZ.out H8.out (by have := HF.out.2.2.2.2.2.1; rw [HXL.out]; omega) (by rw [HXL.out]; exact HF.out.1))
        have HQ := fun w1 (hb : Below w5.heap.size w5 w1) => Lib.hid (apply_fit ⟨a0, a1, a2, a3, a4⟩ A10 YL c10 Y Z w1 HF.out.2.2.1 (H10.out.then_ hb) (by have := HF.out.2.2.2.2.2.2; rw [HYL.out]; omega) (by rw [HYL.out]; exact HF.out.2.1))
        unfold uval at HP HQ
        simp only at HP HQ
        obtain ⟨c0, c1, c2, c3, c4⟩ := HU5.out.2.cells
        go_wp2_with fail
        refine HP.out.mono ?_
        rintro e w6 ⟨A14, ZL, c14, rfl, hO14, hb6⟩
        have HB6 := Lib.hid hb6
        have HK6 := Lib.hid (HK5.out.then_ hb6)
        have HU6 := Lib.hid (And.intro (HU5.out.1.then_ hb6) (HU5.out.2.then_ hb6))
        have HZL := Lib.hid hO14.crs.1
        have H14 := Lib.hid hO14.crs.2
        have HQ6 := Lib.hid (HQ w6 hb6).out
        clear c0 c1 c2 c3 c4 hO14 hb6 HP HQ HK5 HU5
        obtain ⟨c0, c1, c2, c3, c4⟩ := HU6.out.1.cells
        go_wp2_with fail
        refine HQ6.out.mono ?_
        rintro e w7 ⟨A16, ZM, c16, rfl, hO16, hb7⟩
        have HK7 := Lib.hid (HK6.out.then_ hb7)
        have HU7 := Lib.hid (And.intro (HU6.out.1.then_ hb7) (HU6.out.2.then_ hb7))
        have HS := Lib.hid (same_any A14 A16 ZL c14 ZM c16 Z Z w7 (H14.out.then_ hb7) hO16.crs.2)
        clear c0 c1 c2 c3 c4 hO16 hb7 HQ6 HK6 HU6 H14
        rw [decide_eq_true rfl] at HS
        go_wp2_with fail
        refine HS.out.mono ?_
        rintro e w8 ⟨rfl, hb8⟩
        have HK8 := Lib.hid (HK7.out.then_ hb8)
        have HU := Lib.hid (And.intro (HK7.out.then_ hb8).2.1 (And.intro (HU7.out.1.then_ hb8) (HU7.out.2.then_ hb8)))
        clear hb8 HK7 HU7 HS
        have G2 := fun w => Lib.hid (grows_any ⟨d0, d1, d2, d3, d4⟩ w)
        have M1 := fun w => Lib.hid (okay_any ⟨a0, a1, a2, a3, a4⟩ w)
        have M2 := fun w => Lib.hid (okay_any ⟨d0, d1, d2, d3, d4⟩ w)
        rw [decide_eq_true HF.out.2.1.1] at M1
        rw [decide_eq_true HF.out.1.1] at M2
        unfold uval at G2 M1 M2
        simp only at G2 M1 M2
        obtain ⟨ga, hga⟩ : ∃ g, g = Pl.grows k := ⟨_, rfl⟩
        obtain ⟨gb, hgb⟩ : ∃ g, g = Pl.grows d0 := ⟨_, rfl⟩
        rw [← hga] at G1
        rw [← hgb] at G2
        have hw1 : IntKind.i64.wrap ((N : Int) + ga) = (XL : Int) := by
          rw [wrapEq]
          have := HF.out.2.2.2.1; have h2 := HF.out.2.2.2.2.2.1; rw [← HXL.out, ← hga] at this; rw [← HXL.out] at h2; unfold wrap64; omega
        have hw2 : IntKind.i64.wrap ((XL : Int) + gb) = (ZL : Int) := by
          rw [wrapEq]
          have := HF.out.2.2.2.2.1; have h2 := HF.out.2.2.2.2.2.1; rw [← HXL.out, ← HZL.out] at this; rw [← HXL.out] at h2; rw [← hgb] at this
          have e2 : gb ≤ 1 := by rw [hgb]; unfold Pl.grows; split <;> (try split) <;> omega
          unfold wrap64; omega
        clear hga hgb
        go_wp2_with fail
        refine Rg.wp_region_inv (fun w'' => Below w8.heap.size w8 w'') (Rg.Wd.at [.is (.slice A8 XL c8), .is (.int .i64 (XL : Int)), .is (.int .i64 (N : Int)), .is (.agg #[.int .i64 k, .int .i64 p, .int .i32 c, .int .u32 x, .int .u64 y]), .is (.int .i64 ga), .is (.int .i64 (XL : Int)), .is (.bool true), .is (.bool true), .is (.slice A14 ZL c14), .is (.int .i64 (ZL : Int)), .is (.int .i64 (N : Int)), .is (.agg #[.int .i64 k, .int .i64 p, .int .i32 c, .int .u32 x, .int .u64 y]), .is (.int .i64 ga), .is (.int .i64 (XL : Int)), .is (.agg #[.int .i64 d0, .int .i64 d1, .int .i32 d2, .int .u32 d3, .int .u64 d4]), .is (.int .i64 gb), .is (.int .i64 (ZL : Int)), .is (.bool true), .is (.bool true), .is (.bool true), .is (.agg #[.int .i64 a0, .int .i64 a1, .int .i32 a2, .int .u32 a3, .int .u64 a4]), .is (.bool true), .is (.bool true), .is (.bool true), .is (.agg #[.int .i64 d0, .int .i64 d1, .int .i32 d2, .int .u32 d3, .int .u64 d4]), .is (.bool true), .is (.bool true), .is (.bool true), .is (.bool true), .is (.bool true), .is (.bool true)]) (by kernel_rfl) (by kernel_rfl) (Rg.Wd.stays _ _) (below_drawn (Below.refl _ _)) ⟨?_, ?_, ?_, ?_, ?_, ?_, ?_, ?_, ?_, ?_, ?_, ?_, ?_, ?_, ?_, ?_, ?_, ?_, ?_, ?_, ?_, ?_, ?_, ?_, ?_, ?_, ?_, ?_, ?_, ?_, ?_, trivial⟩ ?_
        · intro a w1 hS hb hd
          have e8 := hb 8 (Rg.nw (by decide))
          simp [Act.eval] at e8
          exact Rg.does_pure (Rg.wanted_none rfl) (by simp [execOp, e8, go_sem]) hS rfl
        · intro a w1 hS hb hd
          have e103 := hd ⟨0, .data⟩ (by simp) rfl _ _ rfl rfl
          have e103 : a.tmps[103]?.getD undef = (.slice A8 XL c8) := Rg.slot e103
          exact Rg.does_pure (Rg.wanted_none rfl) (by simp [e103, go_sem]) hS rfl
        · intro a w1 hS hb hd
          have e7 := hb 7 (Rg.nw (by decide))
          simp [Act.eval] at e7
          exact Rg.does_pure (Rg.wanted_none rfl) (by simp [execOp, e7, go_sem]) hS rfl
        · intro a w1 hS hb hd
          have e4 := hb 4 (Rg.nw (by decide))
          simp [Act.eval] at e4
          exact Rg.does_pure (Rg.wanted_none rfl) (by simp [execOp, e4, (HU.out.1.then_ hS).cells, go_sem]) hS rfl
        · intro a w1 hS hb hd
          have e106 := hd ⟨3, .data⟩ (by simp) rfl _ _ rfl rfl
          have e106 : a.tmps[106]?.getD undef = (.agg #[.int .i64 k, .int .i64 p, .int .i32 c, .int .u32 x, .int .u64 y]) := Rg.slot e106
          refine Rg.does_call (f := 39) (args := #[.agg #[.int .i64 k, .int .i64 p, .int .i32 c, .int .u32 x, .int .u64 y]]) (Rg.wanted_none rfl) (by simp [e106, go_sem]) ?_
          exact (G1 w1).out.mono fun e w' ⟨h1, h2⟩ => ⟨_, h1, rfl, below_then hS h2, h2⟩
        · intro a w1 hS hb hd
          have e105 := hd ⟨2, .data⟩ (by simp) rfl _ _ rfl rfl
          have e105 : a.tmps[105]?.getD undef = (.int .i64 (N : Int)) := Rg.slot e105
          have e107 := hd ⟨4, .data⟩ (by simp) rfl _ _ rfl rfl
          have e107 : a.tmps[107]?.getD undef = (.int .i64 ga) := Rg.slot e107
          exact Rg.does_pure (Rg.wanted_none rfl) (by simp [execOp, e105, e107, hw1, go_sem]) hS rfl
        · intro a w1 hS hb hd
          have e104 := hd ⟨1, .data⟩ (by simp) rfl _ _ rfl rfl
          have e104 : a.tmps[104]?.getD undef = (.int .i64 (XL : Int)) := Rg.slot e104
          have e108 := hd ⟨5, .data⟩ (by simp) rfl _ _ rfl rfl
          have e108 : a.tmps[108]?.getD undef = (.int .i64 (XL : Int)) := Rg.slot e108
          exact Rg.does_pure (Rg.wanted_none rfl) (by simp [execOp, e104, e108, go_sem]) hS rfl
        · intro a w1 hS hb hd
          have e109 := hd ⟨6, .data⟩ (by simp) rfl _ _ rfl rfl
          have e109 : a.tmps[109]?.getD undef = (.bool true) := Rg.slot e109
          exact Rg.does_pure (Rg.wanted_none rfl) (by simp [execOp, e109, go_sem]) hS rfl
        · intro a w1 hS hb hd
          have e14 := hb 14 (Rg.nw (by decide))
          simp [Act.eval] at e14
          have e110 := hd ⟨7, .guard⟩ (by simp) rfl _ _ rfl rfl
          exact Rg.does_pure (Rg.wanted_some rfl rfl rfl e110) (by simp [execOp, e14, go_sem]) hS rfl
        · intro a w1 hS hb hd
          have e111 := hd ⟨8, .data⟩ (by simp) rfl _ _ rfl rfl
          have e111 : a.tmps[111]?.getD undef = (.slice A14 ZL c14) := Rg.slot e111
          have e110 := hd ⟨7, .guard⟩ (by simp) rfl _ _ rfl rfl
          exact Rg.does_pure (Rg.wanted_some rfl rfl rfl e110) (by simp [e111, go_sem]) hS rfl
        · intro a w1 hS hb hd
          have e7 := hb 7 (Rg.nw (by decide))
          simp [Act.eval] at e7
          have e110 := hd ⟨7, .guard⟩ (by simp) rfl _ _ rfl rfl
          exact Rg.does_pure (Rg.wanted_some rfl rfl rfl e110) (by simp [execOp, e7, go_sem]) hS rfl
        · intro a w1 hS hb hd
          have e4 := hb 4 (Rg.nw (by decide))
          simp [Act.eval] at e4
          have e110 := hd ⟨7, .guard⟩ (by simp) rfl _ _ rfl rfl
          exact Rg.does_pure (Rg.wanted_some rfl rfl rfl e110) (by simp [execOp, e4, (HU.out.1.then_ hS).cells, go_sem]) hS rfl
        · intro a w1 hS hb hd
          have e114 := hd ⟨11, .data⟩ (by simp) rfl _ _ rfl rfl
          have e114 : a.tmps[114]?.getD undef = (.agg #[.int .i64 k, .int .i64 p, .int .i32 c, .int .u32 x, .int .u64 y]) := Rg.slot e114
          have e110 := hd ⟨7, .guard⟩ (by simp) rfl _ _ rfl rfl
          refine Rg.does_call (f := 39) (args := #[.agg #[.int .i64 k, .int .i64 p, .int .i32 c, .int .u32 x, .int .u64 y]]) (Rg.wanted_some rfl rfl rfl e110) (by simp [e114, go_sem]) ?_
          exact (G1 w1).out.mono fun e w' ⟨h1, h2⟩ => ⟨_, h1, rfl, below_then hS h2, h2⟩
        · intro a w1 hS hb hd
          have e113 := hd ⟨10, .data⟩ (by simp) rfl _ _ rfl rfl
          have e113 : a.tmps[113]?.getD undef = (.int .i64 (N : Int)) := Rg.slot e113
          have e115 := hd ⟨12, .data⟩ (by simp) rfl _ _ rfl rfl
          have e115 : a.tmps[115]?.getD undef = (.int .i64 ga) := Rg.slot e115
          have e110 := hd ⟨7, .guard⟩ (by simp) rfl _ _ rfl rfl
          exact Rg.does_pure (Rg.wanted_some rfl rfl rfl e110) (by simp [execOp, e113, e115, hw1, go_sem]) hS rfl
        · intro a w1 hS hb hd
          have e13 := hb 13 (Rg.nw (by decide))
          simp [Act.eval] at e13
          have e110 := hd ⟨7, .guard⟩ (by simp) rfl _ _ rfl rfl
          exact Rg.does_pure (Rg.wanted_some rfl rfl rfl e110) (by simp [execOp, e13, (HU.out.2.2.then_ hS).cells, go_sem]) hS rfl
        · intro a w1 hS hb hd
          have e117 := hd ⟨14, .data⟩ (by simp) rfl _ _ rfl rfl
          have e117 : a.tmps[117]?.getD undef = (.agg #[.int .i64 d0, .int .i64 d1, .int .i32 d2, .int .u32 d3, .int .u64 d4]) := Rg.slot e117
          have e110 := hd ⟨7, .guard⟩ (by simp) rfl _ _ rfl rfl
          refine Rg.does_call (f := 39) (args := #[.agg #[.int .i64 d0, .int .i64 d1, .int .i32 d2, .int .u32 d3, .int .u64 d4]]) (Rg.wanted_some rfl rfl rfl e110) (by simp [e117, go_sem]) ?_
          exact (G2 w1).out.mono fun e w' ⟨h1, h2⟩ => ⟨_, h1, rfl, below_then hS h2, h2⟩
        · intro a w1 hS hb hd
          have e116 := hd ⟨13, .data⟩ (by simp) rfl _ _ rfl rfl
          have e116 : a.tmps[116]?.getD undef = (.int .i64 (XL : Int)) := Rg.slot e116
          have e118 := hd ⟨15, .data⟩ (by simp) rfl _ _ rfl rfl
          have e118 : a.tmps[118]?.getD undef = (.int .i64 gb) := Rg.slot e118
          have e110 := hd ⟨7, .guard⟩ (by simp) rfl _ _ rfl rfl
          exact Rg.does_pure (Rg.wanted_some rfl rfl rfl e110) (by simp [execOp, e116, e118, hw2, go_sem]) hS rfl
        · intro a w1 hS hb hd
          have e112 := hd ⟨9, .data⟩ (by simp) rfl _ _ rfl rfl
          have e112 : a.tmps[112]?.getD undef = (.int .i64 (ZL : Int)) := Rg.slot e112
          have e119 := hd ⟨16, .data⟩ (by simp) rfl _ _ rfl rfl
          have e119 : a.tmps[119]?.getD undef = (.int .i64 (ZL : Int)) := Rg.slot e119
          have e110 := hd ⟨7, .guard⟩ (by simp) rfl _ _ rfl rfl
          exact Rg.does_pure (Rg.wanted_some rfl rfl rfl e110) (by simp [execOp, e112, e119, go_sem]) hS rfl
        · intro a w1 hS hb hd
          have e110 := hd ⟨7, .data⟩ (by simp) rfl _ _ rfl rfl
          have e110 : a.tmps[110]?.getD undef = (.bool true) := Rg.slot e110
          have e120 := hd ⟨17, .data⟩ (by simp) rfl _ _ rfl rfl
          have e120 : a.tmps[120]?.getD undef = (.bool true) := Rg.slot e120
          exact Rg.does_pure (Rg.wanted_none rfl) (by simp [execOp, e110, e120, go_sem]) hS rfl
        · intro a w1 hS hb hd
          have e121 := hd ⟨18, .data⟩ (by simp) rfl _ _ rfl rfl
          have e121 : a.tmps[121]?.getD undef = (.bool true) := Rg.slot e121
          exact Rg.does_pure (Rg.wanted_none rfl) (by simp [execOp, e121, go_sem]) hS rfl
        · intro a w1 hS hb hd
          have e12 := hb 12 (Rg.nw (by decide))
          simp [Act.eval] at e12
          have e122 := hd ⟨19, .guard⟩ (by simp) rfl _ _ rfl rfl
          exact Rg.does_pure (Rg.wanted_some rfl rfl rfl e122) (by simp [execOp, e12, (HU.out.2.1.then_ hS).cells, go_sem]) hS rfl
        · intro a w1 hS hb hd
          have e123 := hd ⟨20, .data⟩ (by simp) rfl _ _ rfl rfl
          have e123 : a.tmps[123]?.getD undef = (.agg #[.int .i64 a0, .int .i64 a1, .int .i32 a2, .int .u32 a3, .int .u64 a4]) := Rg.slot e123
          have e122 := hd ⟨19, .guard⟩ (by simp) rfl _ _ rfl rfl
          refine Rg.does_call (f := 40) (args := #[.agg #[.int .i64 a0, .int .i64 a1, .int .i32 a2, .int .u32 a3, .int .u64 a4]]) (Rg.wanted_some rfl rfl rfl e122) (by simp [e123, go_sem]) ?_
          exact (M1 w1).out.mono fun e w' ⟨h1, h2⟩ => ⟨_, h1, rfl, below_then hS h2, h2⟩
        · intro a w1 hS hb hd
          have e122 := hd ⟨19, .data⟩ (by simp) rfl _ _ rfl rfl
          have e122 : a.tmps[122]?.getD undef = (.bool true) := Rg.slot e122
          have e124 := hd ⟨21, .data⟩ (by simp) rfl _ _ rfl rfl
          have e124 : a.tmps[124]?.getD undef = (.bool true) := Rg.slot e124
          exact Rg.does_pure (Rg.wanted_none rfl) (by simp [execOp, e122, e124, go_sem]) hS rfl
        · intro a w1 hS hb hd
          have e125 := hd ⟨22, .data⟩ (by simp) rfl _ _ rfl rfl
          have e125 : a.tmps[125]?.getD undef = (.bool true) := Rg.slot e125
          exact Rg.does_pure (Rg.wanted_none rfl) (by simp [execOp, e125, go_sem]) hS rfl
        · intro a w1 hS hb hd
          have e13 := hb 13 (Rg.nw (by decide))
          simp [Act.eval] at e13
          have e126 := hd ⟨23, .guard⟩ (by simp) rfl _ _ rfl rfl
          exact Rg.does_pure (Rg.wanted_some rfl rfl rfl e126) (by simp [execOp, e13, (HU.out.2.2.then_ hS).cells, go_sem]) hS rfl
        · intro a w1 hS hb hd
          have e127 := hd ⟨24, .data⟩ (by simp) rfl _ _ rfl rfl
          have e127 : a.tmps[127]?.getD undef = (.agg #[.int .i64 d0, .int .i64 d1, .int .i32 d2, .int .u32 d3, .int .u64 d4]) := Rg.slot e127
          have e126 := hd ⟨23, .guard⟩ (by simp) rfl _ _ rfl rfl
          refine Rg.does_call (f := 40) (args := #[.agg #[.int .i64 d0, .int .i64 d1, .int .i32 d2, .int .u32 d3, .int .u64 d4]]) (Rg.wanted_some rfl rfl rfl e126) (by simp [e127, go_sem]) ?_
          exact (M2 w1).out.mono fun e w' ⟨h1, h2⟩ => ⟨_, h1, rfl, below_then hS h2, h2⟩
        · intro a w1 hS hb hd
          have e126 := hd ⟨23, .data⟩ (by simp) rfl _ _ rfl rfl
          have e126 : a.tmps[126]?.getD undef = (.bool true) := Rg.slot e126
          have e128 := hd ⟨25, .data⟩ (by simp) rfl _ _ rfl rfl
          have e128 : a.tmps[128]?.getD undef = (.bool true) := Rg.slot e128
          exact Rg.does_pure (Rg.wanted_none rfl) (by simp [execOp, e126, e128, go_sem]) hS rfl
        · intro a w1 hS hb hd
          have e129 := hd ⟨26, .data⟩ (by simp) rfl _ _ rfl rfl
          have e129 : a.tmps[129]?.getD undef = (.bool true) := Rg.slot e129
          exact Rg.does_pure (Rg.wanted_none rfl) (by simp [execOp, e129, go_sem]) hS rfl
        · intro a w1 hS hb hd
          have e130 := hd ⟨27, .guard⟩ (by simp) rfl _ _ rfl rfl
          refine Rg.does_call (f := 35) (args := #[]) (Rg.wanted_some rfl rfl rfl e130) (by simp [go_sem]) ?_
          exact (wakes_any w1).mono fun e w' ⟨h1, h2⟩ => ⟨_, h1, rfl, below_then hS h2, h2⟩
        · intro a w1 hS hb hd
          have e130 := hd ⟨27, .data⟩ (by simp) rfl _ _ rfl rfl
          have e130 : a.tmps[130]?.getD undef = (.bool true) := Rg.slot e130
          have e131 := hd ⟨28, .data⟩ (by simp) rfl _ _ rfl rfl
          have e131 : a.tmps[131]?.getD undef = (.bool true) := Rg.slot e131
          exact Rg.does_pure (Rg.wanted_none rfl) (by simp [execOp, e130, e131, go_sem]) hS rfl
        · intro a w1 hS hb hd
          have e132 := hd ⟨29, .data⟩ (by simp) rfl _ _ rfl rfl
          have e132 : a.tmps[132]?.getD undef = (.bool true) := Rg.slot e132
          exact Rg.does_pure (Rg.wanted_none rfl) (by simp [execOp, e132, go_sem]) hS rfl
        intro v w9 hS hv
        have h6 : v 30 = .bool true := hv 30 _ _ rfl rfl
        have HB9 := Lib.hid (HK8.out.1.trans (hS.mono HK8.out.1.size))
        simp only [Rg.putAll, Nat.zero_add, Nat.reduceAdd]
        simp only [Act.put, List.setIfInBounds_toArray, List.set_cons_succ, List.set_cons_zero]
        rw [h6]
        clear h6 hv hS HU HK8
        go_wp2_with fail
        go_ret
        exact ⟨rfl, HB9.out⟩
end Go.Proofs.Ytogmddneimhpeaa.unitBoth
