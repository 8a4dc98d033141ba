/-
  The walk of copybooklaw06.UnitOrder: it returns true; nothing that was there turned. No conditions.
-/
import Derived.Test.YtogmddneimhpeaaUniP
import Derived.Deep.DeepCutAuto
import Derived.Deep.CutRange
namespace Go.Proofs.Ytogmddneimhpeaa.unitOrder
open Go.RowKit
open Pl (Un)

/-- an Id's cells at the head of a block -/
def IAt (w : World) (b : Nat) (x y : Int) : Prop := w.heap[b]? = some (.cells #[.int .u32 x, .int .u64 y] 63 (0, 0))
theorem IAt.then_ {w w' : World} {b : Nat} {x y : Int} (h : IAt w b x y) (hb : Below w.heap.size w w') : IAt w' b x y := below_old hb h (lt_of_block h)
theorem IAt.cells {w : World} {b : Nat} {x y : Int} (h : IAt w b x y) : w.cell? ⟨b, 0, none⟩ = some (.int .u32 x) ∧ w.cell? ⟨b, 1, none⟩ = some (.int .u64 y) := by
  unfold IAt at h
  refine ⟨?_, ?_⟩ <;> (rw [cell_of_row w b _ _ _ _ h]; rfl)
/-- two units of one Id, one ahead of the other, behind any unit -/
theorem plain (k f s x y : Int) (b : Un) (hk : k = 1 ∨ k = 2) (h0 : 0 ≤ f) (h1 : f ≤ s) (h2 : s < 100) :
    (∃ P Q, Pl.over ⟨k, f, 120, x, y⟩ b = ⟨k, P, 120, x, y⟩ ∧ Pl.over ⟨k, s, 121, x, y⟩ b = ⟨k, Q, 121, x, y⟩ ∧ P ≤ Q ∧ P - f ≤ 1 ∧ f - P ≤ 1 ∧ Q - s ≤ 1 ∧ s - Q ≤ 1 ∧ s - f - 1 ≤ Q - P ∧ Q - P ≤ s - f + 1) ∨
    k = 2 ∧ ∃ u v : Un, Pl.over ⟨k, f, 120, x, y⟩ b = u ∧ Pl.over ⟨k, s, 121, x, y⟩ b = v ∧ (u.k = 0 ∧ (v.k = 0 ∨ v.k = 2) ∨ u.k = 2 ∧ v.k = 0) := by
  have ka : Pl.Okay ⟨k, f, 120, x, y⟩ := Or.inr ⟨hk, h0, (by decide : Pl.May 120)⟩
  have kb : Pl.Okay ⟨k, s, 121, x, y⟩ := Or.inr ⟨hk, Int.le_trans h0 h1, (by decide : Pl.May 121)⟩
  have hk0 : k ≠ 0 := by omega
  by_cases hb : Pl.Okay b
  · have ea : Pl.over ⟨k, f, 120, x, y⟩ b = (if b.k = 1 then Pl.pastIns ⟨k, f, 120, x, y⟩ b else if b.k = 2 then Pl.pastDel ⟨k, f, 120, x, y⟩ b else ⟨k, f, 120, x, y⟩) := if_pos ⟨ka, hb, hk0⟩
    have eb : Pl.over ⟨k, s, 121, x, y⟩ b = (if b.k = 1 then Pl.pastIns ⟨k, s, 121, x, y⟩ b else if b.k = 2 then Pl.pastDel ⟨k, s, 121, x, y⟩ b else ⟨k, s, 121, x, y⟩) := if_pos ⟨kb, hb, hk0⟩
    rw [ea, eb]
    by_cases b1 : b.k = 1
    · left
      rw [if_pos b1, if_pos b1]
      unfold Pl.pastIns
      simp only
      by_cases hF : k = 2 ∨ Pl.First b.x b.y x y
      · simp only [hF, and_true]
        refine ⟨if b.p < f ∨ f = b.p then wrap64 (f + 1) else f, if b.p < s ∨ s = b.p then wrap64 (s + 1) else s, by split <;> rfl, by split <;> rfl, ?_⟩
        unfold wrap64
        split <;> split <;> omega
      · simp only [hF, and_false, or_false]
        refine ⟨if b.p < f then wrap64 (f + 1) else f, if b.p < s then wrap64 (s + 1) else s, by split <;> rfl, by split <;> rfl, ?_⟩
        unfold wrap64
        split <;> split <;> omega
    · rw [if_neg b1, if_neg b1]
      by_cases b2 : b.k = 2
      · rw [if_pos b2, if_pos b2]
        unfold Pl.pastDel
        simp only
        by_cases hD : k = 2 ∧ (f = b.p ∨ s = b.p)
        · right
          obtain ⟨rfl, hD⟩ := hD
          refine ⟨rfl, _, _, rfl, rfl, ?_⟩
          by_cases c1 : b.p < f
          · exact absurd hD (by omega)
          · rw [if_neg c1]
            by_cases c2 : f = b.p
            · rw [if_pos ⟨c2, rfl⟩]
              left
              refine ⟨rfl, ?_⟩
              split
              · exact Or.inr rfl
              · split
                · exact Or.inl rfl
                · exact Or.inr rfl
            · rw [if_neg (fun h => c2 h.1), if_neg (by omega), if_pos ⟨by omega, rfl⟩]
              exact Or.inr ⟨rfl, rfl⟩
        · left
          refine ⟨if b.p < f then wrap64 (f - 1) else f, if b.p < s then wrap64 (s - 1) else s, ?_, ?_, ?_⟩
          · split
            · rfl
            · rw [if_neg (fun h => hD ⟨h.2, Or.inl h.1⟩)]
          · split
            · rfl
            · rw [if_neg (fun h => hD ⟨h.2, Or.inr h.1⟩)]
          · unfold wrap64
            split <;> split <;> omega
      · rw [if_neg b2, if_neg b2]
        exact Or.inl ⟨f, s, rfl, rfl, by omega⟩
  · have ea : Pl.over ⟨k, f, 120, x, y⟩ b = ⟨k, f, 120, x, y⟩ := if_neg (fun h => hb h.2.1)
    have eb : Pl.over ⟨k, s, 121, x, y⟩ b = ⟨k, s, 121, x, y⟩ := if_neg (fun h => hb h.2.1)
    rw [ea, eb]
    exact Or.inl ⟨f, s, rfl, rfl, by omega⟩
/-- at the loop's head -/
def RL (w : World) (k p c x' y' x y : Int) (K : Value) (wr : World) : Prop := ∃ kk : Int, K = .int .i64 kk ∧ 1 ≤ kk ∧ kk ≤ 3 ∧ Below w.heap.size w wr ∧ UAt wr w.heap.size k p c x' y' ∧ IAt wr (w.heap.size + 1) x y

set_option maxRecDepth 100000 in
set_option maxHeartbeats 2000000 in
theorem walk (w : World) (u : Un) (hu : Pl.UnB u) (m1 : Nat) (y1 : m1 < 256) (m2 : Nat) (y2 : m2 < 256) (x y : Int) (_ : Pl.IdB x y) :
    Calls Try.prog 9 #[uval u, .int .u8 m1, .int .u8 m2, idval x y] w fun e w' => e = .returned (.bool true) ∧ Below w.heap.size w w' := by
  have HP := Lib.hid (fun k f s => plain k f s x y u)
  have HO := fun a w => Lib.hid (over_any a u w)
  obtain ⟨k, p, c, x', y'⟩ := u
  unfold uval idval at *
  simp only at *
  obtain ⟨W0, hW0⟩ : ∃ W0, W0 = (w.alloc (.cells #[.int .i64 k, .int .i64 p, .int .i32 c, .int .u32 x', .int .u64 y'] 65)).alloc (.cells #[.int .u32 x, .int .u64 y] 63) := ⟨_, rfl⟩
  have HU := Lib.hid (show UAt W0 w.heap.size k p c x' y' ∧ IAt W0 (w.heap.size + 1) x y from by
    rw [hW0]
    exact ⟨(uat_new w k p c x' y').alloc _, heap_new (by simp)⟩)
  have HB0 := Lib.hid (show Below w.heap.size w W0 by rw [hW0]; exact below_alloc (below_box _ _) _)
  go_enter Try.func9, Try.ntmps9
  go_upto_region 1 with fail
  rw [← hW0]
  have HW0 := Lib.hid hW0
  clear hW0
  go_cut [9, 10] (fun F S wx => ∃ f s : Int, F = .int .i64 f ∧ S = .int .i64 s ∧ 0 ≤ f ∧ f < 100 ∧ 0 ≤ s ∧ s < 100 ∧ wx = W0)
  case first =>
    go_wp2_with fail
    all_goals
      go_meet
      exact ⟨_, _, rfl, rfl, by omega, by omega, by omega, by omega, rfl⟩
  case rest =>
    obtain ⟨f0, s0, rfl, rfl, f1, f2, f3, f4, rfl⟩ := hcut
    go_upto_region 2 with fail
    go_cut [9, 10] (fun F S wx => ∃ f s : Int, F = .int .i64 f ∧ S = .int .i64 s ∧ 0 ≤ f ∧ f ≤ s ∧ s < 100 ∧ wx = wc)
    case first =>
      go_wp2_with fail
      all_goals
        go_meet
        exact ⟨_, _, rfl, rfl, by omega, by omega, by omega, rfl⟩
    case rest =>
      obtain ⟨f, s, rfl, rfl, g1, g2, g3, rfl⟩ := hcut
      go_wp2_with fail
      go_loopw [11] (fun K wr => RL w k p c x' y' x y K wr) (fun K _ => (3 - intOf K).toNat)
      case atStart => exact ⟨1, rfl, by omega, by omega, HB0.out, HU.out.1, HU.out.2⟩
      case round =>
        obtain ⟨kk, rfl, k1, k3, hB, hU, hI⟩ := hrel
        have HBr := Lib.hid hB
        have HUr := Lib.hid hU
        have HIr := Lib.hid hI
        clear hB hU hI HU HB0
        by_cases hk : kk ≤ 2
        · obtain ⟨i0, i1⟩ := HIr.out.cells
          have hle : (kk ≤ 2) = True := eq_true hk
          have HPP := Lib.hid (HP.out kk f s (by omega) g1 g2 g3)
          have H1 := fun w => Lib.hid (HO ⟨kk, f, 120, x, y⟩ w).out
          have H2 := fun w => Lib.hid (HO ⟨kk, s, 121, x, y⟩ w).out
          simp only at H1 H2
          obtain ⟨W1, hW1⟩ : ∃ W1, W1 = (wr.alloc (.cells #[.int .i64 kk, .int .i64 f, .int .i32 120, .int .u32 x, .int .u64 y] 65)).alloc (.cells #[.int .i64 kk, .int .i64 s, .int .i32 121, .int .u32 x, .int .u64 y] 65) := ⟨_, rfl⟩
          have HX := Lib.hid (show UAt W1 w.heap.size k p c x' y' ∧ IAt W1 (w.heap.size + 1) x y ∧ UAt W1 wr.heap.size kk f 120 x y ∧ UAt W1 (wr.heap.size + 1) kk s 121 x y ∧ Below w.heap.size w W1 from by
            rw [hW1]
            have hb2 : Below wr.heap.size wr ((wr.alloc (.cells #[.int .i64 kk, .int .i64 f, .int .i32 120, .int .u32 x, .int .u64 y] 65)).alloc (.cells #[.int .i64 kk, .int .i64 s, .int .i32 121, .int .u32 x, .int .u64 y] 65)) := below_alloc (below_box _ _) _
            exact ⟨HUr.out.then_ hb2, HIr.out.then_ hb2, (uat_new wr kk f 120 x y).alloc _, heap_new (by simp), HBr.out.trans (hb2.mono HBr.out.size)⟩)
          obtain ⟨i2, i3⟩ := (IAt.then_ HIr.out (below_box wr (.cells #[.int .i64 kk, .int .i64 f, .int .i32 120, .int .u32 x, .int .u64 y] 65))).cells
          go_upto_region 8 with fail
          rw [← hW1]
          have HW1 := Lib.hid hW1
          clear hW1 i0 i1 i2 i3
          obtain ⟨r1, hr1⟩ : ∃ r1, r1 = Pl.over ⟨kk, f, 120, x, y⟩ ⟨k, p, c, x', y'⟩ := ⟨_, rfl⟩
          obtain ⟨r2, hr2⟩ : ∃ r2, r2 = Pl.over ⟨kk, s, 121, x, y⟩ ⟨k, p, c, x', y'⟩ := ⟨_, rfl⟩
          rw [← hr1] at H1
          rw [← hr2] at H2
          have hpp := HPP.out
          rw [← hr1, ← hr2] at hpp
          clear hr1 hr2 HPP
          obtain ⟨a0, a1, a2, a3, a4⟩ := r1
          obtain ⟨d0, d1, d2, d3, d4⟩ := r2
          have HPP := Lib.hid hpp
          clear hpp
          simp only at H1 H2
          refine Rv.wp_region_inv (PS W1 14 15 a0 a1 a2 a3 a4 d0 d1 d2 d3 d4) PR (Rv.Wd.at [.is (.agg #[.int .i64 kk, .int .i64 f, .int .i32 120, .int .u32 x, .int .u64 y]), .is (.agg #[.int .i64 k, .int .i64 p, .int .i32 c, .int .u32 x', .int .u64 y']), .is (.agg #[.int .i64 a0, .int .i64 a1, .int .i32 a2, .int .u32 a3, .int .u64 a4]), .is (.agg #[.int .i64 kk, .int .i64 s, .int .i32 121, .int .u32 x, .int .u64 y]), .is (.agg #[.int .i64 k, .int .i64 p, .int .i32 c, .int .u32 x', .int .u64 y']), .is (.agg #[.int .i64 d0, .int .i64 d1, .int .i32 d2, .int .u32 d3, .int .u64 d4]), .any, .any, .any, .any]) (by kernel_rfl) (by kernel_rfl) (Rv.Wd.stays _ _ (fun i q hi => (by rcases i with _ | _ | _ | _ | _ | _ | _ | _ | _ | _ | i <;> simp at hi))) (PS.begin (by simp) (by simp)) ⟨?_, ?_, ?_, ?_, ?_, ?_, ?_, ?_, ?_, ?_, trivial⟩ ?_
          · intro L a w1 hL hS hb hd
            have e12 := hb 12 (Rv.nw (by decide))
            simp [Act.eval] at e12
            obtain ⟨c0, c1, c2, c3, c4⟩ := ((HX.out.2.2.1).then_ hS.below).cells
            exact Rv.does_pure (Rv.wanted_none rfl) (by simp [execOp, e12, c0, c1, c2, c3, c4, go_sem]) rfl (hS.put (d := 44) (by decide) (by decide) (by decide) (Below.refl _ _)) trivial
          · intro L a w1 hL hS hb hd
            have e4 := hb 4 (Rv.nw (by decide))
            simp [Act.eval] at e4
            obtain ⟨c0, c1, c2, c3, c4⟩ := ((HX.out.1).then_ hS.below).cells
            exact Rv.does_pure (Rv.wanted_none rfl) (by simp [execOp, e4, c0, c1, c2, c3, c4, go_sem]) rfl (hS.put (d := 45) (by decide) (by decide) (by decide) (Below.refl _ _)) trivial
          · intro L a w1 hL hS hb hd
            have p1 := (hd ⟨0, .data⟩ (by simp) rfl).2 _ _ rfl rfl
            have e1 : a.tmps[44]?.getD undef = .agg #[.int .i64 kk, .int .i64 f, .int .i32 120, .int .u32 x, .int .u64 y] := Rv.slot p1
            have p2 := (hd ⟨1, .data⟩ (by simp) rfl).2 _ _ rfl rfl
            have e2 : a.tmps[45]?.getD undef = .agg #[.int .i64 k, .int .i64 p, .int .i32 c, .int .u32 x', .int .u64 y'] := Rv.slot p2
            refine Rv.does_call (f := 37) (args := #[.agg #[.int .i64 kk, .int .i64 f, .int .i32 120, .int .u32 x, .int .u64 y], .agg #[.int .i64 k, .int .i64 p, .int .i32 c, .int .u32 x', .int .u64 y']]) (Rv.wanted_none rfl) (by simp [e1, e2, go_sem]) (((H1 w1).out).mono ?_)
            rintro e w3 ⟨rfl, hb3⟩
            exact ⟨_, rfl, rfl, hS.put (d := 46) (by decide) (by decide) (by decide) hb3, trivial⟩
          · intro L a w1 hL hS hb hd
            have e13 := hb 13 (Rv.nw (by decide))
            simp [Act.eval] at e13
            obtain ⟨c0, c1, c2, c3, c4⟩ := ((HX.out.2.2.2.1).then_ hS.below).cells
            exact Rv.does_pure (Rv.wanted_none rfl) (by simp [execOp, e13, c0, c1, c2, c3, c4, go_sem]) rfl (hS.put (d := 47) (by decide) (by decide) (by decide) (Below.refl _ _)) trivial
          · intro L a w1 hL hS hb hd
            have e4 := hb 4 (Rv.nw (by decide))
            simp [Act.eval] at e4
            obtain ⟨c0, c1, c2, c3, c4⟩ := ((HX.out.1).then_ hS.below).cells
            exact Rv.does_pure (Rv.wanted_none rfl) (by simp [execOp, e4, c0, c1, c2, c3, c4, go_sem]) rfl (hS.put (d := 48) (by decide) (by decide) (by decide) (Below.refl _ _)) trivial
          · intro L a w1 hL hS hb hd
            have p1 := (hd ⟨3, .data⟩ (by simp) rfl).2 _ _ rfl rfl
            have e1 : a.tmps[47]?.getD undef = .agg #[.int .i64 kk, .int .i64 s, .int .i32 121, .int .u32 x, .int .u64 y] := Rv.slot p1
            have p2 := (hd ⟨4, .data⟩ (by simp) rfl).2 _ _ rfl rfl
            have e2 : a.tmps[48]?.getD undef = .agg #[.int .i64 k, .int .i64 p, .int .i32 c, .int .u32 x', .int .u64 y'] := Rv.slot p2
            refine Rv.does_call (f := 37) (args := #[.agg #[.int .i64 kk, .int .i64 s, .int .i32 121, .int .u32 x, .int .u64 y], .agg #[.int .i64 k, .int .i64 p, .int .i32 c, .int .u32 x', .int .u64 y']]) (Rv.wanted_none rfl) (by simp [e1, e2, go_sem]) (((H2 w1).out).mono ?_)
            rintro e w3 ⟨rfl, hb3⟩
            exact ⟨_, rfl, rfl, hS.put (d := 49) (by decide) (by decide) (by decide) hb3, trivial⟩
          · intro L a w1 hL hS hb hd
            exact Rv.does_run (Rv.wanted_none rfl) (by simp [execOp, go_sem]) trivial (hS.new1 (by decide) hL) trivial
          · intro L a w1 hL hS hb hd
            exact Rv.does_run (Rv.wanted_none rfl) (by simp [execOp, go_sem]) trivial (hS.new2 (by decide) hL) trivial
          · intro L a w1 hL hS hb hd
            have p1 := (hd ⟨2, .data⟩ (by simp) rfl).2 _ _ rfl rfl
            have e1 : a.tmps[46]?.getD undef = .agg #[.int .i64 a0, .int .i64 a1, .int .i32 a2, .int .u32 a3, .int .u64 a4] := Rv.slot p1
            have q6 := (hd ⟨6, .data⟩ (by simp) rfl).1
            obtain ⟨b, eb, _⟩ := hS.half1 q6
            obtain ⟨hz, hn⟩ := hS.laid1 eb q6 hL
            obtain ⟨d0, d1, d2, d3, d4⟩ := hz.cells
            have f2 := fun j => hz.frozen j
            have e2 : a.tmps[14]?.getD undef = .pointer (some ⟨b, 0, none⟩) := Rv.slot eb
            exact Rv.does_skip rfl (Rv.wanted_none rfl) (by simp [execOp, e1, e2, go_sem, d0, d1, d2, d3, d4, f2]) trivial hn trivial
          · intro L a w1 hL hS hb hd
            have p1 := (hd ⟨5, .data⟩ (by simp) rfl).2 _ _ rfl rfl
            have e1 : a.tmps[49]?.getD undef = .agg #[.int .i64 d0, .int .i64 d1, .int .i32 d2, .int .u32 d3, .int .u64 d4] := Rv.slot p1
            have q6 := (hd ⟨7, .data⟩ (by simp) rfl).1
            obtain ⟨b, eb, _⟩ := hS.half2 q6
            obtain ⟨hz, hn⟩ := hS.laid2 eb q6 hL
            obtain ⟨d0, d1, d2, d3, d4⟩ := hz.cells
            have f2 := fun j => hz.frozen j
            have e2 : a.tmps[15]?.getD undef = .pointer (some ⟨b, 0, none⟩) := Rv.slot eb
            exact Rv.does_skip rfl (Rv.wanted_none rfl) (by simp [execOp, e1, e2, go_sem, d0, d1, d2, d3, d4, f2]) trivial hn trivial
          · intro L v w5 hS hall hv
            obtain ⟨b1, b2, hv1, hv2, hne, hg1, hg2, hu1, hu2, hB5⟩ := hS.done (fun i hi => hall i hi)
            replace hv1 : v 6 = .pointer (some ⟨b1, 0, none⟩) := (hv 6 _ _ rfl rfl).2.symm.trans hv1
            replace hv2 : v 7 = .pointer (some ⟨b2, 0, none⟩) := (hv 7 _ _ rfl rfl).2.symm.trans hv2
            simp only [Rv.putAll, Nat.zero_add, Nat.reduceAdd]
            simp only [Act.put, List.setIfInBounds_toArray, List.set_cons_succ, List.set_cons_zero]
            rw [hv1, hv2]
            clear hv1 hv2 hS hall hv
            have HB5' := Lib.hid (HX.out.2.2.2.2.trans (hB5.mono HX.out.2.2.2.2.size))
            have HX5 := Lib.hid (And.intro (HX.out.1.then_ hB5) (HX.out.2.1.then_ hB5))
            obtain ⟨u0, u1, u2, u3, u4⟩ := hu1.cells
            obtain ⟨v0, v1, v2, v3, v4⟩ := hu2.cells
            clear hu1 hu2 hB5 hne hg1 hg2 HX HBr HUr HIr
            rcases HPP.out with ⟨P, Q, e1, e2, q1, q2, q3, q4, q5, q6, q7⟩ | ⟨hk2, U, V, rfl, rfl, hUV⟩
            · injection e1 with e10 e11 e12 e13 e14
              injection e2 with e20 e21 e22 e23 e24
              subst e10 e11 e20 e21
              clear e12 e13 e14 e22 e23 e24 HPP
              have w1 : wrap64 (a1 - f) = a1 - f := by unfold wrap64; omega
              have w2 : wrap64 (f - a1) = f - a1 := by unfold wrap64; omega
              have w3 : wrap64 (d1 - s) = d1 - s := by unfold wrap64; omega
              have w4 : wrap64 (s - d1) = s - d1 := by unfold wrap64; omega
              have w5' : wrap64 (d1 - a1) = d1 - a1 := by unfold wrap64; omega
              have w6 : wrap64 (s - f) = s - f := by unfold wrap64; omega
              have w7 : wrap64 (s - f - 1) = s - f - 1 := by unfold wrap64; omega
              have w8 : wrap64 (s - f + 1) = s - f + 1 := by unfold wrap64; omega
              go_wp2_with fail
              exact ⟨⟨d0 + 1, rfl, by omega, by omega, HB5'.out, HX5.out.1, HX5.out.2⟩, by simp only [intOf]; omega⟩
            · subst hk2
              have HB5'' := HB5'.out
              simp only at hUV
              rcases hUV with ⟨rfl, hV | hV⟩ | ⟨rfl, rfl⟩
              · subst hV
                go_wp2_with fail
                exact ⟨⟨3, rfl, by omega, by omega, HB5'', HX5.out.1, HX5.out.2⟩, by simp [intOf]⟩
              · subst hV
                go_wp2_with fail
                exact ⟨⟨3, rfl, by omega, by omega, HB5'', HX5.out.1, HX5.out.2⟩, by simp [intOf]⟩
              · go_wp2_with fail
                exact ⟨⟨3, rfl, by omega, by omega, HB5'', HX5.out.1, HX5.out.2⟩, by simp [intOf]⟩
        · have hk3 : kk = 3 := by omega
          subst hk3
          go_wp2_with fail
          refine (wakes_any _).mono ?_
          rintro e w9 ⟨rfl, hb9⟩
          have HB9 := Lib.hid (HBr.out.trans (hb9.mono HBr.out.size))
          clear hb9
          go_wp2_with fail
          go_ret
          exact ⟨rfl, HB9.out⟩
end Go.Proofs.Ytogmddneimhpeaa.unitOrder
