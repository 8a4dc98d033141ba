/-
  The walk of copybooklaw06.UnitAhead: it returns true; nothing that was there turned. No conditions.
-/
import Derived.Test.YtogmddneimhpeaaUniF
import Derived.Test.YtogmddneimhpeaaBaseR
namespace Go.Proofs.Ytogmddneimhpeaa.unitAhead
open Go.RowKit
open Pl (Un)

/-- an Id's cells at the head of a block -/
def IAt (w : World) (b : Nat) (x y : Int) : Prop := w.heap[b]? = some (.cells #[.int .u32 x, .int .u64 y] 63 (0, 0))
theorem IAt.then_ {w w' : World} {b : Nat} {x y : Int} (h : IAt w b x y) (hb : Below w.heap.size w w') : IAt w' b x y := below_old hb h (lt_of_block h)
theorem IAt.cells {w : World} {b : Nat} {x y : Int} (h : IAt w b x y) : w.cell? ⟨b, 0, none⟩ = some (.int .u32 x) ∧ w.cell? ⟨b, 1, none⟩ = some (.int .u64 y) := by
  unfold IAt at h
  refine ⟨?_, ?_⟩ <;> (rw [cell_of_row w b _ _ _ _ h]; rfl)

set_option maxRecDepth 100000 in
set_option maxHeartbeats 1000000 in
theorem walk_of (w : World) (x y x' y' x2 y2 : Int) (p q r s : Bool)
    (A1 : ∀ w, Hid (Calls Try.prog 41 #[.agg #[.int .u32 x, .int .u64 y], .agg #[.int .u32 x', .int .u64 y']] w fun e w' => e = .returned (.bool p) ∧ Below w.heap.size w w'))
    (A2 : ∀ w, Hid (Calls Try.prog 41 #[.agg #[.int .u32 x', .int .u64 y'], .agg #[.int .u32 x, .int .u64 y]] w fun e w' => e = .returned (.bool q) ∧ Below w.heap.size w w'))
    (A3 : ∀ w, Hid (Calls Try.prog 41 #[.agg #[.int .u32 x', .int .u64 y'], .agg #[.int .u32 x2, .int .u64 y2]] w fun e w' => e = .returned (.bool r) ∧ Below w.heap.size w w'))
    (A4 : ∀ w, Hid (Calls Try.prog 41 #[.agg #[.int .u32 x, .int .u64 y], .agg #[.int .u32 x2, .int .u64 y2]] w fun e w' => e = .returned (.bool s) ∧ Below w.heap.size w w'))
    (hrs : p = true → r = true → s = true) (hok : p = true ∧ q = false ∧ decide (x = x' ∧ y = y') = false ∨ p = false ∧ q = true ∧ decide (x = x' ∧ y = y') = false ∨ p = false ∧ q = false ∧ decide (x = x' ∧ y = y') = true) (hcl : x = x' ∨ p = decide (x < x')) :
    Calls Try.prog 8 #[idval x y, idval x' y', idval x2 y2] w fun e w' => e = .returned (.bool true) ∧ Below w.heap.size w w' := by
  unfold idval
  obtain ⟨W0, hW0⟩ : ∃ W0, W0 = ((w.alloc (.cells #[.int .u32 x, .int .u64 y] 63)).alloc (.cells #[.int .u32 x', .int .u64 y'] 63)).alloc (.cells #[.int .u32 x2, .int .u64 y2] 63) := ⟨_, rfl⟩
  have HI := Lib.hid (show IAt W0 w.heap.size x y ∧ IAt W0 (w.heap.size + 1) x' y' ∧ IAt W0 (w.heap.size + 1 + 1) x2 y2 from by
    rw [hW0]
    refine ⟨?_, ?_, heap_new (by simp)⟩
    · exact IAt.then_ (IAt.then_ (heap_new rfl) (below_box _ _)) (below_box _ _)
    · exact IAt.then_ (heap_new (by simp)) (below_box _ _))
  have HB0 := Lib.hid (show Below w.heap.size w W0 by rw [hW0]; exact below_three)
  have HQ := Lib.hid (fun w => eql_id x y x' y' w)
  have HG := Lib.hid (fun o1 o2 w => guard_id .eql o1 o2 #[.int .u32 x, .int .u64 y] #[.int .u32 x', .int .u64 y'] w)
  have HOK := Lib.hid hok
  have HCL := Lib.hid hcl
  have HRS := Lib.hid hrs
  have HW0 := Lib.hid hW0
  clear hok hcl hrs hW0
  go_enter Try.func8, Try.ntmps8
  go_wp2_with fail
  rw [← HW0.out]
  clear HW0
  refine Rg.wp_region_inv (fun w'' => Below W0.heap.size W0 w'') (Rg.Wd.at [.is (.agg #[.int .u32 x, .int .u64 y]), .is (.agg #[.int .u32 x', .int .u64 y']), .is (.bool p), .is (.agg #[.int .u32 x', .int .u64 y']), .is (.agg #[.int .u32 x, .int .u64 y]), .is (.bool q), .is (.bool p), .is (.bool q)]) (by kernel_rfl) (by kernel_rfl) (Rg.Wd.stays _ _) (below_drawn (Below.refl _ _)) ⟨?_, ?_, ?_, ?_, ?_, ?_, ?_, ?_, trivial⟩ ?_
  · intro a w1 hS hb hd
    have e3 := hb 3 (Rg.nw (by decide))
    simp [Act.eval] at e3
    exact Rg.does_pure (Rg.wanted_none rfl) (by simp [execOp, e3, (HI.out.1.then_ hS).cells, go_sem]) hS rfl
  · intro a w1 hS hb hd
    have e4 := hb 4 (Rg.nw (by decide))
    simp [Act.eval] at e4
    exact Rg.does_pure (Rg.wanted_none rfl) (by simp [execOp, e4, (HI.out.2.1.then_ hS).cells, go_sem]) hS rfl
  · intro a w1 hS hb hd
    have e9 := hd ⟨0, .data⟩ (by simp) rfl _ _ rfl rfl
    have e9 : a.tmps[9]?.getD undef = (.agg #[.int .u32 x, .int .u64 y]) := Rg.slot e9
    have e10 := hd ⟨1, .data⟩ (by simp) rfl _ _ rfl rfl
    have e10 : a.tmps[10]?.getD undef = (.agg #[.int .u32 x', .int .u64 y']) := Rg.slot e10
    refine Rg.does_call (f := 41) (args := #[.agg #[.int .u32 x, .int .u64 y], .agg #[.int .u32 x', .int .u64 y']]) (Rg.wanted_none rfl) (by simp [e9, e10, go_sem]) ?_
    exact (A1 w1).out.mono fun e w' ⟨h1, h2⟩ => ⟨_, h1, rfl, below_then hS h2, h2⟩
  · intro a w1 hS hb hd
    have e4 := hb 4 (Rg.nw (by decide))
    simp [Act.eval] at e4
    exact Rg.does_pure (Rg.wanted_none rfl) (by simp [execOp, e4, (HI.out.2.1.then_ hS).cells, go_sem]) hS rfl
  · intro a w1 hS hb hd
    have e3 := hb 3 (Rg.nw (by decide))
    simp [Act.eval] at e3
    exact Rg.does_pure (Rg.wanted_none rfl) (by simp [execOp, e3, (HI.out.1.then_ hS).cells, go_sem]) hS rfl
  · intro a w1 hS hb hd
    have e12 := hd ⟨3, .data⟩ (by simp) rfl _ _ rfl rfl
    have e12 : a.tmps[12]?.getD undef = (.agg #[.int .u32 x', .int .u64 y']) := Rg.slot e12
    have e13 := hd ⟨4, .data⟩ (by simp) rfl _ _ rfl rfl
    have e13 : a.tmps[13]?.getD undef = (.agg #[.int .u32 x, .int .u64 y]) := Rg.slot e13
    refine Rg.does_call (f := 41) (args := #[.agg #[.int .u32 x', .int .u64 y'], .agg #[.int .u32 x, .int .u64 y]]) (Rg.wanted_none rfl) (by simp [e12, e13, go_sem]) ?_
    exact (A2 w1).out.mono fun e w' ⟨h1, h2⟩ => ⟨_, h1, rfl, below_then hS h2, h2⟩
  · intro a w1 hS hb hd
    have e11 := hd ⟨2, .data⟩ (by simp) rfl _ _ rfl rfl
    have e11 : a.tmps[11]?.getD undef = (.bool p) := Rg.slot e11
    exact Rg.does_pure (Rg.wanted_none rfl) (by simp [execOp, e11, go_sem]) hS rfl
  · intro a w1 hS hb hd
    have e14 := hd ⟨5, .data⟩ (by simp) rfl _ _ rfl rfl
    have e14 : a.tmps[14]?.getD undef = (.bool q) := Rg.slot e14
    exact Rg.does_pure (Rg.wanted_none rfl) (by simp [execOp, e14, go_sem]) hS rfl
  intro v w5 hS hv
  have h6 : v 6 = .bool p := hv 6 _ _ rfl rfl
  have h7 : v 7 = .bool q := hv 7 _ _ rfl rfl
  have HB5 := Lib.hid (HB0.out.trans (hS.mono HB0.out.size))
  have HI5 := Lib.hid (And.intro (HI.out.1.then_ hS) (And.intro (HI.out.2.1.then_ hS) (HI.out.2.2.then_ hS)))
  obtain ⟨a0, a1⟩ := HI5.out.1.cells
  obtain ⟨b0, b1⟩ := HI5.out.2.1.cells
  obtain ⟨c0, c1⟩ := HI5.out.2.2.cells
  simp only [Rg.putAll, Nat.zero_add, Nat.reduceAdd]
  simp only [Act.put, List.setIfInBounds_toArray, List.set_cons_succ, List.set_cons_zero]
  rw [h6, h7]
  clear h6 h7 hv hS HI HB0
  have hq := HQ.out
  have hg := HG.out
  rcases HOK.out with ⟨rfl, rfl, he⟩ | ⟨rfl, rfl, he⟩ | ⟨rfl, rfl, he⟩
  · rw [he] at hq
    clear he
    go_wp2_with fail
    refine (A3 _).out.mono ?_
    rintro e w6 ⟨rfl, hb6⟩
    have HB6 := Lib.hid (HB5.out.trans (hb6.mono HB5.out.size))
    obtain ⟨d0, d1⟩ := (HI5.out.1.then_ hb6).cells
    obtain ⟨e0, e1⟩ := (HI5.out.2.1.then_ hb6).cells
    obtain ⟨f0, f1⟩ := (HI5.out.2.2.then_ hb6).cells
    have HX6 := Lib.hid (And.intro (HI5.out.1.then_ hb6) (And.intro (HI5.out.2.1.then_ hb6) (HI5.out.2.2.then_ hb6)))
    have HB6' := HB6
    clear hb6 a0 a1 b0 b1 c0 c1 hq hg
    have hcl : x = x' ∨ decide (x < x') = true := HCL.out.imp id Eq.symm
    cases r with
    | false =>
      by_cases hxx : x = x'
      · subst hxx
        go_wp2_with fail
        refine (wakes_any _).mono ?_
        rintro e w9 ⟨rfl, hb9⟩
        have HB9 := Lib.hid (HB6.out.trans (hb9.mono HB6.out.size))
        clear hb9
        go_wp2_with fail
        go_ret
        exact ⟨rfl, HB9.out⟩
      · have hcl2 : decide (x < x') = true := hcl.resolve_left hxx
        have hne : (x == x') = false := by simpa using hxx
        clear hcl
        go_wp2_with fail
        refine (wakes_any _).mono ?_
        rintro e w9 ⟨rfl, hb9⟩
        have HB9 := Lib.hid (HB6.out.trans (hb9.mono HB6.out.size))
        clear hb9
        go_wp2_with fail
        go_ret
        exact ⟨rfl, HB9.out⟩
    | true =>
      obtain rfl : s = true := by simpa using HRS.out
      clear HB6'
      go_wp2_with fail
      refine (A4 _).out.mono ?_
      rintro e w7 ⟨rfl, hb7⟩
      have HB7 := Lib.hid (HB6.out.trans (hb7.mono HB6.out.size))
      obtain ⟨k0, k1⟩ := (HX6.out.1.then_ hb7).cells
      obtain ⟨l0, l1⟩ := (HX6.out.2.1.then_ hb7).cells
      clear hb7 d0 d1 e0 e1 f0 f1
      by_cases hxx : x = x'
      · subst hxx
        go_wp2_with fail
        refine (wakes_any _).mono ?_
        rintro e w9 ⟨rfl, hb9⟩
        have HB9 := Lib.hid (HB7.out.trans (hb9.mono HB7.out.size))
        clear hb9
        go_wp2_with fail
        go_ret
        exact ⟨rfl, HB9.out⟩
      · have hcl2 : decide (x < x') = true := hcl.resolve_left hxx
        have hne : (x == x') = false := by simpa using hxx
        clear hcl
        go_wp2_with fail
        refine (wakes_any _).mono ?_
        rintro e w9 ⟨rfl, hb9⟩
        have HB9 := Lib.hid (HB7.out.trans (hb9.mono HB7.out.size))
        clear hb9
        go_wp2_with fail
        go_ret
        exact ⟨rfl, HB9.out⟩
  · rw [he] at hq
    clear he
    have hcl : x = x' ∨ decide (x < x') = false := HCL.out.imp id Eq.symm
    by_cases hxx : x = x'
    · subst hxx
      go_wp2_with fail
      refine (wakes_any _).mono ?_
      rintro e w9 ⟨rfl, hb9⟩
      have HB9 := Lib.hid (HB5.out.trans (hb9.mono HB5.out.size))
      clear hb9
      go_wp2_with fail
      go_ret
      exact ⟨rfl, HB9.out⟩
    · have hcl2 : decide (x < x') = false := hcl.resolve_left hxx
      have hne : (x == x') = false := by simpa using hxx
      clear hcl
      go_wp2_with fail
      refine (wakes_any _).mono ?_
      rintro e w9 ⟨rfl, hb9⟩
      have HB9 := Lib.hid (HB5.out.trans (hb9.mono HB5.out.size))
      clear hb9
      go_wp2_with fail
      go_ret
      exact ⟨rfl, HB9.out⟩
  · rw [he] at hq
    have hxx : x = x' := (of_decide_eq_true he).1
    clear he
    subst hxx
    go_wp2_with fail
    refine (wakes_any _).mono ?_
    rintro e w9 ⟨rfl, hb9⟩
    have HB9 := Lib.hid (HB5.out.trans (hb9.mono HB5.out.size))
    clear hb9
    go_wp2_with fail
    go_ret
    exact ⟨rfl, HB9.out⟩
theorem walk (w : World) (x y : Int) (_ : Pl.IdB x y) (x' y' : Int) (_ : Pl.IdB x' y') (x2 y2 : Int) (_ : Pl.IdB x2 y2) :
    Calls Try.prog 8 #[idval x y, idval x' y', idval x2 y2] w fun e w' => e = .returned (.bool true) ∧ Below w.heap.size w w' := by
  refine walk_of w x y x' y' x2 y2 _ _ _ _ (fun w => ahead_any x y x' y' w) (fun w => ahead_any x' y' x y w) (fun w => ahead_any x' y' x2 y2 w) (fun w => ahead_any x y x2 y2 w) ?_ ?_ ?_
  · intro h1 h2
    have h1 := of_decide_eq_true h1
    have h2 := of_decide_eq_true h2
    refine decide_eq_true ?_
    unfold Pl.First at *
    omega
  · by_cases h1 : Pl.First x y x' y'
    · exact Or.inl ⟨decide_eq_true h1, decide_eq_false (by unfold Pl.First at *; omega), decide_eq_false (by unfold Pl.First at *; omega)⟩
    · by_cases h2 : Pl.First x' y' x y
      · exact Or.inr (Or.inl ⟨decide_eq_false h1, decide_eq_true h2, decide_eq_false (by unfold Pl.First at *; omega)⟩)
      · exact Or.inr (Or.inr ⟨decide_eq_false h1, decide_eq_false h2, decide_eq_true (by unfold Pl.First at *; omega)⟩)
  · by_cases h : x = x'
    · exact Or.inl h
    · right
      by_cases hl : x < x'
      · rw [decide_eq_true hl]; exact decide_eq_true (Or.inl hl)
      · rw [decide_eq_false hl]; exact decide_eq_false (by unfold Pl.First; omega)
end Go.Proofs.Ytogmddneimhpeaa.unitAhead
