/-
  The document's own May, Ahead, Over (of layers 4 and 6), as layer 7's own grid calls them. No conditions.
-/
import Derived.Test.YtlnekhkdncccgaaWvK
namespace Go.Proofs.Ytlnekhkdncccgaa
open Go.RowKit
open Pl (Un)

set_option maxRecDepth 100000 in
set_option maxHeartbeats 400000 in
theorem may4_any (c : Int) (w : World) :
    Calls Try.prog 64 #[.int .i32 c] w fun e w' => e = .returned (.bool (decide (Pl.May c))) ∧ w = w' := by
  go_enter Try.func64, Try.ntmps64
  go_wp2
  all_goals
    go_ret
    refine ⟨ret_bool ?_, rfl⟩
    rw [Pl.may_bool]
    first | (simp; done) | (rw [Bool.eq_iff_iff]; simp only [decide_eq_true_iff, Bool.or_eq_true, Bool.and_eq_true, Bool.false_eq_true, true_iff, false_iff]; omega)
set_option maxRecDepth 100000 in
set_option maxHeartbeats 400000 in
theorem ahead6_any (x y x' y' : Int) (w : World) :
    Calls Try.prog 70 #[idval x y, idval x' y'] w fun e w' => e = .returned (.bool (decide (Pl.First x y x' y'))) ∧ Below w.heap.size w w' := by
  obtain ⟨r, hr⟩ : ∃ r, r = decide (Pl.First x y x' y') := ⟨_, rfl⟩
  rw [← hr]
  have HR := Lib.hid hr
  clear hr
  unfold idval
  go_enter Try.func70, Try.ntmps70
  by_cases h2 : x = x'
  · subst h2
    go_wp2_with fail
    go_ret
    refine ⟨ret_bool ?_, below_alloc (below_box _ _) _⟩
    rw [HR.out]
    unfold Pl.First
    simp
  · have h3 : (x != x') = true := by simpa using h2
    go_wp2_with fail
    go_ret
    refine ⟨ret_bool ?_, below_alloc (below_box _ _) _⟩
    rw [HR.out]
    unfold Pl.First
    simp [h2]
set_option maxRecDepth 100000 in
set_option maxHeartbeats 400000 in
theorem okay6_any (u : Un) (w : World) :
    Calls Try.prog 55 #[uval u] w fun e w' => e = .returned (.bool (decide (Pl.Okay u))) ∧ Below w.heap.size w w' := by
  obtain ⟨k, p, c, x, y⟩ := u
  have HM := fun w => Lib.hid (may4_any c w)
  obtain ⟨r, hr⟩ : ∃ r, r = decide (Pl.Okay ⟨k, p, c, x, y⟩) := ⟨_, rfl⟩
  rw [← hr]
  have HR := Lib.hid hr
  clear hr
  unfold uval
  simp only
  go_enter Try.func55, Try.ntmps55
  by_cases h0 : k = 0
  · subst h0
    by_cases hp : p = 0
    · subst hp
      go_wp2_with fail
      go_ret
      refine ⟨ret_bool ?_, (Below.refl _ w).alloc (Nat.le_refl _) _⟩
      rw [HR.out]
      unfold Pl.Okay
      rw [Bool.eq_iff_iff]
      simp
    · have hpb : (p == 0) = false := by simpa using hp
      go_wp2_with fail
      go_ret
      refine ⟨ret_bool ?_, (Below.refl _ w).alloc (Nat.le_refl _) _⟩
      rw [HR.out]
      unfold Pl.Okay
      simp [hp]
  · have h0b : (k == 0) = false := by simpa using h0
    by_cases h1 : k = 1 ∨ k = 2
    · by_cases hp : 0 ≤ p
      · rcases h1 with rfl | rfl
        all_goals
          go_wp2_with fail
          refine (HM _).out.mono ?_
          rintro e w' ⟨rfl, rfl⟩
          go_wp2_with fail
          go_ret
          refine ⟨ret_bool ?_, (Below.refl _ w).alloc (Nat.le_refl _) _⟩
          rw [HR.out]
          unfold Pl.Okay
          simp
          intro _
          exact hp
      · rcases h1 with rfl | rfl
        all_goals
          go_wp2_with fail
          go_ret
          refine ⟨ret_bool ?_, (Below.refl _ w).alloc (Nat.le_refl _) _⟩
          rw [HR.out]
          unfold Pl.Okay
          simp
          omega
    · have h2 : ¬ k = 2 := fun h => h1 (Or.inr h)
      have h3 : ¬ k = 1 := fun h => h1 (Or.inl h)
      have h2b : (k == 2) = false := by simpa using h2
      have h3b : (k == 1) = false := by simpa using h3
      clear h1
      go_wp2_with fail
      go_ret
      refine ⟨ret_bool ?_, (Below.refl _ w).alloc (Nat.le_refl _) _⟩
      rw [HR.out]
      unfold Pl.Okay
      simp [h0, h2, h3]
/-- the units' own words -/
theorem over_bad (a b : Un) (h : ¬ (Pl.Okay a ∧ Pl.Okay b ∧ a.k ≠ 0)) : Pl.over a b = a := if_neg h
theorem over_nop (a b : Un) (h : b.k = 0) : Pl.over a b = a := by
  unfold Pl.over
  split
  · rw [if_neg (by omega), if_neg (by omega)]
  · rfl
theorem over_one {a b : Un} (ha : Pl.Okay a) (hb : Pl.Okay b) (h : a.k ≠ 0) (h1 : b.k = 1) : Pl.over a b = Pl.pastIns a b := by
  unfold Pl.over
  rw [if_pos ⟨ha, hb, h⟩, if_pos h1]
theorem over_two {a b : Un} (ha : Pl.Okay a) (hb : Pl.Okay b) (h : a.k ≠ 0) (h1 : b.k = 2) : Pl.over a b = Pl.pastDel a b := by
  unfold Pl.over
  rw [if_pos ⟨ha, hb, h⟩, if_neg (by omega), if_pos h1]
set_option maxRecDepth 100000 in
set_option maxHeartbeats 2000000 in
theorem over6_any (a b : Un) (w : World) :
    Calls Try.prog 67 #[uval a, uval b] w fun e w' => e = .returned (uval (Pl.over a b)) ∧ Below w.heap.size w w' := by
  have HMa := fun w => Lib.hid (okay6_any a w)
  have HMb := fun w => Lib.hid (okay6_any b w)
  by_cases ha : Pl.Okay a
  · rw [decide_eq_true ha] at HMa
    by_cases hb : Pl.Okay b
    · rw [decide_eq_true hb] at HMb
      have hka : a.k = 0 ∨ a.k = 1 ∨ a.k = 2 := by unfold Pl.Okay at ha; omega
      have hkb : b.k = 0 ∨ b.k = 1 ∨ b.k = 2 := by unfold Pl.Okay at hb; omega
      rcases hka with hk | hk | hk
      · rw [over_bad a b (fun h => h.2.2 hk)]
        clear ha hb hkb
        obtain ⟨k, p, c, x, y⟩ := a
        obtain ⟨k', p', c', x', y'⟩ := b
        simp only at hk
        subst hk
        have HX := Lib.hid (three_new w 0 p c x y k' p' c' x' y')
        unfold uval at HMa HMb ⊢
        simp only at HMa HMb ⊢
        go_enter Try.func67, Try.ntmps67
        go_wp2_with fail
        refine (HMa _).out.mono ?_
        rintro e w1 ⟨rfl, hb1⟩
        obtain ⟨hA, hB, hC, hW⟩ := HX.out w1 hb1
        have HW1 := Lib.hid hW
        have HA1 := Lib.hid hA
        have HB1 := Lib.hid hB
        have HC1 := Lib.hid hC
        obtain ⟨b0, b1, b2, b3, b4⟩ := hB.cells
        clear hA hB hC hW hb1
        go_wp2_with fail
        refine (HMb _).out.mono ?_
        rintro e w2 ⟨rfl, hb2⟩
        have hA2 := HA1.out.then_ hb2
        have hB2 := HB1.out.then_ hb2
        have hC2 := HC1.out.then_ hb2
        have HA2 := Lib.hid hA2
        have HB2 := Lib.hid hB2
        obtain ⟨a0, a1, a2, a3, a4⟩ := hA2.cells
        clear b0 b1 b2 b3 b4
        obtain ⟨b0, b1, b2, b3, b4⟩ := hB2.cells
        obtain ⟨d0, d1, d2, d3, d4⟩ := hC2.cells
        have f1 := fun j => hA2.frozen j
        have f2 := fun j => hC2.frozen j
        have HW2 := Lib.hid (HW1.out.trans (hb2.mono (HW1.out.size)))
        have HC2 := Lib.hid hC2
        clear HW1 HA1 HB1 HC1 hA2 hB2 hC2 hb2
        go_wp2_with fail
        exact bodyPost_ret (results_unit rfl (by rfl) (HC2.out.sets _ _ _ _ _)) rfl ⟨rfl, below_sets HW2.out (by omega) _ _ _ _ _⟩
      all_goals
        rcases hkb with hk' | hk' | hk'
        · rw [over_nop a b hk']
          clear ha hb
          obtain ⟨k, p, c, x, y⟩ := a
          obtain ⟨k', p', c', x', y'⟩ := b
          have HX := Lib.hid (three_new w k p c x y k' p' c' x' y')
          simp only at hk hk'
          subst hk hk'
          unfold uval at HMa HMb ⊢
          simp only at HMa HMb ⊢
          go_enter Try.func67, Try.ntmps67
          go_wp2_with fail
          refine (HMa _).out.mono ?_
          rintro e w1 ⟨rfl, hb1⟩
          obtain ⟨hA, hB, hC, hW⟩ := HX.out w1 hb1
          have HW1 := Lib.hid hW
          have HA1 := Lib.hid hA
          have HB1 := Lib.hid hB
          have HC1 := Lib.hid hC
          obtain ⟨b0, b1, b2, b3, b4⟩ := hB.cells
          clear hA hB hC hW hb1
          go_wp2_with fail
          refine (HMb _).out.mono ?_
          rintro e w2 ⟨rfl, hb2⟩
          have hA2 := HA1.out.then_ hb2
          have hB2 := HB1.out.then_ hb2
          have hC2 := HC1.out.then_ hb2
          have HA2 := Lib.hid hA2
          have HB2 := Lib.hid hB2
          obtain ⟨a0, a1, a2, a3, a4⟩ := hA2.cells
          clear b0 b1 b2 b3 b4
          obtain ⟨b0, b1, b2, b3, b4⟩ := hB2.cells
          obtain ⟨d0, d1, d2, d3, d4⟩ := hC2.cells
          have f1 := fun j => hA2.frozen j
          have f2 := fun j => hC2.frozen j
          have HW2 := Lib.hid (HW1.out.trans (hb2.mono (HW1.out.size)))
          have HC2 := Lib.hid hC2
          clear HW1 HA1 HB1 HC1 hA2 hB2 hC2 hb2
          go_wp2_with fail
          exact bodyPost_ret (results_unit rfl (by rfl) (HC2.out.sets _ _ _ _ _)) rfl ⟨rfl, below_sets HW2.out (by omega) _ _ _ _ _⟩
        · rw [over_one ha hb (by omega) hk']
          clear ha hb
          obtain ⟨k, p, c, x, y⟩ := a
          obtain ⟨k', p', c', x', y'⟩ := b
          have HX := Lib.hid (three_new w k p c x y k' p' c' x' y')
          simp only at hk hk'
          subst hk hk'
          have HF := fun w => Lib.hid (ahead6_any x' y' x y w)
          unfold Pl.pastIns
          unfold idval at HF
          simp only
          by_cases h : p' < p
          · rw [if_pos (Or.inl h)]
            have h5 : p' ≤ p := by omega
            unfold uval at HMa HMb ⊢
            simp only at HMa HMb ⊢
            go_enter Try.func67, Try.ntmps67
            go_wp2_with fail
            refine (HMa _).out.mono ?_
            rintro e w1 ⟨rfl, hb1⟩
            obtain ⟨hA, hB, hC, hW⟩ := HX.out w1 hb1
            have HW1 := Lib.hid hW
            have HA1 := Lib.hid hA
            have HB1 := Lib.hid hB
            have HC1 := Lib.hid hC
            obtain ⟨b0, b1, b2, b3, b4⟩ := hB.cells
            clear hA hB hC hW hb1
            go_wp2_with fail
            refine (HMb _).out.mono ?_
            rintro e w2 ⟨rfl, hb2⟩
            have hA2 := HA1.out.then_ hb2
            have hB2 := HB1.out.then_ hb2
            have hC2 := HC1.out.then_ hb2
            have HA2 := Lib.hid hA2
            have HB2 := Lib.hid hB2
            obtain ⟨a0, a1, a2, a3, a4⟩ := hA2.cells
            clear b0 b1 b2 b3 b4
            obtain ⟨b0, b1, b2, b3, b4⟩ := hB2.cells
            obtain ⟨d0, d1, d2, d3, d4⟩ := hC2.cells
            have f1 := fun j => hA2.frozen j
            have f2 := fun j => hC2.frozen j
            have HW2 := Lib.hid (HW1.out.trans (hb2.mono (HW1.out.size)))
            have HC2 := Lib.hid hC2
            clear HW1 HA1 HB1 HC1 hA2 hB2 hC2 hb2
            go_wp2_with fail
            exact bodyPost_ret (results_unit rfl (by rfl) ((HC2.out.far (q := ⟨w.heap.size, 1, none⟩) (by simp only; omega) _).sets _ _ _ _ _)) rfl ⟨rfl, below_sets (HW2.out.setCell (p := ⟨w.heap.size, 1, none⟩) (Nat.le_refl _) _) (by omega) _ _ _ _ _⟩
          · by_cases he : p = p'
            · subst he
              first
                | (rw [if_pos (by simp)]
                   have h5 : p ≤ p := Int.le_refl p
                   unfold uval at HMa HMb ⊢
                   simp only at HMa HMb ⊢
                   go_enter Try.func67, Try.ntmps67
                   go_wp2_with fail
                   refine (HMa _).out.mono ?_
                   rintro e w1 ⟨rfl, hb1⟩
                   obtain ⟨hA, hB, hC, hW⟩ := HX.out w1 hb1
                   have HW1 := Lib.hid hW
                   have HA1 := Lib.hid hA
                   have HB1 := Lib.hid hB
                   have HC1 := Lib.hid hC
                   obtain ⟨b0, b1, b2, b3, b4⟩ := hB.cells
                   clear hA hB hC hW hb1
                   go_wp2_with fail
                   refine (HMb _).out.mono ?_
                   rintro e w2 ⟨rfl, hb2⟩
                   have hA2 := HA1.out.then_ hb2
                   have hB2 := HB1.out.then_ hb2
                   have hC2 := HC1.out.then_ hb2
                   have HA2 := Lib.hid hA2
                   have HB2 := Lib.hid hB2
                   obtain ⟨a0, a1, a2, a3, a4⟩ := hA2.cells
                   clear b0 b1 b2 b3 b4
                   obtain ⟨b0, b1, b2, b3, b4⟩ := hB2.cells
                   obtain ⟨d0, d1, d2, d3, d4⟩ := hC2.cells
                   have f1 := fun j => hA2.frozen j
                   have f2 := fun j => hC2.frozen j
                   have HW2 := Lib.hid (HW1.out.trans (hb2.mono (HW1.out.size)))
                   have HC2 := Lib.hid hC2
                   clear HW1 HA1 HB1 HC1 hA2 hB2 hC2 hb2
                   go_wp2_with fail
                   exact bodyPost_ret (results_unit rfl (by rfl) ((HC2.out.far (q := ⟨w.heap.size, 1, none⟩) (by simp only; omega) _).sets _ _ _ _ _)) rfl ⟨rfl, below_sets (HW2.out.setCell (p := ⟨w.heap.size, 1, none⟩) (Nat.le_refl _) _) (by omega) _ _ _ _ _⟩
                   done)
                | (by_cases hf : Pl.First x' y' x y
                   · rw [if_pos (by simp [hf])]
                     rw [decide_eq_true hf] at HF
                     clear hf
                     unfold uval at HMa HMb ⊢
                     simp only at HMa HMb ⊢
                     go_enter Try.func67, Try.ntmps67
                     go_wp2_with fail
                     refine (HMa _).out.mono ?_
                     rintro e w1 ⟨rfl, hb1⟩
                     obtain ⟨hA, hB, hC, hW⟩ := HX.out w1 hb1
                     have HW1 := Lib.hid hW
                     have HA1 := Lib.hid hA
                     have HB1 := Lib.hid hB
                     have HC1 := Lib.hid hC
                     obtain ⟨b0, b1, b2, b3, b4⟩ := hB.cells
                     clear hA hB hC hW hb1
                     go_wp2_with fail
                     refine (HMb _).out.mono ?_
                     rintro e w2 ⟨rfl, hb2⟩
                     have hA2 := HA1.out.then_ hb2
                     have hB2 := HB1.out.then_ hb2
                     have hC2 := HC1.out.then_ hb2
                     have HA2 := Lib.hid hA2
                     have HB2 := Lib.hid hB2
                     obtain ⟨a0, a1, a2, a3, a4⟩ := hA2.cells
                     clear b0 b1 b2 b3 b4
                     obtain ⟨b0, b1, b2, b3, b4⟩ := hB2.cells
                     obtain ⟨d0, d1, d2, d3, d4⟩ := hC2.cells
                     have f1 := fun j => hA2.frozen j
                     have f2 := fun j => hC2.frozen j
                     have HW2 := Lib.hid (HW1.out.trans (hb2.mono (HW1.out.size)))
                     have HC2 := Lib.hid hC2
                     clear HW1 HA1 HB1 HC1 hA2 hB2 hC2 hb2
                     go_wp2_with fail
                     refine (HF _).out.mono ?_
                     rintro e w3 ⟨rfl, hb3⟩
                     have hA3 := HA2.out.then_ hb3
                     have hC3 := HC2.out.then_ hb3
                     clear a0 a1 a2 a3 a4 b0 b1 b2 b3 b4 d0 d1 d2 d3 d4 f1 f2
                     obtain ⟨a0, a1, a2, a3, a4⟩ := hA3.cells
                     obtain ⟨d0, d1, d2, d3, d4⟩ := hC3.cells
                     have f1 := fun j => hA3.frozen j
                     have f2 := fun j => hC3.frozen j
                     have HW3 := Lib.hid (HW2.out.trans (hb3.mono (HW2.out.size)))
                     have HC3 := Lib.hid hC3
                     clear hA3 hC3 hb3
                     go_wp2_with fail
                     exact bodyPost_ret (results_unit rfl (by rfl) ((HC3.out.far (q := ⟨w.heap.size, 1, none⟩) (by simp only; omega) _).sets _ _ _ _ _)) rfl ⟨rfl, below_sets (HW3.out.setCell (p := ⟨w.heap.size, 1, none⟩) (Nat.le_refl _) _) (by omega) _ _ _ _ _⟩
                   · rw [if_neg (by simp [hf])]
                     rw [decide_eq_false hf] at HF
                     clear hf
                     unfold uval at HMa HMb ⊢
                     simp only at HMa HMb ⊢
                     go_enter Try.func67, Try.ntmps67
                     go_wp2_with fail
                     refine (HMa _).out.mono ?_
                     rintro e w1 ⟨rfl, hb1⟩
                     obtain ⟨hA, hB, hC, hW⟩ := HX.out w1 hb1
                     have HW1 := Lib.hid hW
                     have HA1 := Lib.hid hA
                     have HB1 := Lib.hid hB
                     have HC1 := Lib.hid hC
                     obtain ⟨b0, b1, b2, b3, b4⟩ := hB.cells
                     clear hA hB hC hW hb1
                     go_wp2_with fail
                     refine (HMb _).out.mono ?_
                     rintro e w2 ⟨rfl, hb2⟩
                     have hA2 := HA1.out.then_ hb2
                     have hB2 := HB1.out.then_ hb2
                     have hC2 := HC1.out.then_ hb2
                     have HA2 := Lib.hid hA2
                     have HB2 := Lib.hid hB2
                     obtain ⟨a0, a1, a2, a3, a4⟩ := hA2.cells
                     clear b0 b1 b2 b3 b4
                     obtain ⟨b0, b1, b2, b3, b4⟩ := hB2.cells
                     obtain ⟨d0, d1, d2, d3, d4⟩ := hC2.cells
                     have f1 := fun j => hA2.frozen j
                     have f2 := fun j => hC2.frozen j
                     have HW2 := Lib.hid (HW1.out.trans (hb2.mono (HW1.out.size)))
                     have HC2 := Lib.hid hC2
                     clear HW1 HA1 HB1 HC1 hA2 hB2 hC2 hb2
                     go_wp2_with fail
                     refine (HF _).out.mono ?_
                     rintro e w3 ⟨rfl, hb3⟩
                     have hA3 := HA2.out.then_ hb3
                     have hC3 := HC2.out.then_ hb3
                     clear a0 a1 a2 a3 a4 b0 b1 b2 b3 b4 d0 d1 d2 d3 d4 f1 f2
                     obtain ⟨a0, a1, a2, a3, a4⟩ := hA3.cells
                     obtain ⟨d0, d1, d2, d3, d4⟩ := hC3.cells
                     have f2 := fun j => hC3.frozen j
                     have HW3 := Lib.hid (HW2.out.trans (hb3.mono (HW2.out.size)))
                     have HC3 := Lib.hid hC3
                     clear hA3 hC3 hb3
                     go_wp2_with fail
                     exact bodyPost_ret (results_unit rfl (by rfl) (HC3.out.sets _ _ _ _ _)) rfl ⟨rfl, below_sets HW3.out (by omega) _ _ _ _ _⟩)
            · rw [if_neg (fun h1 => h1.elim h (fun h2 => he h2.1))]
              have heb : (p == p') = false := by simpa using he
              have h5 : ¬ p' ≤ p := by omega
              unfold uval at HMa HMb ⊢
              simp only at HMa HMb ⊢
              go_enter Try.func67, Try.ntmps67
              go_wp2_with fail
              refine (HMa _).out.mono ?_
              rintro e w1 ⟨rfl, hb1⟩
              obtain ⟨hA, hB, hC, hW⟩ := HX.out w1 hb1
              have HW1 := Lib.hid hW
              have HA1 := Lib.hid hA
              have HB1 := Lib.hid hB
              have HC1 := Lib.hid hC
              obtain ⟨b0, b1, b2, b3, b4⟩ := hB.cells
              clear hA hB hC hW hb1
              go_wp2_with fail
              refine (HMb _).out.mono ?_
              rintro e w2 ⟨rfl, hb2⟩
              have hA2 := HA1.out.then_ hb2
              have hB2 := HB1.out.then_ hb2
              have hC2 := HC1.out.then_ hb2
              have HA2 := Lib.hid hA2
              have HB2 := Lib.hid hB2
              obtain ⟨a0, a1, a2, a3, a4⟩ := hA2.cells
              clear b0 b1 b2 b3 b4
              obtain ⟨b0, b1, b2, b3, b4⟩ := hB2.cells
              obtain ⟨d0, d1, d2, d3, d4⟩ := hC2.cells
              have f1 := fun j => hA2.frozen j
              have f2 := fun j => hC2.frozen j
              have HW2 := Lib.hid (HW1.out.trans (hb2.mono (HW1.out.size)))
              have HC2 := Lib.hid hC2
              clear HW1 HA1 HB1 HC1 hA2 hB2 hC2 hb2
              go_wp2_with fail
              exact bodyPost_ret (results_unit rfl (by rfl) (HC2.out.sets _ _ _ _ _)) rfl ⟨rfl, below_sets HW2.out (by omega) _ _ _ _ _⟩
        · rw [over_two ha hb (by omega) hk']
          clear ha hb
          obtain ⟨k, p, c, x, y⟩ := a
          obtain ⟨k', p', c', x', y'⟩ := b
          have HX := Lib.hid (three_new w k p c x y k' p' c' x' y')
          simp only at hk hk'
          subst hk hk'
          unfold Pl.pastDel
          simp only
          by_cases h : p' < p
          · rw [if_pos h]
            have heb : (p == p') = false := by rw [beq_eq_false_iff_ne]; omega
            unfold uval at HMa HMb ⊢
            simp only at HMa HMb ⊢
            go_enter Try.func67, Try.ntmps67
            go_wp2_with fail
            refine (HMa _).out.mono ?_
            rintro e w1 ⟨rfl, hb1⟩
            obtain ⟨hA, hB, hC, hW⟩ := HX.out w1 hb1
            have HW1 := Lib.hid hW
            have HA1 := Lib.hid hA
            have HB1 := Lib.hid hB
            have HC1 := Lib.hid hC
            obtain ⟨b0, b1, b2, b3, b4⟩ := hB.cells
            clear hA hB hC hW hb1
            go_wp2_with fail
            refine (HMb _).out.mono ?_
            rintro e w2 ⟨rfl, hb2⟩
            have hA2 := HA1.out.then_ hb2
            have hB2 := HB1.out.then_ hb2
            have hC2 := HC1.out.then_ hb2
            have HA2 := Lib.hid hA2
            have HB2 := Lib.hid hB2
            obtain ⟨a0, a1, a2, a3, a4⟩ := hA2.cells
            clear b0 b1 b2 b3 b4
            obtain ⟨b0, b1, b2, b3, b4⟩ := hB2.cells
            obtain ⟨d0, d1, d2, d3, d4⟩ := hC2.cells
            have f1 := fun j => hA2.frozen j
            have f2 := fun j => hC2.frozen j
            have HW2 := Lib.hid (HW1.out.trans (hb2.mono (HW1.out.size)))
            have HC2 := Lib.hid hC2
            clear HW1 HA1 HB1 HC1 hA2 hB2 hC2 hb2
            go_wp2_with fail
            exact bodyPost_ret (results_unit rfl (by rfl) ((HC2.out.far (q := ⟨w.heap.size, 1, none⟩) (by simp only; omega) _).sets _ _ _ _ _)) rfl ⟨rfl, below_sets (HW2.out.setCell (p := ⟨w.heap.size, 1, none⟩) (Nat.le_refl _) _) (by omega) _ _ _ _ _⟩
          · rw [if_neg h]
            by_cases he : p = p'
            · subst he
              first
                | (rw [if_pos (by simp)]
                   unfold uval at HMa HMb ⊢
                   simp only at HMa HMb ⊢
                   go_enter Try.func67, Try.ntmps67
                   go_wp2_with fail
                   refine (HMa _).out.mono ?_
                   rintro e w1 ⟨rfl, hb1⟩
                   obtain ⟨hA, hB, hC, hW⟩ := HX.out w1 hb1
                   have HW1 := Lib.hid hW
                   have HA1 := Lib.hid hA
                   have HB1 := Lib.hid hB
                   have HC1 := Lib.hid hC
                   obtain ⟨b0, b1, b2, b3, b4⟩ := hB.cells
                   clear hA hB hC hW hb1
                   go_wp2_with fail
                   refine (HMb _).out.mono ?_
                   rintro e w2 ⟨rfl, hb2⟩
                   have hA2 := HA1.out.then_ hb2
                   have hB2 := HB1.out.then_ hb2
                   have hC2 := HC1.out.then_ hb2
                   have HA2 := Lib.hid hA2
                   have HB2 := Lib.hid hB2
                   obtain ⟨a0, a1, a2, a3, a4⟩ := hA2.cells
                   clear b0 b1 b2 b3 b4
                   obtain ⟨b0, b1, b2, b3, b4⟩ := hB2.cells
                   obtain ⟨d0, d1, d2, d3, d4⟩ := hC2.cells
                   have f1 := fun j => hA2.frozen j
                   have f2 := fun j => hC2.frozen j
                   have HW2 := Lib.hid (HW1.out.trans (hb2.mono (HW1.out.size)))
                   have HC2 := Lib.hid hC2
                   clear HW1 HA1 HB1 HC1 hA2 hB2 hC2 hb2
                   go_wp2_with fail
                   exact bodyPost_ret (results_unit rfl (by rfl) (HC2.out.sets _ _ _ _ _)) rfl ⟨rfl, below_sets HW2.out (by omega) _ _ _ _ _⟩
                   done)
                | (rw [if_neg (by simp)]
                   unfold uval at HMa HMb ⊢
                   simp only at HMa HMb ⊢
                   go_enter Try.func67, Try.ntmps67
                   go_wp2_with fail
                   refine (HMa _).out.mono ?_
                   rintro e w1 ⟨rfl, hb1⟩
                   obtain ⟨hA, hB, hC, hW⟩ := HX.out w1 hb1
                   have HW1 := Lib.hid hW
                   have HA1 := Lib.hid hA
                   have HB1 := Lib.hid hB
                   have HC1 := Lib.hid hC
                   obtain ⟨b0, b1, b2, b3, b4⟩ := hB.cells
                   clear hA hB hC hW hb1
                   go_wp2_with fail
                   refine (HMb _).out.mono ?_
                   rintro e w2 ⟨rfl, hb2⟩
                   have hA2 := HA1.out.then_ hb2
                   have hB2 := HB1.out.then_ hb2
                   have hC2 := HC1.out.then_ hb2
                   have HA2 := Lib.hid hA2
                   have HB2 := Lib.hid hB2
                   obtain ⟨a0, a1, a2, a3, a4⟩ := hA2.cells
                   clear b0 b1 b2 b3 b4
                   obtain ⟨b0, b1, b2, b3, b4⟩ := hB2.cells
                   obtain ⟨d0, d1, d2, d3, d4⟩ := hC2.cells
                   have f1 := fun j => hA2.frozen j
                   have f2 := fun j => hC2.frozen j
                   have HW2 := Lib.hid (HW1.out.trans (hb2.mono (HW1.out.size)))
                   have HC2 := Lib.hid hC2
                   clear HW1 HA1 HB1 HC1 hA2 hB2 hC2 hb2
                   go_wp2_with fail
                   exact bodyPost_ret (results_unit rfl (by rfl) (HC2.out.sets _ _ _ _ _)) rfl ⟨rfl, below_sets HW2.out (by omega) _ _ _ _ _⟩
                   done)
            · rw [if_neg (fun h1 => he h1.1)]
              have heb : (p == p') = false := by simpa using he
              unfold uval at HMa HMb ⊢
              simp only at HMa HMb ⊢
              go_enter Try.func67, Try.ntmps67
              go_wp2_with fail
              refine (HMa _).out.mono ?_
              rintro e w1 ⟨rfl, hb1⟩
              obtain ⟨hA, hB, hC, hW⟩ := HX.out w1 hb1
              have HW1 := Lib.hid hW
              have HA1 := Lib.hid hA
              have HB1 := Lib.hid hB
              have HC1 := Lib.hid hC
              obtain ⟨b0, b1, b2, b3, b4⟩ := hB.cells
              clear hA hB hC hW hb1
              go_wp2_with fail
              refine (HMb _).out.mono ?_
              rintro e w2 ⟨rfl, hb2⟩
              have hA2 := HA1.out.then_ hb2
              have hB2 := HB1.out.then_ hb2
              have hC2 := HC1.out.then_ hb2
              have HA2 := Lib.hid hA2
              have HB2 := Lib.hid hB2
              obtain ⟨a0, a1, a2, a3, a4⟩ := hA2.cells
              clear b0 b1 b2 b3 b4
              obtain ⟨b0, b1, b2, b3, b4⟩ := hB2.cells
              obtain ⟨d0, d1, d2, d3, d4⟩ := hC2.cells
              have f1 := fun j => hA2.frozen j
              have f2 := fun j => hC2.frozen j
              have HW2 := Lib.hid (HW1.out.trans (hb2.mono (HW1.out.size)))
              have HC2 := Lib.hid hC2
              clear HW1 HA1 HB1 HC1 hA2 hB2 hC2 hb2
              go_wp2_with fail
              exact bodyPost_ret (results_unit rfl (by rfl) (HC2.out.sets _ _ _ _ _)) rfl ⟨rfl, below_sets HW2.out (by omega) _ _ _ _ _⟩
    · rw [over_bad a b (fun h => hb h.2.1)]
      rw [decide_eq_false hb] at HMb
      clear ha hb
      obtain ⟨k, p, c, x, y⟩ := a
      obtain ⟨k', p', c', x', y'⟩ := b
      have HX := Lib.hid (three_new w k p c x y k' p' c' x' y')
      unfold uval at HMa HMb ⊢
      simp only at HMa HMb ⊢
      go_enter Try.func67, Try.ntmps67
      go_wp2_with fail
      refine (HMa _).out.mono ?_
      rintro e w1 ⟨rfl, hb1⟩
      obtain ⟨hA, hB, hC, hW⟩ := HX.out w1 hb1
      have HW1 := Lib.hid hW
      have HA1 := Lib.hid hA
      have HB1 := Lib.hid hB
      have HC1 := Lib.hid hC
      obtain ⟨b0, b1, b2, b3, b4⟩ := hB.cells
      clear hA hB hC hW hb1
      go_wp2_with fail
      refine (HMb _).out.mono ?_
      rintro e w2 ⟨rfl, hb2⟩
      have hA2 := HA1.out.then_ hb2
      have hB2 := HB1.out.then_ hb2
      have hC2 := HC1.out.then_ hb2
      have HA2 := Lib.hid hA2
      have HB2 := Lib.hid hB2
      obtain ⟨a0, a1, a2, a3, a4⟩ := hA2.cells
      clear b0 b1 b2 b3 b4
      obtain ⟨b0, b1, b2, b3, b4⟩ := hB2.cells
      obtain ⟨d0, d1, d2, d3, d4⟩ := hC2.cells
      have f1 := fun j => hA2.frozen j
      have f2 := fun j => hC2.frozen j
      have HW2 := Lib.hid (HW1.out.trans (hb2.mono (HW1.out.size)))
      have HC2 := Lib.hid hC2
      clear HW1 HA1 HB1 HC1 hA2 hB2 hC2 hb2
      go_wp2_with fail
      exact bodyPost_ret (results_unit rfl (by rfl) (HC2.out.sets _ _ _ _ _)) rfl ⟨rfl, below_sets HW2.out (by omega) _ _ _ _ _⟩
  · rw [over_bad a b (fun h => ha h.1)]
    rw [decide_eq_false ha] at HMa
    clear ha
    obtain ⟨k, p, c, x, y⟩ := a
    obtain ⟨k', p', c', x', y'⟩ := b
    have HX := Lib.hid (three_new w k p c x y k' p' c' x' y')
    unfold uval at HMa HMb ⊢
    simp only at HMa HMb ⊢
    go_enter Try.func67, Try.ntmps67
    go_wp2_with fail
    refine (HMa _).out.mono ?_
    rintro e w1 ⟨rfl, hb1⟩
    obtain ⟨hA, hB, hC, hW⟩ := HX.out w1 hb1
    have HW2 := Lib.hid hW
    have HC2 := Lib.hid hC
    obtain ⟨a0, a1, a2, a3, a4⟩ := hA.cells
    obtain ⟨d0, d1, d2, d3, d4⟩ := hC.cells
    have f2 := fun j => hC.frozen j
    clear hA hB hC hW hb1
    go_wp2_with fail
    exact bodyPost_ret (results_unit rfl (by rfl) (HC2.out.sets _ _ _ _ _)) rfl ⟨rfl, below_sets HW2.out (by omega) _ _ _ _ _⟩
end Go.Proofs.Ytlnekhkdncccgaa
