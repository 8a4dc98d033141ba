/-
  A unit in plain words (kind, place, code point, client, request): which may be, which fits, which Id is ahead, what becomes of one behind another; and the contracts of utf.May and unit.May, Fits, Grows, Ahead. No conditions but those that each states.
-/
import Derived.Test.YtfjnliebgndemaaPceM
import Derived.Test.YtfjnliebgndemaaUniPl
namespace Go.Proofs.Ytfjnliebgndemaa
open Go.RowKit

open Pl (Un)
/-- a unit as a value -/
def uval (u : Un) : Value := .agg #[.int .i64 u.k, .int .i64 u.p, .int .i32 u.c, .int .u32 u.x, .int .u64 u.y]
def idval (x y : Int) : Value := .agg #[.int .u32 x, .int .u64 y]
theorem ret_int {k : IntKind} {a b : Int} (h : a = b) : Ending.returned (.int k a) = .returned (.int k b) := by rw [h]
theorem ret_bool {a b : Bool} (h : a = b) : Ending.returned (.bool a) = .returned (.bool b) := by rw [h]

theorem Pl.may_bool (c : Int) : decide (Pl.May c) = ((decide (0 ≤ c) && decide (c < 55296)) || (decide (57343 < c) && decide (c ≤ 1114111))) := by
  unfold Pl.May
  rw [Bool.eq_iff_iff]
  simp only [decide_eq_true_iff, Bool.or_eq_true, Bool.and_eq_true]
  exact decide_eq_true_iff
set_option maxRecDepth 100000 in
set_option maxHeartbeats 400000 in
theorem may_any (c : Int) (w : World) :
    Calls Try.prog 35 #[.int .i32 c] w fun e w' => e = .returned (.bool (decide (Pl.May c))) ∧ w = w' := by
  go_enter Try.func35, Try.ntmps35
  go_wp2
  all_goals
    go_ret
    refine ⟨ret_bool ?_, rfl⟩
    rw [Pl.may_bool]
    first | (simp; done) | (rw [Bool.eq_iff_iff]; simp only [decide_eq_true_iff, Bool.or_eq_true, Bool.and_eq_true, Bool.false_eq_true, true_iff, false_iff]; omega)
set_option maxRecDepth 100000 in
set_option maxHeartbeats 400000 in
theorem okay_any (u : Un) (w : World) :
    Calls Try.prog 25 #[uval u] w fun e w' => e = .returned (.bool (decide (Pl.Okay u))) ∧ Below w.heap.size w w' := by
  obtain ⟨k, p, c, x, y⟩ := u
  have HM := fun w => Lib.hid (may_any c w)
  obtain ⟨r, hr⟩ : ∃ r, r = decide (Pl.Okay ⟨k, p, c, x, y⟩) := ⟨_, rfl⟩
  rw [← hr]
  have HR := Lib.hid hr
  clear hr
  unfold uval
  simp only
  go_enter Try.func25, Try.ntmps25
  by_cases h0 : k = 0
  · subst h0
    go_wp2_with fail
    all_goals
      go_ret
      refine ⟨ret_bool ?_, (Below.refl _ w).alloc (Nat.le_refl _) _⟩
      rw [HR.out]
      unfold Pl.Okay
      rw [Bool.eq_iff_iff]
      simp [*]
  · by_cases h1 : k = 1 ∨ k = 2
    · have HK := Lib.hid h1
      by_cases hp : 0 ≤ p
      · rcases h1 with rfl | rfl
        all_goals
          go_wp2_with fail
          refine (HM _).out.mono ?_
          rintro e w' ⟨rfl, rfl⟩
          go_wp2_with fail
          go_ret
          refine ⟨ret_bool ?_, (Below.refl _ w).alloc (Nat.le_refl _) _⟩
          rw [HR.out]
          unfold Pl.Okay
          simp
          intro _
          exact hp
      · rcases h1 with rfl | rfl
        all_goals
          go_wp2_with fail
          go_ret
          refine ⟨ret_bool ?_, (Below.refl _ w).alloc (Nat.le_refl _) _⟩
          rw [HR.out]
          unfold Pl.Okay
          simp
          omega
    · have h2 : ¬ k = 2 := fun h => h1 (Or.inr h)
      have h3 : ¬ k = 1 := fun h => h1 (Or.inl h)
      clear h1
      go_wp2_with fail
      go_ret
      refine ⟨ret_bool ?_, (Below.refl _ w).alloc (Nat.le_refl _) _⟩
      rw [HR.out]
      unfold Pl.Okay
      simp [h0, h2, h3]
/-- a unit's cells at the head of a block -/
def UAt (w : World) (b : Nat) (k p c x y : Int) : Prop := w.heap[b]? = some (.cells #[.int .i64 k, .int .i64 p, .int .i32 c, .int .u32 x, .int .u64 y] 57 (0, 0))
section
variable {w w' : World} {b B : Nat} {k p c x y : Int}
theorem uat_new (w : World) (k p c x y : Int) : UAt (w.alloc (.cells #[.int .i64 k, .int .i64 p, .int .i32 c, .int .u32 x, .int .u64 y] 57)) w.heap.size k p c x y := heap_new rfl
theorem UAt.below (h : UAt w b k p c x y) (hb : Below B w w') (hB : b < B) : UAt w' b k p c x y := (hb.block b hB).trans h
theorem UAt.lt (h : UAt w b k p c x y) : b < w.heap.size := lt_of_block h
theorem UAt.then_ (h : UAt w b k p c x y) (hb : Below w.heap.size w w') : UAt w' b k p c x y := h.below hb h.lt
theorem UAt.alloc (h : UAt w b k p c x y) (o : Obj) : UAt (w.alloc o) b k p c x y := h.then_ ((Below.refl _ w).alloc (Nat.le_refl _) o)
theorem UAt.cells (h : UAt w b k p c x y) : w.cell? ⟨b, 0, none⟩ = some (.int .i64 k) ∧ w.cell? ⟨b, 1, none⟩ = some (.int .i64 p) ∧ w.cell? ⟨b, 2, none⟩ = some (.int .i32 c) ∧ w.cell? ⟨b, 3, none⟩ = some (.int .u32 x) ∧ w.cell? ⟨b, 4, none⟩ = some (.int .u64 y) := by
  unfold UAt at h
  refine ⟨?_, ?_, ?_, ?_, ?_⟩ <;> (rw [cell_of_row w b _ _ _ _ h]; rfl)
end
theorem below_box (w : World) (o : Obj) : Below w.heap.size w (w.alloc o) := (Below.refl _ w).alloc (Nat.le_refl _) o
theorem below_on {w w1 : World} {o : Obj} (h : Below (w.alloc o).heap.size (w.alloc o) w1) : Below w.heap.size w w1 := (below_box w o).trans (h.mono (below_box w o).size)

set_option maxRecDepth 100000 in
set_option maxHeartbeats 400000 in
theorem fits_any (u : Un) (n : Int) (w : World) :
    Calls Try.prog 27 #[uval u, .int .i64 n] w fun e w' => e = .returned (.bool (decide (Pl.Fit u n))) ∧ Below w.heap.size w w' := by
  obtain ⟨k, p, c, x, y⟩ := u
  have HM := fun w => Lib.hid (okay_any ⟨k, p, c, x, y⟩ w)
  obtain ⟨r, hr⟩ : ∃ r, r = decide (Pl.Fit ⟨k, p, c, x, y⟩ n) := ⟨_, rfl⟩
  rw [← hr]
  have HR := Lib.hid hr
  clear hr
  have HU := Lib.hid (uat_new w k p c x y)
  by_cases hO : Pl.Okay ⟨k, p, c, x, y⟩
  · rw [decide_eq_true hO] at HM
    have HO := Lib.hid hO
    clear hO
    unfold uval at *
    simp only at *
    go_enter Try.func27, Try.ntmps27
    by_cases h1 : k = 1
    · subst h1
      go_wp2_with fail
      refine (HM _).out.mono ?_
      rintro e w' ⟨rfl, hb⟩
      have HB := Lib.hid (below_on hb)
      obtain ⟨c0, c1, c2, c3, c4⟩ := (HU.out.then_ hb).cells
      clear hb
      go_wp2_with fail
      go_ret
      refine ⟨ret_bool ?_, HB.out⟩
      rw [HR.out]
      unfold Pl.Fit
      simp [HO.out]
    · by_cases h2 : k = 2
      · subst h2
        go_wp2_with fail
        refine (HM _).out.mono ?_
        rintro e w' ⟨rfl, hb⟩
        have HB := Lib.hid (below_on hb)
        obtain ⟨c0, c1, c2, c3, c4⟩ := (HU.out.then_ hb).cells
        clear hb
        go_wp2_with fail
        go_ret
        refine ⟨ret_bool ?_, HB.out⟩
        rw [HR.out]
        unfold Pl.Fit
        simp [HO.out]
      · go_wp2_with fail
        refine (HM _).out.mono ?_
        rintro e w' ⟨rfl, hb⟩
        have HB := Lib.hid (below_on hb)
        clear hb
        go_wp2_with fail
        go_ret
        refine ⟨ret_bool ?_, HB.out⟩
        rw [HR.out]
        unfold Pl.Fit
        simp [HO.out, h1, h2]
  · rw [decide_eq_false hO] at HM
    have HO := Lib.hid (show r = false by rw [HR.out]; exact decide_eq_false fun h => hO h.1)
    clear hO HR
    unfold uval at *
    simp only at *
    go_enter Try.func27, Try.ntmps27
    by_cases h1 : k = 1
    · subst h1
      go_wp2_with fail
      refine (HM _).out.mono ?_
      rintro e w' ⟨rfl, hb⟩
      have HB := Lib.hid (below_on hb)
      clear hb
      go_wp2_with fail
      go_ret
      exact ⟨ret_bool HO.out.symm, HB.out⟩
    · by_cases h2 : k = 2
      · subst h2
        go_wp2_with fail
        refine (HM _).out.mono ?_
        rintro e w' ⟨rfl, hb⟩
        have HB := Lib.hid (below_on hb)
        clear hb
        go_wp2_with fail
        go_ret
        exact ⟨ret_bool HO.out.symm, HB.out⟩
      · go_wp2_with fail
        refine (HM _).out.mono ?_
        rintro e w' ⟨rfl, hb⟩
        have HB := Lib.hid (below_on hb)
        clear hb
        go_wp2_with fail
        go_ret
        exact ⟨ret_bool HO.out.symm, HB.out⟩
set_option maxRecDepth 100000 in
set_option maxHeartbeats 400000 in
theorem grows_any (u : Un) (w : World) :
    Calls Try.prog 28 #[uval u] w fun e w' => e = .returned (.int .i64 (Pl.grows u.k)) ∧ Below w.heap.size w w' := by
  obtain ⟨k, p, c, x, y⟩ := u
  unfold uval Pl.grows
  simp only
  go_enter Try.func28, Try.ntmps28
  by_cases h1 : k = 1
  · subst h1
    go_wp2_with fail
    go_ret
    exact ⟨rfl, below_box _ _⟩
  · by_cases h2 : k = 2
    · subst h2
      go_wp2_with fail
      go_ret
      exact ⟨rfl, below_box _ _⟩
    · go_wp2_with fail
      go_ret
      exact ⟨rfl, below_box _ _⟩
end Go.Proofs.Ytfjnliebgndemaa
