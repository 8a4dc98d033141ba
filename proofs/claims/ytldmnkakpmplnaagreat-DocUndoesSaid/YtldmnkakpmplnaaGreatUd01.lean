/-
  A unit in plain words: which may be, which fits, what becomes of one behind another, what it does to a text. Nothing of a program is named here.
  A unit in plain words (kind, place, code point, client, request): which may be, which fits, which Id is ahead, what becomes of one behind another; and the contracts of utf.May and unit.May, Fits, Grows, Ahead. No conditions but those that each states.
-/
import Derived.Test.YtldmnkakpmplnaaGreatUd00
import Derived.RowKit
set_option maxRecDepth 100000
namespace Go.Proofs.YtldmnkakpmplnaaGreat
open Go.RowKit
namespace Pl
def I (x : Int) : Prop := -9223372036854775808 ≤ x ∧ x ≤ 9223372036854775807
theorem I.out {x : Int} (h : I x) : -9223372036854775808 ≤ x ∧ x ≤ 9223372036854775807 := h
theorem I.mk {x : Int} (h : -9223372036854775808 ≤ x ∧ x ≤ 9223372036854775807) : I x := h
def May (c : Int) : Prop := 0 ≤ c ∧ c < 55296 ∨ 57343 < c ∧ c ≤ 1114111
instance (c : Int) : Decidable (May c) := by unfold May; infer_instance
structure Un where
  k : Int
  p : Int
  c : Int
  x : Int
  y : Int
deriving DecidableEq
def Okay (u : Un) : Prop := u.k = 0 ∧ u.p = 0 ∧ u.c = 0 ∨ (u.k = 1 ∨ u.k = 2) ∧ 0 ≤ u.p ∧ May u.c
instance (u : Un) : Decidable (Okay u) := by unfold Okay; infer_instance
def Fit (u : Un) (n : Int) : Prop := Okay u ∧ (u.k = 1 → u.p ≤ n) ∧ (u.k = 2 → u.p < n)
instance (u : Un) (n : Int) : Decidable (Fit u n) := by unfold Fit; infer_instance
def First (x y x' y' : Int) : Prop := x < x' ∨ x = x' ∧ y < y'
instance (x y x' y' : Int) : Decidable (First x y x' y') := by unfold First; infer_instance
def grows (k : Int) : Int := if k = 1 then 1 else if k = 2 then -1 else 0
end Pl
open Pl (Un)
def Pl.pastIns (a b : Un) : Un := if b.p < a.p ∨ a.p = b.p ∧ (a.k = 2 ∨ Pl.First b.x b.y a.x a.y) then ⟨a.k, wrap64 (a.p + 1), a.c, a.x, a.y⟩ else a
def Pl.pastDel (a b : Un) : Un := if b.p < a.p then ⟨a.k, wrap64 (a.p - 1), a.c, a.x, a.y⟩ else if a.p = b.p ∧ a.k = 2 then ⟨0, 0, 0, a.x, a.y⟩ else a
def Pl.over (a b : Un) : Un := if Pl.Okay a ∧ Pl.Okay b ∧ a.k ≠ 0 then (if b.k = 1 then Pl.pastIns a b else if b.k = 2 then Pl.pastDel a b else a) else a
namespace Pl
def behind (u : Un) (cs : List Int) : List Int := if u.k = 1 then cs.take u.p.toNat ++ u.c :: cs.drop u.p.toNat else if u.k = 2 then cs.take u.p.toNat ++ cs.drop (u.p.toNat + 1) else cs
end Pl
end Go.Proofs.YtldmnkakpmplnaaGreat
namespace Go.Proofs.YtldmnkakpmplnaaGreat
open Go.RowKit
open Pl (Un)
def uval (u : Un) : Value := .agg #[.int .i64 u.k, .int .i64 u.p, .int .i32 u.c, .int .u32 u.x, .int .u64 u.y]
def idval (x y : Int) : Value := .agg #[.int .u32 x, .int .u64 y]
theorem ret_int {k : IntKind} {a b : Int} (h : a = b) : Ending.returned (.int k a) = .returned (.int k b) := by rw [h]
theorem ret_bool {a b : Bool} (h : a = b) : Ending.returned (.bool a) = .returned (.bool b) := by rw [h]
theorem Pl.may_bool (c : Int) : decide (Pl.May c) = ((decide (0 ≤ c) && decide (c < 55296)) || (decide (57343 < c) && decide (c ≤ 1114111))) := by
  unfold Pl.May
  rw [Bool.eq_iff_iff]
  simp only [decide_eq_true_iff, Bool.or_eq_true, Bool.and_eq_true]
  exact decide_eq_true_iff
set_option maxHeartbeats 400000 in
theorem may_any (c : Int) (w : World) :
    Calls Tryz.prog 154 #[.int .i32 c] w fun e w' => e = .returned (.bool (decide (Pl.May c))) ∧ w = w' := by
  go_enter Tryz.func154, Tryz.ntmps154
  go_wp2
  all_goals
    go_ret
    refine ⟨ret_bool ?_, rfl⟩
    rw [Pl.may_bool]
    first | (simp; done) | (rw [Bool.eq_iff_iff]; simp only [decide_eq_true_iff, Bool.or_eq_true, Bool.and_eq_true, Bool.false_eq_true, true_iff, false_iff]; omega)
set_option maxHeartbeats 400000 in
theorem okay_any (u : Un) (w : World) :
    Calls Tryz.prog 75 #[uval u] w fun e w' => e = .returned (.bool (decide (Pl.Okay u))) ∧ Below w.heap.size w w' := by
  obtain ⟨k, p, c, x, y⟩ := u
  have HM := fun w => Lib.hid (may_any c w)
  obtain ⟨r, hr⟩ : ∃ r, r = decide (Pl.Okay ⟨k, p, c, x, y⟩) := ⟨_, rfl⟩
  rw [← hr]
  have HR := Lib.hid hr
  clear hr
  unfold uval
  simp only
  go_enter Tryz.func75, Tryz.ntmps75
  by_cases h0 : k = 0
  · subst h0
    go_wp2_with fail
    all_goals
      go_ret
      refine ⟨ret_bool ?_, (Below.refl _ w).alloc (Nat.le_refl _) _⟩
      rw [HR.out]
      unfold Pl.Okay
      rw [Bool.eq_iff_iff]
      simp [*]
  · by_cases h1 : k = 1 ∨ k = 2
    · have HK := Lib.hid h1
      by_cases hp : 0 ≤ p
      · rcases h1 with rfl | rfl
        all_goals
          go_wp2_with fail
          refine (HM _).out.mono ?_
          rintro e w' ⟨rfl, rfl⟩
          go_wp2_with fail
          go_ret
          refine ⟨ret_bool ?_, (Below.refl _ w).alloc (Nat.le_refl _) _⟩
          rw [HR.out]
          unfold Pl.Okay
          simp
          intro _
          exact hp
      · rcases h1 with rfl | rfl
        all_goals
          go_wp2_with fail
          go_ret
          refine ⟨ret_bool ?_, (Below.refl _ w).alloc (Nat.le_refl _) _⟩
          rw [HR.out]
          unfold Pl.Okay
          simp
          omega
    · have h2 : ¬ k = 2 := fun h => h1 (Or.inr h)
      have h3 : ¬ k = 1 := fun h => h1 (Or.inl h)
      clear h1
      go_wp2_with fail
      go_ret
      refine ⟨ret_bool ?_, (Below.refl _ w).alloc (Nat.le_refl _) _⟩
      rw [HR.out]
      unfold Pl.Okay
      simp [h0, h2, h3]
def UAt (w : World) (b : Nat) (k p c x y : Int) : Prop := w.heap[b]? = some (.cells #[.int .i64 k, .int .i64 p, .int .i32 c, .int .u32 x, .int .u64 y] 47 (0, 0))
section
variable {w w' : World} {b B : Nat} {k p c x y : Int}
theorem uat_new (w : World) (k p c x y : Int) : UAt (w.alloc (.cells #[.int .i64 k, .int .i64 p, .int .i32 c, .int .u32 x, .int .u64 y] 47)) w.heap.size k p c x y := heap_new rfl
theorem UAt.below (h : UAt w b k p c x y) (hb : Below B w w') (hB : b < B) : UAt w' b k p c x y := (hb.block b hB).trans h
theorem UAt.lt (h : UAt w b k p c x y) : b < w.heap.size := lt_of_block h
theorem UAt.then_ (h : UAt w b k p c x y) (hb : Below w.heap.size w w') : UAt w' b k p c x y := h.below hb h.lt
theorem UAt.alloc (h : UAt w b k p c x y) (o : Obj) : UAt (w.alloc o) b k p c x y := h.then_ ((Below.refl _ w).alloc (Nat.le_refl _) o)
theorem UAt.cells (h : UAt w b k p c x y) : w.cell? ⟨b, 0, none⟩ = some (.int .i64 k) ∧ w.cell? ⟨b, 1, none⟩ = some (.int .i64 p) ∧ w.cell? ⟨b, 2, none⟩ = some (.int .i32 c) ∧ w.cell? ⟨b, 3, none⟩ = some (.int .u32 x) ∧ w.cell? ⟨b, 4, none⟩ = some (.int .u64 y) := by
  unfold UAt at h
  refine ⟨?_, ?_, ?_, ?_, ?_⟩ <;> (rw [cell_of_row w b _ _ _ _ h]; rfl)
end
theorem below_box (w : World) (o : Obj) : Below w.heap.size w (w.alloc o) := (Below.refl _ w).alloc (Nat.le_refl _) o
theorem below_on {w w1 : World} {o : Obj} (h : Below (w.alloc o).heap.size (w.alloc o) w1) : Below w.heap.size w w1 := (below_box w o).trans (h.mono (below_box w o).size)
set_option maxHeartbeats 400000 in
theorem fits_any (u : Un) (n : Int) (w : World) :
    Calls Tryz.prog 158 #[uval u, .int .i64 n] w fun e w' => e = .returned (.bool (decide (Pl.Fit u n))) ∧ Below w.heap.size w w' := by
  obtain ⟨k, p, c, x, y⟩ := u
  have HM := fun w => Lib.hid (okay_any ⟨k, p, c, x, y⟩ w)
  obtain ⟨r, hr⟩ : ∃ r, r = decide (Pl.Fit ⟨k, p, c, x, y⟩ n) := ⟨_, rfl⟩
  rw [← hr]
  have HR := Lib.hid hr
  clear hr
  have HU := Lib.hid (uat_new w k p c x y)
  by_cases hO : Pl.Okay ⟨k, p, c, x, y⟩
  · rw [decide_eq_true hO] at HM
    have HO := Lib.hid hO
    clear hO
    unfold uval at *
    simp only at *
    go_enter Tryz.func158, Tryz.ntmps158
    by_cases h1 : k = 1
    · subst h1
      go_wp2_with fail
      refine (HM _).out.mono ?_
      rintro e w' ⟨rfl, hb⟩
      have HB := Lib.hid (below_on hb)
      obtain ⟨c0, c1, c2, c3, c4⟩ := (HU.out.then_ hb).cells
      clear hb
      go_wp2_with fail
      go_ret
      refine ⟨ret_bool ?_, HB.out⟩
      rw [HR.out]
      unfold Pl.Fit
      simp [HO.out]
    · by_cases h2 : k = 2
      · subst h2
        go_wp2_with fail
        refine (HM _).out.mono ?_
        rintro e w' ⟨rfl, hb⟩
        have HB := Lib.hid (below_on hb)
        obtain ⟨c0, c1, c2, c3, c4⟩ := (HU.out.then_ hb).cells
        clear hb
        go_wp2_with fail
        go_ret
        refine ⟨ret_bool ?_, HB.out⟩
        rw [HR.out]
        unfold Pl.Fit
        simp [HO.out]
      · go_wp2_with fail
        refine (HM _).out.mono ?_
        rintro e w' ⟨rfl, hb⟩
        have HB := Lib.hid (below_on hb)
        clear hb
        go_wp2_with fail
        go_ret
        refine ⟨ret_bool ?_, HB.out⟩
        rw [HR.out]
        unfold Pl.Fit
        simp [HO.out, h1, h2]
  · rw [decide_eq_false hO] at HM
    have HO := Lib.hid (show r = false by rw [HR.out]; exact decide_eq_false fun h => hO h.1)
    clear hO HR
    unfold uval at *
    simp only at *
    go_enter Tryz.func158, Tryz.ntmps158
    by_cases h1 : k = 1
    · subst h1
      go_wp2_with fail
      refine (HM _).out.mono ?_
      rintro e w' ⟨rfl, hb⟩
      have HB := Lib.hid (below_on hb)
      clear hb
      go_wp2_with fail
      go_ret
      exact ⟨ret_bool HO.out.symm, HB.out⟩
    · by_cases h2 : k = 2
      · subst h2
        go_wp2_with fail
        refine (HM _).out.mono ?_
        rintro e w' ⟨rfl, hb⟩
        have HB := Lib.hid (below_on hb)
        clear hb
        go_wp2_with fail
        go_ret
        exact ⟨ret_bool HO.out.symm, HB.out⟩
      · go_wp2_with fail
        refine (HM _).out.mono ?_
        rintro e w' ⟨rfl, hb⟩
        have HB := Lib.hid (below_on hb)
        clear hb
        go_wp2_with fail
        go_ret
        exact ⟨ret_bool HO.out.symm, HB.out⟩
set_option maxHeartbeats 400000 in
theorem grows_any (u : Un) (w : World) :
    Calls Tryz.prog 159 #[uval u] w fun e w' => e = .returned (.int .i64 (Pl.grows u.k)) ∧ Below w.heap.size w w' := by
  obtain ⟨k, p, c, x, y⟩ := u
  unfold uval Pl.grows
  simp only
  go_enter Tryz.func159, Tryz.ntmps159
  by_cases h1 : k = 1
  · subst h1
    go_wp2_with fail
    go_ret
    exact ⟨rfl, below_box _ _⟩
  · by_cases h2 : k = 2
    · subst h2
      go_wp2_with fail
      go_ret
      exact ⟨rfl, below_box _ _⟩
    · go_wp2_with fail
      go_ret
      exact ⟨rfl, below_box _ _⟩
set_option maxHeartbeats 400000 in
theorem ahead_any (x y x' y' : Int) (w : World) :
    Calls Tryz.prog 256 #[idval x y, idval x' y'] w fun e w' => e = .returned (.bool (decide (Pl.First x y x' y'))) ∧ Below w.heap.size w w' := by
  obtain ⟨r, hr⟩ : ∃ r, r = decide (Pl.First x y x' y') := ⟨_, rfl⟩
  rw [← hr]
  have HR := Lib.hid hr
  clear hr
  unfold idval
  go_enter Tryz.func256, Tryz.ntmps256
  by_cases h1 : x < x'
  · go_wp2_with fail
    go_ret
    refine ⟨ret_bool ?_, below_alloc (below_box _ _) _⟩
    rw [HR.out]
    unfold Pl.First
    simp [h1]
  · by_cases h2 : x = x'
    · subst h2
      go_wp2_with fail
      go_ret
      refine ⟨ret_bool ?_, below_alloc (below_box _ _) _⟩
      rw [HR.out]
      unfold Pl.First
      simp
    · have h3 : (x == x') = false := by simpa using h2
      go_wp2_with fail
      go_ret
      refine ⟨ret_bool ?_, below_alloc (below_box _ _) _⟩
      rw [HR.out]
      unfold Pl.First
      simp [h1, h2]
end Go.Proofs.YtldmnkakpmplnaaGreat
