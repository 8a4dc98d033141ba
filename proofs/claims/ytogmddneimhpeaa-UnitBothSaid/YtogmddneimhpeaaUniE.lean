/-
  Contracts of the statements' own ins, del, makes, wakes: wakes returns true; nothing that was there turned. No conditions.
-/
import Derived.Test.YtogmddneimhpeaaUniEq
import Derived.Test.YtogmddneimhpeaaUniD
namespace Go.Proofs.Ytogmddneimhpeaa
open Go.RowKit
open Pl (Un)

theorem abc_js : ∀ x ∈ [97, 98, 99], Pl.J x := by
  intro x hx
  simp at hx
  unfold Pl.J
  omega
set_option maxRecDepth 100000 in
set_option maxHeartbeats 400000 in
theorem ins_any (p x : Int) (w : World) :
    Calls Try.prog 56 #[.int .i64 p, .int .u32 x] w fun e w' => e = .returned (uval ⟨1, p, 120, x, 0⟩) ∧ Below w.heap.size w w' := by
  go_enter Try.func56, Try.ntmps56
  go_wp2_with fail
  exact bodyPost_ret (results_unit rfl (by rfl) (heap_new rfl)) rfl ⟨rfl, below_box _ _⟩
set_option maxRecDepth 100000 in
set_option maxHeartbeats 400000 in
theorem del_any (p x : Int) (w : World) :
    Calls Try.prog 57 #[.int .i64 p, .int .u32 x] w fun e w' => e = .returned (uval ⟨2, p, 0, x, 0⟩) ∧ Below w.heap.size w w' := by
  go_enter Try.func57, Try.ntmps57
  go_wp2_with fail
  exact bodyPost_ret (results_unit rfl (by rfl) (heap_new rfl)) rfl ⟨rfl, below_box _ _⟩

def MRel (w w1 : World) (n : Nat) (pre : Nat → ByteArray) (s i : Value) (wr : World) : Prop := ∃ j : Nat, i = .int .i64 (j : Int) ∧ s = .string (pre j) ∧ j ≤ n ∧ Below w.heap.size w wr ∧ Below w1.heap.size w1 wr

set_option maxRecDepth 100000 in
set_option maxHeartbeats 400000 in
theorem makes_any (u : Un) (l : List Int) (one pre : Nat → ByteArray) (hu : Pl.J u.c) (hE : Pl.applyE u ((3 : Nat) : Int) = 0) (hT : Pl.applyT u [97, 98, 99] = l) (h4 : l.length ≤ 4) (h0 : pre 0 = ⟨#[]⟩)
    (hcv : ∀ j, j < l.length → ∀ w, (convert 29 9 (.int .i32 (l.getD j 0))).run Try.prog w = .ok (.string (one j)) w) (hadd : ∀ j, j < l.length → (pre j).size + (one j).size ≤ 100 ∧ pre (j + 1) = pre j ++ one j) (w : World) :
    Calls Try.prog 55 #[uval u, .string (pre l.length)] w fun e w' => e = .returned (.bool true) ∧ Below w.heap.size w w' := by
  obtain ⟨k, p, c, x, y⟩ := u
  have hb0 := below_alloc (below_box w (.cells #[.int .i64 k, .int .i64 p, .int .i32 c, .int .u32 x, .int .u64 y] 65)) (.cells #[.int .i32 97, .int .i32 98, .int .i32 99] 29)
  obtain ⟨W1, hW1⟩ : ∃ W1, W1 = w.alloc (.cells #[.int .i64 k, .int .i64 p, .int .i32 c, .int .u32 x, .int .u64 y] 65) := ⟨_, rfl⟩
  have hs1 : W1.heap.size = w.heap.size + 1 := by rw [hW1]; simp
  have hl := (crs_lit W1 [97, 98, 99] abc_js (by simp [maxLen])).crs.2
  rw [hs1, hW1] at hl
  simp only [cellsC, List.map_cons, List.map_nil, List.length_cons, List.length_nil] at hl
  clear hs1 hW1
  have HA := Lib.hid (apply_any ⟨k, p, c, x, y⟩ _ 3 3 [97, 98, 99] _ hu hl (by omega))
  have HB0 := Lib.hid hb0
  have HE := Lib.hid hE
  have HT := Lib.hid hT
  have HC := Lib.hid hcv
  have HD := Lib.hid hadd
  have H0 := Lib.hid h0
  obtain ⟨N, hN⟩ : ∃ N, N = l.length := ⟨_, rfl⟩
  have HN := Lib.hid hN
  rw [← hN] at h4 ⊢
  clear hE hT hcv hadd hb0 hl h0 hN hu
  unfold uval at *
  simp only at *
  go_enter Try.func55, Try.ntmps55
  go_wp2_with fail
  refine HA.out.mono ?_
  rintro e w1 ⟨A, m, c', rfl, hO, hb1⟩
  rw [HE.out]
  have hO2 := hO
  rw [HT.out] at hO2
  obtain ⟨hm, hC⟩ := hO2.crs
  rw [← HN.out] at hm
  subst hm
  have HCR := Lib.hid hC
  have HB1 := Lib.hid (HB0.out.trans (hb1.mono (HB0.out.size)))
  clear hb1 hO hO2 hC
  go_wp2_with fail
  go_loopw [7, 18] (fun s i wr => MRel w w1 m pre s i wr) (fun _ i _ => m - (intOf i).toNat)
  case atStart => exact ⟨0, rfl, by rw [H0.out], Nat.zero_le _, HB1.out, Below.refl _ _⟩
  case round =>
    obtain ⟨j, rfl, rfl, hj, hb, hb2⟩ := hrel
    have HB := Lib.hid hb
    have HB2 := Lib.hid hb2
    clear hb2
    by_cases hlt : j < m
    · obtain ⟨g, o, rfl, hg, hc⟩ := (HCR.out.below (w' := wr) (B' := w1.heap.size) HB2.out (Nat.le_refl _)).at_ hlt
      have a1 := hc j hlt
      have hcv := HC.out j (by rw [← HN.out]; exact hlt)
      have had := (HD.out j (by rw [← HN.out]; exact hlt)).1
      have HAD := Lib.hid (HD.out j (by rw [← HN.out]; exact hlt)).2
      have hsz : ¬ 9223372036854775807 < (pre j).size + (one j).size := by omega
      obtain ⟨x1, hx⟩ : ∃ x1, x1 = l.getD j 0 := ⟨_, rfl⟩
      rw [← hx] at a1 hcv
      have z0 : (0 : Int) ≤ (j : Int) := by omega
      have z1 : (j : Int) < (m : Int) := by omega
      clear hc hx hb
      go_wp2_with fail
      go_roundw
      case rel => exact ⟨j + 1, by go_num, by rw [HAD.out], by omega, HB.out, HB2.out⟩
      case measure => simp [intOf]; omega
    · have hjm : j = m := by omega
      subst hjm
      clear hb hlt
      go_wp2_with fail
      go_ret
      exact ⟨rfl, HB.out⟩
def pre1 : Nat → ByteArray | 0 => ⟨#[]⟩ | 1 => ⟨#[97]⟩ | 2 => ⟨#[97, 120]⟩ | 3 => ⟨#[97, 120, 98]⟩ | _ => ⟨#[97, 120, 98, 99]⟩
def one1 : Nat → ByteArray | 0 => ⟨#[97]⟩ | 1 => ⟨#[120]⟩ | 2 => ⟨#[98]⟩ | _ => ⟨#[99]⟩
def pre2 : Nat → ByteArray | 0 => ⟨#[]⟩ | 1 => ⟨#[97]⟩ | _ => ⟨#[97, 99]⟩
def one2 : Nat → ByteArray | 0 => ⟨#[97]⟩ | _ => ⟨#[99]⟩
theorem makes_ins (x : Int) (w : World) : Calls Try.prog 55 #[uval ⟨1, 1, 120, x, 0⟩, .string ⟨#[97, 120, 98, 99]⟩] w fun e w' => e = .returned (.bool true) ∧ Below w.heap.size w w' := by
  refine makes_any ⟨1, 1, 120, x, 0⟩ [97, 120, 98, 99] one1 pre1 (by unfold Pl.J; simp only; omega) ?_ ?_ (by decide) rfl (fun j hj w => ?_) (fun j hj => ?_) w
  · unfold Pl.applyE Pl.Fit Pl.Okay Pl.May; simp
  · unfold Pl.applyT Pl.behind Pl.Fit Pl.Okay Pl.May; simp
  · rcases j with _ | _ | _ | _ | j
    · kernel_rfl
    · kernel_rfl
    · kernel_rfl
    · kernel_rfl
    · exact absurd hj (by simp only [List.length_cons, List.length_nil]; omega)
  · rcases j with _ | _ | _ | _ | j
    · exact ⟨by decide, by kernel_rfl⟩
    · exact ⟨by decide, by kernel_rfl⟩
    · exact ⟨by decide, by kernel_rfl⟩
    · exact ⟨by decide, by kernel_rfl⟩
    · exact absurd hj (by simp only [List.length_cons, List.length_nil]; omega)
theorem makes_del (x : Int) (w : World) : Calls Try.prog 55 #[uval ⟨2, 1, 0, x, 0⟩, .string ⟨#[97, 99]⟩] w fun e w' => e = .returned (.bool true) ∧ Below w.heap.size w w' := by
  refine makes_any ⟨2, 1, 0, x, 0⟩ [97, 99] one2 pre2 (by unfold Pl.J; simp only; omega) ?_ ?_ (by decide) rfl (fun j hj w => ?_) (fun j hj => ?_) w
  · unfold Pl.applyE Pl.Fit Pl.Okay Pl.May; simp
  · unfold Pl.applyT Pl.behind Pl.Fit Pl.Okay Pl.May; simp
  · rcases j with _ | _ | j
    · kernel_rfl
    · kernel_rfl
    · exact absurd hj (by simp only [List.length_cons, List.length_nil]; omega)
  · rcases j with _ | _ | j
    · exact ⟨by decide, by kernel_rfl⟩
    · exact ⟨by decide, by kernel_rfl⟩
    · exact absurd hj (by simp only [List.length_cons, List.length_nil]; omega)
theorem o1 : Pl.over ⟨1, 2, 120, 1, 0⟩ ⟨1, 2, 120, 2, 0⟩ = ⟨1, 2, 120, 1, 0⟩ := by decide
theorem o2 : Pl.over ⟨1, 2, 120, 2, 0⟩ ⟨1, 2, 120, 1, 0⟩ = ⟨1, 3, 120, 2, 0⟩ := by decide +kernel
theorem o3 : Pl.over ⟨2, 2, 0, 1, 0⟩ ⟨2, 2, 0, 2, 0⟩ = ⟨0, 0, 0, 1, 0⟩ := by decide
theorem o4 : Pl.over ⟨2, 2, 0, 1, 0⟩ ⟨1, 2, 120, 2, 0⟩ = ⟨2, 3, 0, 1, 0⟩ := by decide +kernel
set_option maxRecDepth 100000 in
set_option maxHeartbeats 1000000 in
theorem wakes_any (w : World) : Calls Try.prog 35 #[] w fun e w' => e = .returned (.bool true) ∧ Below w.heap.size w w' := by
  go_enter Try.func35, Try.ntmps35
  have hfp := field_pos
  have hequ := fun w => eql_unit 0 0 0 1 0 0 0 0 1 0 w
  have hgu := fun x y w => guard_unit .eql x y #[.int .i64 0, .int .i64 0, .int .i32 0, .int .u32 1, .int .u64 0] #[.int .i64 0, .int .i64 0, .int .i32 0, .int .u32 1, .int .u64 0] w
  simp only [decide_true] at hequ
  have HB0 := Lib.hid (Below.refl w.heap.size w)
  go_wp2_with fail
  refine (ins_any 1 1 _).mono ?_
  rintro e w1 ⟨rfl, hb⟩
  have HB1 := Lib.hid (HB0.out.trans (hb.mono HB0.out.size))
  clear hb HB0
  try unfold uval
  go_wp2_with fail
  refine (makes_ins 1 _).mono ?_
  rintro e w2 ⟨rfl, hb⟩
  have HB2 := Lib.hid (HB1.out.trans (hb.mono HB1.out.size))
  clear hb HB1
  try unfold uval
  go_wp2_with fail
  refine (del_any 1 1 _).mono ?_
  rintro e w3 ⟨rfl, hb⟩
  have HB3 := Lib.hid (HB2.out.trans (hb.mono HB2.out.size))
  clear hb HB2
  try unfold uval
  go_wp2_with fail
  refine (makes_del 1 _).mono ?_
  rintro e w4 ⟨rfl, hb⟩
  have HB4 := Lib.hid (HB3.out.trans (hb.mono HB3.out.size))
  clear hb HB3
  try unfold uval
  go_wp2_with fail
  refine (ins_any 2 1 _).mono ?_
  rintro e w5 ⟨rfl, hb⟩
  have HB5 := Lib.hid (HB4.out.trans (hb.mono HB4.out.size))
  clear hb HB4
  try unfold uval
  go_wp2_with fail
  refine (ins_any 2 2 _).mono ?_
  rintro e w6 ⟨rfl, hb⟩
  have HB6 := Lib.hid (HB5.out.trans (hb.mono HB5.out.size))
  clear hb HB5
  try unfold uval
  go_wp2_with fail
  refine (over_any ⟨1, 2, 120, 1, 0⟩ ⟨1, 2, 120, 2, 0⟩ _).mono ?_
  rintro e w7 ⟨rfl, hb⟩
  have HB7 := Lib.hid (HB6.out.trans (hb.mono HB6.out.size))
  clear hb HB6
  rw [o1]
  try unfold uval
  go_wp2_with fail
  refine (ins_any 2 2 _).mono ?_
  rintro e w8 ⟨rfl, hb⟩
  have HB8 := Lib.hid (HB7.out.trans (hb.mono HB7.out.size))
  clear hb HB7
  try unfold uval
  go_wp2_with fail
  refine (ins_any 2 1 _).mono ?_
  rintro e w9 ⟨rfl, hb⟩
  have HB9 := Lib.hid (HB8.out.trans (hb.mono HB8.out.size))
  clear hb HB8
  try unfold uval
  go_wp2_with fail
  refine (over_any ⟨1, 2, 120, 2, 0⟩ ⟨1, 2, 120, 1, 0⟩ _).mono ?_
  rintro e w10 ⟨rfl, hb⟩
  have HB10 := Lib.hid (HB9.out.trans (hb.mono HB9.out.size))
  clear hb HB9
  rw [o2]
  try unfold uval
  go_wp2_with fail
  refine (del_any 2 1 _).mono ?_
  rintro e w11 ⟨rfl, hb⟩
  have HB11 := Lib.hid (HB10.out.trans (hb.mono HB10.out.size))
  clear hb HB10
  try unfold uval
  go_wp2_with fail
  refine (del_any 2 2 _).mono ?_
  rintro e w12 ⟨rfl, hb⟩
  have HB12 := Lib.hid (HB11.out.trans (hb.mono HB11.out.size))
  clear hb HB11
  try unfold uval
  go_wp2_with fail
  refine (over_any ⟨2, 2, 0, 1, 0⟩ ⟨2, 2, 0, 2, 0⟩ _).mono ?_
  rintro e w13 ⟨rfl, hb⟩
  have HB13 := Lib.hid (HB12.out.trans (hb.mono HB12.out.size))
  clear hb HB12
  rw [o3]
  try unfold uval
  go_wp2_with fail
  refine (del_any 2 1 _).mono ?_
  rintro e w14 ⟨rfl, hb⟩
  have HB14 := Lib.hid (HB13.out.trans (hb.mono HB13.out.size))
  clear hb HB13
  try unfold uval
  go_wp2_with fail
  refine (ins_any 2 2 _).mono ?_
  rintro e w15 ⟨rfl, hb⟩
  have HB15 := Lib.hid (HB14.out.trans (hb.mono HB14.out.size))
  clear hb HB14
  try unfold uval
  go_wp2_with fail
  refine (over_any ⟨2, 2, 0, 1, 0⟩ ⟨1, 2, 120, 2, 0⟩ _).mono ?_
  rintro e w16 ⟨rfl, hb⟩
  have HB16 := Lib.hid (HB15.out.trans (hb.mono HB15.out.size))
  clear hb HB15
  rw [o4]
  try unfold uval
  go_wp2_with fail
  go_ret
  exact ⟨rfl, HB16.out⟩
end Go.Proofs.Ytogmddneimhpeaa
