/-
  The contract of copybooklaw03.reads, kind by kind: what it answers and leaves. Conditions: those that each states.
-/
import Derived.Test.YtpakbpkcacdpbaaWireU
namespace Go.Proofs.Ytpakbpkcacdpbaa.wireBack
open Go.RowKit

set_option maxRecDepth 100000 in
set_option maxHeartbeats 2000000 in
theorem reads1 (A : Option Addr) (F : Nat → Prop) (r : List Nat) (what : Int) (N : Nat) (A' : Option Addr) (m c' M : Nat) (ts : List Nat) (w : World) (hR : Rd w A F r 0) (hB : Bys w w.heap.size A' m c' ts) (hM1 : M ≤ m) (hM2 : M ≤ 300) (hM3 : M = m ∨ M = 300) (hwh : what = 1)
    (x : Nat) (r1 : List Nat) (e1 : Int) (hx : Pl.rn r 0 = (x, r1, e1)) :
    Calls Try.prog 43 #[.pointer A, .agg #[.int .i64 what, .int .u64 (N : Int), .slice A' m c']] w fun en w' => en = .returned (.bool (Pl.unfold x == IntKind.i64.wrap (N : Int))) ∧ RdTo w A F (r1, e1) w' := by
  have hmin : ∀ (w' : World) (ts : Array TypeId) (t : TypeId), (Builtin.min_ ts t #[.int .i64 (m : Int), .int .i64 300]).run Try.prog w' = .ok (.int .i64 (M : Int)) w' := fun w' ts t => by
    rw [run_min_int2]
    rcases hM3 with h | h
    · subst h; simp [show ¬ (300 : Int) < (M : Int) by omega]
    · subst h
      by_cases h2 : (300 : Int) < (m : Int)
      · simp [h2]
      · simp [h2]; omega
  have hsl := slice_to A' m c' M (by have := hB.le; omega)
  obtain ⟨T, hT⟩ : ∃ T, T = ts.take M := ⟨_, rfl⟩
  have hBT : Bys w w.heap.size A' M c' T := by rw [hT]; exact hB.upto hM1
  have hpt : ∀ b, Pt A b → b < w.heap.size := fun b => hR.lt_pt
  obtain ⟨W, hW⟩ : ∃ W, W = w.alloc (.cells #[.int .i64 what, .int .u64 (N : Int), .slice A' m c'] 29) := ⟨_, rfl⟩
  have hb : Below w.heap.size w W := by rw [hW]; exact (Below.refl _ _).alloc (Nat.le_refl _) _
  have ha : W.heap[w.heap.size]? = some (.cells #[.int .i64 what, .int .u64 (N : Int), .slice A' m c'] 29 (0, 0)) := by rw [hW, heap_alloc_new]
  have hRW := hR.below hb
  have hBW := (hBT.below hb (Nat.le_refl _)).more hb.size
  have a0 := cell0 ha
  have a1 := cell1 ha
  have a2 : W.cell? ⟨w.heap.size, 2, none⟩ = some (.slice A' m c') := cell2 ha
  have hzW := lt_of_block ha
  have hTq : ∀ w1, Tn (Pt A) W w1 → w1.cell? ⟨w.heap.size, 1, none⟩ = some (.int .u64 (N : Int)) := fun w1 h => (h.cell (p := ⟨w.heap.size, 1, none⟩) hzW (fun hp => by have := hpt _ hp; simp at this)).trans a1
  subst hwh
  have HC := Lib.hid (fun w' (h : Rd w' A F r 0) => rint_any A F r 0 w' h)
  rw [hx] at HC
  clear hBW
  have H0 := Lib.hid (And.intro hRW (And.intro hb hTq))
  have HT := Lib.hid hT
  clear hR hB hBT ha hRW hb hT hpt hM3 hTq
  rw [hW] at a0 a1 a2
  go_enter Try.func43, Try.ntmps43
  go_wp2_with fail
  rw [← hW]
  rw [← hW] at a0 a1 a2
  clear hW
  go_region_held3 (fun w' => w'.cell? ⟨w.heap.size, 1, none⟩ = some (.int .u64 (N : Int))) (first | exact a1 | exact h3)
    (first | (go_at_call 24; refine (HC.out _ (show Rd W.drew A F r 0 from H0.out.1)).mono ?_; rintro en w2 ⟨rfl, hR2, hT2⟩; have h3 := H0.out.2.2 w2 hT2.drawn))
  all_goals
    go_wp2_with fail
    go_ret
    exact ⟨rfl, hR2, (Tn.of (Pt A) H0.out.2.1).trans hT2.drawn (fun _ _ x => x)⟩

set_option maxRecDepth 100000 in
set_option maxHeartbeats 2000000 in
theorem reads0 (A : Option Addr) (F : Nat → Prop) (r : List Nat) (what : Int) (N : Nat) (A' : Option Addr) (m c' M : Nat) (ts : List Nat) (w : World) (hR : Rd w A F r 0) (hB : Bys w w.heap.size A' m c' ts) (hM1 : M ≤ m) (hM2 : M ≤ 300) (hM3 : M = m ∨ M = 300) (k1 : what ≠ 1) (k2 : what ≠ 2) (k3 : what ≠ 3) (k4 : what ≠ 4)
    (x : Nat) (r1 : List Nat) (e1 : Int) (hx : Pl.rn r 0 = (x, r1, e1)) :
    Calls Try.prog 43 #[.pointer A, .agg #[.int .i64 what, .int .u64 (N : Int), .slice A' m c']] w fun en w' => en = .returned (.bool (((x : Nat) : Int) == (N : Int))) ∧ RdTo w A F (r1, e1) w' := by
  have hmin : ∀ (w' : World) (ts : Array TypeId) (t : TypeId), (Builtin.min_ ts t #[.int .i64 (m : Int), .int .i64 300]).run Try.prog w' = .ok (.int .i64 (M : Int)) w' := fun w' ts t => by
    rw [run_min_int2]
    rcases hM3 with h | h
    · subst h; simp [show ¬ (300 : Int) < (M : Int) by omega]
    · subst h
      by_cases h2 : (300 : Int) < (m : Int)
      · simp [h2]
      · simp [h2]; omega
  have hsl := slice_to A' m c' M (by have := hB.le; omega)
  obtain ⟨T, hT⟩ : ∃ T, T = ts.take M := ⟨_, rfl⟩
  have hBT : Bys w w.heap.size A' M c' T := by rw [hT]; exact hB.upto hM1
  have hpt : ∀ b, Pt A b → b < w.heap.size := fun b => hR.lt_pt
  obtain ⟨W, hW⟩ : ∃ W, W = w.alloc (.cells #[.int .i64 what, .int .u64 (N : Int), .slice A' m c'] 29) := ⟨_, rfl⟩
  have hb : Below w.heap.size w W := by rw [hW]; exact (Below.refl _ _).alloc (Nat.le_refl _) _
  have ha : W.heap[w.heap.size]? = some (.cells #[.int .i64 what, .int .u64 (N : Int), .slice A' m c'] 29 (0, 0)) := by rw [hW, heap_alloc_new]
  have hRW := hR.below hb
  have hBW := (hBT.below hb (Nat.le_refl _)).more hb.size
  have a0 := cell0 ha
  have a1 := cell1 ha
  have a2 : W.cell? ⟨w.heap.size, 2, none⟩ = some (.slice A' m c') := cell2 ha
  have hzW := lt_of_block ha
  have hTq : ∀ w1, Tn (Pt A) W w1 → w1.cell? ⟨w.heap.size, 1, none⟩ = some (.int .u64 (N : Int)) := fun w1 h => (h.cell (p := ⟨w.heap.size, 1, none⟩) hzW (fun hp => by have := hpt _ hp; simp at this)).trans a1
  have b1 : (what == 1) = false := by rw [beq_eq_false_iff_ne]; exact k1
  have b2 : (what == 2) = false := by rw [beq_eq_false_iff_ne]; exact k2
  have b3 : (what == 3) = false := by rw [beq_eq_false_iff_ne]; exact k3
  have b4 : (what == 4) = false := by rw [beq_eq_false_iff_ne]; exact k4
  clear k1 k2 k3 k4
  have HC := Lib.hid (fun w' (h : Rd w' A F r 0) => rnum_any A F r 0 w' h)
  rw [hx] at HC
  clear hBW
  have H0 := Lib.hid (And.intro hRW (And.intro hb hTq))
  have HT := Lib.hid hT
  clear hR hB hBT ha hRW hb hT hpt hM3 hTq
  rw [hW] at a0 a1 a2
  go_enter Try.func43, Try.ntmps43
  go_wp2_with fail
  rw [← hW]
  rw [← hW] at a0 a1 a2
  clear hW
  go_region_held3 (fun w' => w'.cell? ⟨w.heap.size, 1, none⟩ = some (.int .u64 (N : Int))) (first | exact a1 | exact h3)
    (first | (go_at_call 22; refine (HC.out _ (show Rd W.drew A F r 0 from H0.out.1)).mono ?_; rintro en w2 ⟨rfl, hR2, hT2⟩; have h3 := H0.out.2.2 w2 hT2.drawn))
  all_goals
    go_wp2_with fail
    go_ret
    exact ⟨rfl, hR2, (Tn.of (Pt A) H0.out.2.1).trans hT2.drawn (fun _ _ x => x)⟩

set_option maxRecDepth 100000 in
set_option maxHeartbeats 2000000 in
theorem reads2 (A : Option Addr) (F : Nat → Prop) (r : List Nat) (what : Int) (N : Nat) (A' : Option Addr) (m c' M : Nat) (ts : List Nat) (w : World) (hR : Rd w A F r 0) (hB : Bys w w.heap.size A' m c' ts) (hM1 : M ≤ m) (hM2 : M ≤ 300) (hM3 : M = m ∨ M = 300) (hwh : what = 2)
    (x : Nat) (r1 : List Nat) (e1 : Int) (hx : Pl.rb r 0 1 5 = (x, r1, e1)) :
    Calls Try.prog 43 #[.pointer A, .agg #[.int .i64 what, .int .u64 (N : Int), .slice A' m c']] w fun en w' => en = .returned (.bool (decide (x = 1) == ((N : Int) % 2 == 1))) ∧ RdTo w A F (r1, e1) w' := by
  have hmin : ∀ (w' : World) (ts : Array TypeId) (t : TypeId), (Builtin.min_ ts t #[.int .i64 (m : Int), .int .i64 300]).run Try.prog w' = .ok (.int .i64 (M : Int)) w' := fun w' ts t => by
    rw [run_min_int2]
    rcases hM3 with h | h
    · subst h; simp [show ¬ (300 : Int) < (M : Int) by omega]
    · subst h
      by_cases h2 : (300 : Int) < (m : Int)
      · simp [h2]
      · simp [h2]; omega
  have hsl := slice_to A' m c' M (by have := hB.le; omega)
  obtain ⟨T, hT⟩ : ∃ T, T = ts.take M := ⟨_, rfl⟩
  have hBT : Bys w w.heap.size A' M c' T := by rw [hT]; exact hB.upto hM1
  have hpt : ∀ b, Pt A b → b < w.heap.size := fun b => hR.lt_pt
  obtain ⟨W, hW⟩ : ∃ W, W = w.alloc (.cells #[.int .i64 what, .int .u64 (N : Int), .slice A' m c'] 29) := ⟨_, rfl⟩
  have hb : Below w.heap.size w W := by rw [hW]; exact (Below.refl _ _).alloc (Nat.le_refl _) _
  have ha : W.heap[w.heap.size]? = some (.cells #[.int .i64 what, .int .u64 (N : Int), .slice A' m c'] 29 (0, 0)) := by rw [hW, heap_alloc_new]
  have hRW := hR.below hb
  have hBW := (hBT.below hb (Nat.le_refl _)).more hb.size
  have a0 := cell0 ha
  have a1 := cell1 ha
  have a2 : W.cell? ⟨w.heap.size, 2, none⟩ = some (.slice A' m c') := cell2 ha
  have hzW := lt_of_block ha
  have hTq : ∀ w1, Tn (Pt A) W w1 → w1.cell? ⟨w.heap.size, 1, none⟩ = some (.int .u64 (N : Int)) := fun w1 h => (h.cell (p := ⟨w.heap.size, 1, none⟩) hzW (fun hp => by have := hpt _ hp; simp at this)).trans a1
  subst hwh
  have HC := Lib.hid (fun w' (h : Rd w' A F r 0) => bool_any A F r 0 w' h)
  rw [hx] at HC
  clear hBW
  have H0 := Lib.hid (And.intro hRW (And.intro hb hTq))
  have HT := Lib.hid hT
  clear hR hB hBT ha hRW hb hT hpt hM3 hTq
  rw [hW] at a0 a1 a2
  go_enter Try.func43, Try.ntmps43
  go_wp2_with fail
  rw [← hW]
  rw [← hW] at a0 a1 a2
  clear hW
  go_region_held3 (fun w' => w'.cell? ⟨w.heap.size, 1, none⟩ = some (.int .u64 (N : Int))) (first | exact a1 | exact h3)
    (first | (go_at_call 26; refine (HC.out _ (show Rd W.drew A F r 0 from H0.out.1)).mono ?_; rintro en w2 ⟨rfl, hR2, hT2⟩; have h3 := H0.out.2.2 w2 hT2.drawn))
  all_goals
    go_wp2_with fail
    go_ret
    exact ⟨rfl, hR2, (Tn.of (Pt A) H0.out.2.1).trans hT2.drawn (fun _ _ x => x)⟩

set_option maxRecDepth 100000 in
set_option maxHeartbeats 2000000 in
theorem reads3 (A : Option Addr) (F : Nat → Prop) (r : List Nat) (what : Int) (N : Nat) (A' : Option Addr) (m c' M : Nat) (ts : List Nat) (w : World) (hR : Rd w A F r 0) (hB : Bys w w.heap.size A' m c' ts) (hM1 : M ≤ m) (hM2 : M ≤ 300) (hM3 : M = m ∨ M = 300) (hwh : what = 3) (hrl : r.length ≤ 140737488355328) (hap : Apart F A' m)
    (x : List Nat) (r1 : List Nat) (e1 : Int) (hx : Pl.rby r 0 300 = (x, r1, e1)) :
    Calls Try.prog 43 #[.pointer A, .agg #[.int .i64 what, .int .u64 (N : Int), .slice A' m c']] w fun en w' => en = .returned (.bool (decide (x = ts.take M))) ∧ RdTo w A F (r1, e1) w' := by
  have hmin : ∀ (w' : World) (ts : Array TypeId) (t : TypeId), (Builtin.min_ ts t #[.int .i64 (m : Int), .int .i64 300]).run Try.prog w' = .ok (.int .i64 (M : Int)) w' := fun w' ts t => by
    rw [run_min_int2]
    rcases hM3 with h | h
    · subst h; simp [show ¬ (300 : Int) < (M : Int) by omega]
    · subst h
      by_cases h2 : (300 : Int) < (m : Int)
      · simp [h2]
      · simp [h2]; omega
  have hsl := slice_to A' m c' M (by have := hB.le; omega)
  obtain ⟨T, hT⟩ : ∃ T, T = ts.take M := ⟨_, rfl⟩
  have hBT : Bys w w.heap.size A' M c' T := by rw [hT]; exact hB.upto hM1
  have hpt : ∀ b, Pt A b → b < w.heap.size := fun b => hR.lt_pt
  obtain ⟨W, hW⟩ : ∃ W, W = w.alloc (.cells #[.int .i64 what, .int .u64 (N : Int), .slice A' m c'] 29) := ⟨_, rfl⟩
  have hb : Below w.heap.size w W := by rw [hW]; exact (Below.refl _ _).alloc (Nat.le_refl _) _
  have ha : W.heap[w.heap.size]? = some (.cells #[.int .i64 what, .int .u64 (N : Int), .slice A' m c'] 29 (0, 0)) := by rw [hW, heap_alloc_new]
  have hRW := hR.below hb
  have hBW := (hBT.below hb (Nat.le_refl _)).more hb.size
  have a0 := cell0 ha
  have a1 := cell1 ha
  have a2 : W.cell? ⟨w.heap.size, 2, none⟩ = some (.slice A' m c') := cell2 ha
  have hzW := lt_of_block ha
  have hTq : ∀ w1, Tn (Pt A) W w1 → w1.cell? ⟨w.heap.size, 1, none⟩ = some (.int .u64 (N : Int)) := fun w1 h => (h.cell (p := ⟨w.heap.size, 1, none⟩) hzW (fun hp => by have := hpt _ hp; simp at this)).trans a1
  subst hwh
  have HC := Lib.hid (rbytes_any A F r 0 300 W hRW (Pl.I.mk (by omega)) hrl)
  simp only [show (300 : Int).toNat = 300 from rfl] at HC
  rw [hx] at HC
  have hpF := hR.pt
  have H0 := Lib.hid (And.intro hRW (And.intro hb hTq))
  have HT := Lib.hid hT
  clear hR hB hBT ha hRW hb hT hpt hM3 hTq
  rw [hW] at a0 a1 a2
  go_enter Try.func43, Try.ntmps43
  go_wp2_with fail
  rw [← hW]
  rw [← hW] at a0 a1 a2
  clear hW
  refine HC.out.mono ?_
  rintro en w2 ⟨A2, c2, rfl, hV2, hR2, hT2⟩
  have HQ := Lib.hid (eq_any A2 A' x.length c2 M c' x T w2 hV2.bys.2 (hT2.bys hBW (fun h0 ad e hp => hap (by omega) ad e (hpF _ hp))))
  rw [HT.out] at HQ
  clear hBW
  go_wp2_with fail
  refine HQ.out.mono ?_
  rintro en w' ⟨rfl, rfl⟩
  go_wp2_with fail
  go_ret
  exact ⟨rfl, hR2, (Tn.of (Pt A) H0.out.2.1).trans hT2 (fun _ _ x => x)⟩

set_option maxRecDepth 100000 in
set_option maxHeartbeats 2000000 in
theorem reads4 (A : Option Addr) (F : Nat → Prop) (r : List Nat) (what : Int) (N : Nat) (A' : Option Addr) (m c' M : Nat) (ts : List Nat) (w : World) (hR : Rd w A F r 0) (hB : Bys w w.heap.size A' m c' ts) (hM1 : M ≤ m) (hM2 : M ≤ 300) (hM3 : M = m ∨ M = 300) (hwh : what = 4) (hap : Apart F A' m)
    (x : List Nat) (r1 : List Nat) (e1 : Int) (hx : Pl.rby r 0 M = (x, r1, e1)) (hxo : Pl.Oct x) :
    Calls Try.prog 43 #[.pointer A, .agg #[.int .i64 what, .int .u64 (N : Int), .slice A' m c']] w fun en w' => en = .returned (.bool (decide (x = ts.take M))) ∧ RdTo w A F (r1, e1) w' := by
  have hmin : ∀ (w' : World) (ts : Array TypeId) (t : TypeId), (Builtin.min_ ts t #[.int .i64 (m : Int), .int .i64 300]).run Try.prog w' = .ok (.int .i64 (M : Int)) w' := fun w' ts t => by
    rw [run_min_int2]
    rcases hM3 with h | h
    · subst h; simp [show ¬ (300 : Int) < (M : Int) by omega]
    · subst h
      by_cases h2 : (300 : Int) < (m : Int)
      · simp [h2]
      · simp [h2]; omega
  have hsl := slice_to A' m c' M (by have := hB.le; omega)
  obtain ⟨T, hT⟩ : ∃ T, T = ts.take M := ⟨_, rfl⟩
  have hBT : Bys w w.heap.size A' M c' T := by rw [hT]; exact hB.upto hM1
  have hpt : ∀ b, Pt A b → b < w.heap.size := fun b => hR.lt_pt
  obtain ⟨W, hW⟩ : ∃ W, W = w.alloc (.cells #[.int .i64 what, .int .u64 (N : Int), .slice A' m c'] 29) := ⟨_, rfl⟩
  have hb : Below w.heap.size w W := by rw [hW]; exact (Below.refl _ _).alloc (Nat.le_refl _) _
  have ha : W.heap[w.heap.size]? = some (.cells #[.int .i64 what, .int .u64 (N : Int), .slice A' m c'] 29 (0, 0)) := by rw [hW, heap_alloc_new]
  have hRW := hR.below hb
  have hBW := (hBT.below hb (Nat.le_refl _)).more hb.size
  have a0 := cell0 ha
  have a1 := cell1 ha
  have a2 : W.cell? ⟨w.heap.size, 2, none⟩ = some (.slice A' m c') := cell2 ha
  have hzW := lt_of_block ha
  have hTq : ∀ w1, Tn (Pt A) W w1 → w1.cell? ⟨w.heap.size, 1, none⟩ = some (.int .u64 (N : Int)) := fun w1 h => (h.cell (p := ⟨w.heap.size, 1, none⟩) hzW (fun hp => by have := hpt _ hp; simp at this)).trans a1
  subst hwh
  have hpF := hR.pt
  have HC := Lib.hid (fun w' (h : Rd w' A F r 0) => rstr_any A F r 0 (M : Int) w' h (Pl.I.mk (by omega)))
  simp only [Int.toNat_natCast] at HC
  rw [hx] at HC
  obtain ⟨tv, htv⟩ : ∃ tv, tv = strOfNums (ints T) := ⟨_, rfl⟩
  obtain ⟨sv, hsv⟩ : ∃ sv, sv = strOfNums (ints x) := ⟨_, rfl⟩
  simp only at HC
  rw [← hsv] at HC
  have hcv : ∀ w1, Tn (Pt A) W w1 → (convert 26 9 (.slice A' M c')).run Try.prog w1 = .ok (.string tv) w1 := fun w1 h => by rw [htv]; exact (h.bys hBW (fun h0 ad e hp => hap (by omega) ad e (hpF _ hp))).conv
  have hTo := hBW.oct
  have HCV := Lib.hid hcv
  have hcw := hcv W.drew (Tn.refl _ W).drew
  have HSV := Lib.hid (And.intro htv (And.intro hsv hTo))
  clear hBW hcv htv hsv hTo hpF
  have H0 := Lib.hid (And.intro hRW (And.intro hb hTq))
  have HT := Lib.hid hT
  clear hR hB hBT ha hRW hb hT hpt hM3 hTq
  rw [hW] at a0 a1 a2
  go_enter Try.func43, Try.ntmps43
  go_wp2_with fail
  rw [← hW]
  rw [← hW] at a0 a1 a2
  clear hW
  go_region_held3 (fun w' => (convert 26 9 (.slice A' M c')).run Try.prog w' = .ok (.string tv) w') (first | exact hcw | exact h3)
    (first | (go_at_call 30; refine (HC.out _ (show Rd W.drew A F r 0 from H0.out.1)).mono ?_; rintro en w2 ⟨rfl, hR2, hT2⟩; have h3 := HCV.out w2 hT2.drawn))
  all_goals
    go_wp2_with fail
    go_ret
    refine ⟨ret_bool ?_, hR2, (Tn.of (Pt A) H0.out.2.1).trans hT2.drawn (fun _ _ x => x)⟩
    obtain ⟨htv, hsv, hTo⟩ := HSV.out
    rw [Bool.eq_iff_iff, beq_iff_eq, decide_eq_true_iff, ByteArray.toList_eq, ByteArray.toList_eq, ← HT.out]
    constructor
    · intro h
      have h2 := WideShapes.bytes_inj h
      rw [htv, hsv] at h2
      exact bytes_inj hxo hTo h2
    · intro h
      rw [htv, hsv, h]

end Go.Proofs.Ytpakbpkcacdpbaa.wireBack
