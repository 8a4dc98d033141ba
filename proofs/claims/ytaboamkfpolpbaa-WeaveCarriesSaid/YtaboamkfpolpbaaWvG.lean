/-
  The statements' own awake (the document's examples): it returns true; nothing that was there turned. No conditions.
-/
import Derived.Test.YtaboamkfpolpbaaWvF
namespace Go.Proofs.Ytaboamkfpolpbaa
open Go.RowKit
open Pl (Un)

theorem both1 : Pl.bothR [⟨1, 0, 120, 1, 1⟩] [⟨1, 0, 121, 2, 1⟩] = ([⟨1, 0, 120, 1, 1⟩], [⟨1, 1, 121, 2, 1⟩]) := by decide +kernel
theorem both2 : Pl.bothR [⟨2, 0, 0, 1, 1⟩] [⟨1, 0, 121, 2, 1⟩] = ([⟨2, 1, 0, 1, 1⟩], [⟨1, 0, 121, 2, 1⟩]) := by decide +kernel
theorem leave1 : Pl.leave [⟨1, 0, 121, 2, 1⟩, ⟨1, 0, 120, 1, 1⟩] [109] = [120, 121, 109] := by decide +kernel
theorem place1 : Pl.placeR 1 [⟨1, 0, 121, 2, 1⟩] = 2 := by decide +kernel
theorem fit1 : Pl.FitR [⟨1, 0, 121, 2, 1⟩, ⟨1, 0, 120, 1, 1⟩] [109] := ⟨by decide, by decide, trivial⟩
theorem long1 : Pl.longL [⟨1, 1, 120, 1, 1⟩] 0 = (0, 30) := by decide +kernel
/-- one unit, written out -/
theorem unit_row (w : World) (k p c x y : Int) : OwnU (w.alloc (.cells #[.int .i64 k, .int .i64 p, .int .i32 c, .int .u32 x, .int .u64 y] 36)) w.heap.size (.slice (some ⟨w.heap.size, 0, none⟩) 1 1) [⟨k, p, c, x, y⟩] := units_lit w [⟨k, p, c, x, y⟩] (by simp [maxLen])
theorem chars_row (w : World) (cs : List Int) (hj : ∀ x ∈ cs, Pl.J x) (hl : cs.length ≤ maxLen) : Crs (w.alloc (.cells (cellsC cs).toArray 30)) (w.alloc (.cells (cellsC cs).toArray 30)).heap.size (some ⟨w.heap.size, 0, none⟩) cs.length cs.length cs := (crs_lit w cs hj hl).crs.2
theorem small_js {cs : List Int} (h : ∀ x ∈ cs, 0 ≤ x ∧ x ≤ 1000000) : ∀ x ∈ cs, Pl.J x := fun x hx => by have := h x hx; unfold Pl.J; omega
/-- the place of a row's first unit -/
theorem OwnU.first {w : World} {base g n c : Nat} {u : Un} {l : List Un} (h : OwnU w base (.slice (some ⟨g, 0, none⟩) n c) (u :: l)) : w.cell? ⟨g, 1, none⟩ = some (.int .i64 u.p) := by
  have hn := h.len
  have := (OwnU.cells h (i := 0) (by rw [hn]; simp)).2.1
  simpa using this
theorem OwnU.block {w : World} {base n c : Nat} {A : Option Addr} {l : List Un} (h : OwnU w base (.slice A n c) l) (hn : 0 < n) : ∃ g, A = some ⟨g, 0, none⟩ := by
  obtain ⟨g, e, _⟩ := OwnR.pos_ h hn
  exact ⟨g, e⟩
set_option maxRecDepth 100000 in
set_option maxHeartbeats 2000000 in
theorem awake_any (w : World) : Calls Try.prog 16 #[] w fun e w' => e = .returned (.bool true) ∧ Below w.heap.size w w' := by
  go_enter Try.func16, Try.ntmps16
  go_wp2_with fail
  refine (ins_any 0 121 2 _).mono ?_
  rintro e w1 ⟨rfl, hb⟩
  have HB1 := Lib.hid hb
  clear hb
  unfold uval
  simp only
  have HY := Lib.hid (unit_row w1 1 0 121 2 1)
  have HBY := Lib.hid (below_then' HB1.out (below_box w1 (.cells #[.int .i64 1, .int .i64 0, .int .i32 121, .int .u32 2, .int .u64 1] 36)) HB1.out.size)
  obtain ⟨wy, hwy⟩ : ∃ wy, wy = w1.alloc (.cells #[.int .i64 1, .int .i64 0, .int .i32 121, .int .u32 2, .int .u64 1] 36) := ⟨_, rfl⟩
  rw [← hwy] at HY HBY
  obtain ⟨gy, hgy⟩ : ∃ gy, gy = w1.heap.size := ⟨_, rfl⟩
  rw [← hgy] at HY
  have HWY := Lib.hid hwy
  have HGY := Lib.hid hgy
  clear hwy hgy
  go_wp2_with fail
  rw [← HWY.out, ← HGY.out]
  refine (ins_any 0 120 1 _).mono ?_
  rintro e w2 ⟨rfl, hb⟩
  unfold uval
  simp only
  have hb3 := below_box w2 (.cells #[.int .i64 1, .int .i64 0, .int .i32 120, .int .u32 1, .int .u64 1] 36)
  have hX := unit_row w2 1 0 120 1 1
  obtain ⟨w3, hw3⟩ : ∃ w3, w3 = w2.alloc (.cells #[.int .i64 1, .int .i64 0, .int .i32 120, .int .u32 1, .int .u64 1] 36) := ⟨_, rfl⟩
  rw [← hw3] at hb3 hX
  have HBO := Lib.hid (both_any w3 _ 1 1 _ (some ⟨gy, 0, none⟩) 1 1 _ hX.uns (OwnU.uns (OwnR.then_ (OwnR.then_ HY.out hb) hb3)) (by decide) (by decide))
  have HY3 := Lib.hid (OwnR.then_ (OwnR.then_ HY.out hb) hb3)
  have HB3 := Lib.hid (below_then' (below_then' HBY.out hb HBY.out.size) hb3 (Nat.le_trans HBY.out.size hb.size))
  have HW3 := Lib.hid hw3
  clear hb hb3 hX hw3 HY HBY HWY HGY
  go_wp2_with fail
  rw [← HW3.out]
  refine HBO.out.mono ?_
  rintro e w4 ⟨A4, c4, A5, c5, rfl, hO4, hO5, _, hb4⟩
  rw [both1] at hO4 hO5
  simp only [List.length_cons, List.length_nil, Nat.zero_add] at hO4 hO5 ⊢
  obtain ⟨g4, rfl⟩ := hO4.block (by decide)
  obtain ⟨g5, rfl⟩ := hO5.block (by decide)
  have HB4 := Lib.hid (below_then' HB3.out hb4 HB3.out.size)
  have HY4 := Lib.hid (OwnR.then_ HY3.out hb4)
  have HX4 := Lib.hid (OwnR.lower hO4 HB3.out.size)
  have HZ4 := Lib.hid (OwnR.lower hO5 HB3.out.size)
  clear hO4 hO5 hb4 HBO HY3 HB3 HW3
  go_wp2_with fail
  refine (del_any 0 _).mono ?_
  rintro e w5 ⟨rfl, hb⟩
  unfold uval
  simp only
  have hb6 := below_box w5 (.cells #[.int .i64 2, .int .i64 0, .int .i32 0, .int .u32 1, .int .u64 1] 36)
  have hX := unit_row w5 2 0 0 1 1
  obtain ⟨w6, hw6⟩ : ∃ w6, w6 = w5.alloc (.cells #[.int .i64 2, .int .i64 0, .int .i32 0, .int .u32 1, .int .u64 1] 36) := ⟨_, rfl⟩
  rw [← hw6] at hb6 hX
  have hs6 : w4.heap.size ≤ w6.heap.size := Nat.le_trans hb.size hb6.size
  have hb46 : Below w4.heap.size w4 w6 := below_then' hb hb6 hb.size
  have HBO := Lib.hid (both_any w6 _ 1 1 _ (some ⟨gy, 0, none⟩) 1 1 _ hX.uns (OwnU.uns (OwnR.then_ HY4.out hb46)) (by decide) (by decide))
  have HY6 := Lib.hid (OwnR.then_ HY4.out hb46)
  have HX6 := Lib.hid (OwnR.then_ HX4.out hb46)
  have HZ6 := Lib.hid (OwnR.then_ HZ4.out hb46)
  have HB6 := Lib.hid (below_then' HB4.out hb46 HB4.out.size)
  have HW6 := Lib.hid hw6
  clear hb hb6 hX hw6 hs6 hb46 HY4 HX4 HZ4 HB4
  go_wp2_with fail
  rw [← HW6.out]
  refine HBO.out.mono ?_
  rintro e w7 ⟨A4, c6, A5, c7, rfl, hO4, hO5, _, hb4⟩
  rw [both2] at hO4 hO5
  simp only [List.length_cons, List.length_nil, Nat.zero_add] at hO4 hO5 ⊢
  obtain ⟨g6, rfl⟩ := hO4.block (by decide)
  obtain ⟨g7, rfl⟩ := hO5.block (by decide)
  have HB7 := Lib.hid (below_then' HB6.out hb4 HB6.out.size)
  have HY7 := Lib.hid (OwnR.then_ HY6.out hb4)
  have HX7 := Lib.hid (OwnR.then_ HX6.out hb4)
  have HZ7 := Lib.hid (OwnR.then_ HZ6.out hb4)
  have HU7 := Lib.hid (OwnR.lower hO4 HB6.out.size)
  have HV7 := Lib.hid (OwnR.lower hO5 HB6.out.size)
  clear hO4 hO5 hb4 HBO HY6 HX6 HZ6 HB6 HW6
  obtain ⟨w9, hw9⟩ : ∃ w9, w9 = (w7.alloc (.cells #[.int .i32 109] 30)).alloc (.cells #[] 36) := ⟨_, rfl⟩
  have hb79 : Below w7.heap.size w7 w9 := by rw [hw9]; exact below_alloc (below_box _ _) _
  have HM9 := Lib.hid (show Crs w9 w9.heap.size (some ⟨w7.heap.size, 0, none⟩) 1 1 [109] by
    rw [hw9]
    exact (chars_row w7 [109] (small_js (by simp)) (by simp [maxLen])).then_ (below_box _ _))
  have hE := units_lit (w7.alloc (.cells #[.int .i32 109] 30)) [] (by simp)
  have HE := Lib.hid (show OwnU ((w7.alloc (.cells #[.int .i32 109] 30)).alloc (.cells #[] 36)) w7.heap.size (.slice (some ⟨w7.heap.size + 1, 0, none⟩) 0 0) [] by
    have e : (w7.alloc (.cells #[.int .i32 109] 30)).heap.size = w7.heap.size + 1 := by simp
    rw [e] at hE
    exact OwnR.lower hE (by omega))
  have HY9 := Lib.hid (OwnR.then_ HY7.out hb79)
  have HYX := Lib.hid (show OwnU ((w7.alloc (.cells #[.int .i32 109] 30)).alloc (.cells #[] 36)) gy (.slice (some ⟨gy, 0, none⟩) 1 1) [⟨1, 0, 121, 2, 1⟩] by rw [← hw9]; exact HY9.out)
  have HB79 := Lib.hid hb79
  have HW9 := Lib.hid hw9
  clear hw9 hb79 hE
  go_wp2_with (at_builtin; refine wpList_append_rws encU_len encU_one Try.underlying22 infoUn (by decide) (by decide) ((w7.alloc (.cells #[.int .i32 109] 30)).alloc (.cells #[] 36)) rfl (.tmp 28) (.tmp 29) rfl w7.heap.size _ 0 0 [] (by rfl) HE.out _ (some ⟨gy, 0, none⟩) 1 1 [⟨1, 0, 121, 2, 1⟩] (by rfl) HYX.out.uns (by decide) (by decide) (by simp; omega) ?_)
  intro A2 c2 w10 hO hg hat
  obtain ⟨ga, rfl⟩ := OwnU.block (show OwnU w10 w7.heap.size (.slice A2 1 c2) [⟨1, 0, 121, 2, 1⟩] from hO) (by decide)
  have hg2 : w9.grownBy w10 (Value.ownBlock (.slice (some ⟨w7.heap.size + 1, 0, none⟩) 0 0)) := by rw [HW9.out]; exact hg
  have hs9 : w9.heap.size = w7.heap.size + 1 + 1 := by rw [HW9.out]; simp
  have hE9 : OwnU w9 w7.heap.size (.slice (some ⟨w7.heap.size + 1, 0, none⟩) 0 0) [] := by rw [HW9.out]; exact HE.out
  have hb10 := OwnR.grownBelow hE9 hg2 HB79.out (by omega)
  have ht10 : Tn (fun b => b = w7.heap.size + 1) w9 w10 := (Tn.refl _ w9).grown hg2 (fun k e => Or.inr (by cases e; rfl))
  have HM10 := Lib.hid (HM9.out.then2 _ ht10 (fun _ ad e h => by cases e; simp only at h; omega))
  have HA10 := Lib.hid (show ∀ g, Value.ownBlock (.slice (some ⟨ga, 0, none⟩) 1 c2) = some g → g ≠ w7.heap.size from fun g hg e => by
    subst e
    rcases hat with h | h
    · rw [hg] at h; have : w7.heap.size = w7.heap.size + 1 := Option.some.inj h; omega
    · rw [hg] at h; have : w7.heap.size = w7.heap.size + 1 + 1 := (Option.some.inj h).trans (by simp); omega)
  have hO2 : OwnU w10 w7.heap.size (.slice (some ⟨ga, 0, none⟩) 1 c2) [⟨1, 0, 121, 2, 1⟩] := hO
  have HO10 := Lib.hid hO2
  have HX10 := Lib.hid (OwnR.then_ HX7.out hb10)
  have HB10 := Lib.hid hb10
  clear hO hg hat hg2 hs9 hE9 hb10 ht10 hO2 HW9 HB79 HYX HY9 HE HM9
  go_wp2_with (at_builtin; refine wpList_append_rws encU_len encU_one Try.underlying22 infoUn (by decide) (by decide) w10 rfl (.tmp 30) (.tmp 31) rfl w7.heap.size (some ⟨ga, 0, none⟩) 1 c2 [⟨1, 0, 121, 2, 1⟩] (by rfl) HO10.out _ (some ⟨g4, 0, none⟩) 1 c4 [⟨1, 0, 120, 1, 1⟩] (by rfl) (OwnU.uns HX10.out) (by decide) (by decide) HB10.out.size ?_)
  intro A3 c3 w11 hO hg hat
  have hb11 := OwnR.grownBelow HO10.out hg HB10.out HB10.out.size
  have ht11 : Tn (fun b => Value.ownBlock (.slice (some ⟨ga, 0, none⟩) 1 c2) = some b) w10 w11 := (Tn.refl _ w10).grown hg (fun k e => Or.inr e)
  have hM11 := HM10.out.then2 _ ht11 (fun _ ad e h => by cases e; exact HA10.out _ h rfl)
  have hO2 : OwnU w11 w7.heap.size (.slice A3 2 c3) [⟨1, 0, 121, 2, 1⟩, ⟨1, 0, 120, 1, 1⟩] := hO
  have HAP := Lib.hid (applyR_fit _ 1 1 [109] A3 2 c3 _ w11 hM11 hO2.uns (by decide) (by decide) fit1)
  rw [leave1] at HAP
  have HB11 := Lib.hid hb11
  clear hO hg hat hb11 ht11 hM11 hO2 HM10 HA10 HO10 HX10 HB10
  go_wp2_with fail
  refine HAP.out.mono ?_
  rintro e w12 ⟨A12, c12, rfl, hO12, hb12⟩
  have hb := below_then' HB11.out hb12 HB11.out.size
  have HT := Lib.hid hO12.crs.2
  have HY8 := Lib.hid (OwnR.then_ HY7.out hb)
  have HX8 := Lib.hid (OwnR.then_ HX7.out hb)
  have HZ8 := Lib.hid (OwnR.then_ HZ7.out hb)
  have HU8 := Lib.hid (OwnR.then_ HU7.out hb)
  have HV8 := Lib.hid (OwnR.then_ HV7.out hb)
  have HB8 := Lib.hid (below_then' HB7.out hb HB7.out.size)
  clear hO12 hb12 hb HB11 HAP HY7 HX7 HZ7 HU7 HV7 HB7
  simp only [List.length_cons, List.length_nil, Nat.zero_add, Nat.reduceAdd] at HT ⊢
  go_wp2_with fail
  refine (ins_any 1 120 1 _).mono ?_
  rintro e w13 ⟨rfl, hb⟩
  unfold uval
  simp only
  have hX := unit_row w13 1 1 120 1 1
  obtain ⟨w14, hw14⟩ : ∃ w14, w14 = w13.alloc (.cells #[.int .i64 1, .int .i64 1, .int .i32 120, .int .u32 1, .int .u64 1] 36) := ⟨_, rfl⟩
  have hb14 : Below w13.heap.size w13 w14 := by rw [hw14]; exact below_box _ _
  rw [← hw14] at hX
  have HLO := Lib.hid (long_any _ 1 1 _ 0 w14 hX.uns (by decide) (by decide))
  rw [long1] at HLO
  simp only at HLO
  have hb1214 := below_then' hb hb14 hb.size
  have HW14 := Lib.hid hw14
  have HT4 := Lib.hid (HT.out.then_ hb1214)
  have HY4 := Lib.hid (OwnR.then_ HY8.out hb1214)
  have HX4 := Lib.hid (OwnR.then_ HX8.out hb1214)
  have HZ4 := Lib.hid (OwnR.then_ HZ8.out hb1214)
  have HU4 := Lib.hid (OwnR.then_ HU8.out hb1214)
  have HV4 := Lib.hid (OwnR.then_ HV8.out hb1214)
  have HB14 := Lib.hid (below_then' HB8.out hb1214 HB8.out.size)
  clear hb hX hw14 hb14 hb1214 HT HY8 HX8 HZ8 HU8 HV8 HB8
  go_wp2_with fail
  rw [← HW14.out]
  refine HLO.out.mono ?_
  rintro e w15 ⟨rfl, hb⟩
  have hx := OwnU.first (OwnR.then_ HX4.out hb)
  have hz := OwnU.first (OwnR.then_ HZ4.out hb)
  have hu := OwnU.first (OwnR.then_ HU4.out hb)
  have hv := OwnU.first (OwnR.then_ HV4.out hb)
  simp only at hx hz hu hv
  have HT5 := Lib.hid (HT4.out.then_ hb)
  have HY5 := Lib.hid (OwnR.then_ HY4.out hb)
  have HB15 := Lib.hid (below_then' HB14.out hb HB14.out.size)
  obtain ⟨w16, hw16⟩ : ∃ w16, w16 = w15.alloc (.cells #[.int .i32 120, .int .i32 121, .int .i32 109] 30) := ⟨_, rfl⟩
  have hb16 : Below w15.heap.size w15 w16 := by rw [hw16]; exact below_box _ _
  have hch : Crs w16 w16.heap.size (some ⟨w15.heap.size, 0, none⟩) 3 3 [120, 121, 109] := by
    rw [hw16]; exact chars_row w15 [120, 121, 109] (small_js (by simp)) (by simp [maxLen])
  have HSA := Lib.hid (sameC_any A12 _ 3 c12 3 3 [120, 121, 109] [120, 121, 109] w16 (HT5.out.then_ hb16) hch)
  rw [decide_eq_true rfl] at HSA
  have HW16 := Lib.hid hw16
  have HB16 := Lib.hid (below_then' HB15.out hb16 HB15.out.size)
  have HY6 := Lib.hid (OwnR.then_ HY5.out hb16)
  clear hb hw16 hb16 hch HT4 HT5 HY4 HX4 HZ4 HU4 HV4 HB14 HB15 HY5 HW14 HLO
  go_wp2_with fail
  rw [← HW16.out]
  refine HSA.out.mono ?_
  rintro e w17 ⟨rfl, hb⟩
  have HPL := Lib.hid (place_any 1 _ 1 1 _ w17 (OwnU.uns (OwnR.then_ HY6.out hb)))
  rw [place1] at HPL
  have HB17 := Lib.hid (below_then' HB16.out hb HB16.out.size)
  clear hb hx hz hu hv HSA HB16 HY6
  go_wp2_with fail
  refine HPL.out.mono ?_
  rintro e w18 ⟨rfl, hb⟩
  have HB18 := Lib.hid (below_then' HB17.out hb HB17.out.size)
  clear hb HPL HB17
  go_wp2_with fail
  go_ret
  exact ⟨rfl, HB18.out⟩
end Go.Proofs.Ytaboamkfpolpbaa
