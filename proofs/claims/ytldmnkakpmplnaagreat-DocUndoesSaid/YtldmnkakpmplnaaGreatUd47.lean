/-
  The document's examples (awake). No conditions.
-/
import Derived.Test.YtldmnkakpmplnaaGreatUd46
set_option maxRecDepth 100000
set_option linter.unusedVariables false
namespace Go.Proofs.YtldmnkakpmplnaaGreat
open Go.RowKit
open Pl (Un)
set_option maxHeartbeats 400000 in
theorem id13_any (x y : Int) (w : World) :
    Calls Tryz.prog 17 #[.int .u32 x, .int .u64 y] w fun e w' => e = .returned (.agg #[.int .u32 x, .int .u64 y]) ∧ Below w.heap.size w w' := by
  go_enter Tryz.func17, Tryz.ntmps17
  go_wp2_with fail
  go_returns
  exact ⟨rfl, by first | exact Below.refl _ _ | exact below_box _ _⟩
set_option maxHeartbeats 400000 in
theorem ins13_any (p ch x y : Int) (w : World) :
    Calls Tryz.prog 19 #[.int .i64 p, .int .i32 ch, .int .u32 x, .int .u64 y] w fun e w' => e = .returned (uval ⟨1, p, ch, x, y⟩) ∧ Below w.heap.size w w' := by
  unfold uval
  go_enter Tryz.func19, Tryz.ntmps19
  go_wp2_with fail
  go_returns
  exact ⟨rfl, by first | exact Below.refl _ _ | exact below_box _ _⟩
set_option maxHeartbeats 4000000 in
theorem awake_any (w : World) :
    Calls Tryz.prog 30 #[] w fun e w' => e = .returned (.bool true) ∧ Below w.heap.size w w' := by
  go_enter Tryz.func30, Tryz.ntmps30
  go_wp2_with fail
  refine (newD_any w).mono ?_
  rintro e W0 ⟨D, k0, rfl, hd0, hk0, hb0⟩
  have HD0 := Lib.hid (And.intro hd0 hk0)
  have HB0 := Lib.hid hb0
  have HM0 := Lib.hid (show (0 : Nat) ≤ 0 from Nat.le_refl _)
  clear hd0 hk0 hb0
  go_wp2_with fail
  have hC1 := open_any HD0.out.1 (c := 1) (by decide) 0 (by decide) 5 (by decide) (by decide) (by decide)
  rw [show Pl.Dc.zero.open_ 1 0 5 = Pl.Dc.aw1 from rfl] at hC1
  have HC1 := Lib.hid hC1
  clear hC1
  refine HC1.out.mono ?_
  rintro e w1 ⟨k1, m1, v1, rfl, hd, hm, hv, A1, n1, c1, B1, p1, q1, C1, r1, s1, rfl, hr⟩
  have hv2 := hv
  have HM1 := Lib.hid (show m1 ≤ 256 by omega)
  obtain ⟨a1, ha1⟩ : ∃ a, a = Pl.Dc.aw1.2 := ⟨_, rfl⟩
  rw [← ha1] at hr ⊢
  have HA1 := Lib.hid ha1
  clear ha1
  have hkn := AnK.new hd.lt hr
  have hbb := below_box w1 (.cells #[.int .i64 a1.e, .int .u32 0, .int .u64 (a1.rev : Int), .bool a1.whole, .slice A1 n1 c1, .slice B1 p1 q1, .slice C1 r1 s1] 37)
  unfold aval
  go_wp2_with fail
  generalize w1.alloc (.cells #[.int .i64 a1.e, .int .u32 0, .int .u64 (a1.rev : Int), .bool a1.whole, .slice A1 n1 c1, .slice B1 p1 q1, .slice C1 r1 s1] 37) = W1 at hkn hbb ⊢
  have HD1 := Lib.hid (And.intro (hd.then_ hbb) (And.intro (hv2.then_ hbb) hkn))
  clear hd hm hv hr hv2 hkn hbb HC1
  refine (id13_any 1 1 W1).mono ?_
  rintro e V2 ⟨rfl, hv2⟩
  have HB2 := Lib.hid hv2
  clear hv2
  go_wp2_with fail
  refine (ins13_any 0 97 1 1 V2).mono ?_
  rintro e U2 ⟨rfl, hu2⟩
  have HU2 := Lib.hid (below_then HB2.out hu2)
  clear hu2
  unfold uval
  go_wp2_with fail
  have hb2 := below_box U2 (.cells #[.int .i64 1, .int .i64 0, .int .i32 97, .int .u32 1, .int .u64 1] 47)
  have hl2 : OwnU (U2.alloc (.cells #[.int .i64 1, .int .i64 0, .int .i32 97, .int .u32 1, .int .u64 1] 47)) U2.heap.size (.slice (some ⟨U2.heap.size, 0, none⟩) 1 1) [⟨1, 0, 97, 1, 1⟩] := units_lit U2 [⟨1, 0, 97, 1, 1⟩] (by simp [maxLen])
  generalize U2.alloc (.cells #[.int .i64 1, .int .i64 0, .int .i32 97, .int .u32 1, .int .u64 1] 47) = X2 at hb2 hl2 ⊢
  have hd2 := HD1.out.1.then_ (below_then HU2.out hb2)
  have hap2 : Apart (fun b => k1 b ≠ 0) (some ⟨U2.heap.size, 0, none⟩) 1 := fun _ ad e hn => by
    cases e
    have h1 := HD1.out.1.lt _ hn
    have h2 := HU2.out.size
    simp only at h1
    omega
  have hC2 := edit_any hd2 (x := 1) (y := 1) (by decide) 0 (by decide) _ 1 1 [⟨1, 0, 97, 1, 1⟩] (OwnU.uns hl2) hap2 (by decide) 6 (by decide) (by decide) (by rw [Pl.Dc.aw_t.1]; decide) (by have := HM1.out; omega)
  have HX2 := Lib.hid (below_then HU2.out hb2)
  clear hb2 hl2 hap2 hd2
  rw [show Pl.Dc.aw1.1.edit 1 1 0 [⟨1, 0, 97, 1, 1⟩] 6 = Pl.Dc.aw2 from rfl] at hC2
  have HC2 := Lib.hid hC2
  clear hC2
  refine HC2.out.mono ?_
  rintro e w2 ⟨k2, m2, v2, rfl, hd, hm, hv, A2, n2, c2, B2, p2, q2, C2, r2, s2, rfl, hr⟩
  have hv2 := (Mv.of k1 HX2.out).trans hv
  have HM2 := Lib.hid (show m2 ≤ 512 by have := HM1.out; omega)
  obtain ⟨a2, ha2⟩ : ∃ a, a = Pl.Dc.aw2.2 := ⟨_, rfl⟩
  rw [← ha2] at hr ⊢
  have HA2 := Lib.hid ha2
  clear ha2
  have hkn := AnK.new hd.lt hr
  have hbb := below_box w2 (.cells #[.int .i64 a2.e, .int .u32 0, .int .u64 (a2.rev : Int), .bool a2.whole, .slice A2 n2 c2, .slice B2 p2 q2, .slice C2 r2 s2] 37)
  unfold aval
  go_wp2_with fail
  generalize w2.alloc (.cells #[.int .i64 a2.e, .int .u32 0, .int .u64 (a2.rev : Int), .bool a2.whole, .slice A2 n2 c2, .slice B2 p2 q2, .slice C2 r2 s2] 37) = W2 at hkn hbb ⊢
  have HD2 := Lib.hid (And.intro (hd.then_ hbb) (And.intro (hv2.then_ hbb) hkn))
  clear hd hm hv hr hv2 hkn hbb HC2
  have hC3 := open_any HD2.out.1 (c := 2) (by decide) 1 (by decide) 7 (by decide) (by decide) (by rw [Pl.Dc.aw_t.2.1]; decide)
  rw [show Pl.Dc.aw2.1.open_ 2 1 7 = Pl.Dc.aw3 from rfl] at hC3
  have HC3 := Lib.hid hC3
  clear hC3
  refine HC3.out.mono ?_
  rintro e w3 ⟨k3, m3, v3, rfl, hd, hm, hv, A3, n3, c3, B3, p3, q3, C3, r3, s3, rfl, hr⟩
  have hv2 := hv
  have HM3 := Lib.hid (show m3 ≤ 768 by have := HM2.out; omega)
  obtain ⟨a3, ha3⟩ : ∃ a, a = Pl.Dc.aw3.2 := ⟨_, rfl⟩
  rw [← ha3] at hr ⊢
  have HA3 := Lib.hid ha3
  clear ha3
  have hkn := AnK.new hd.lt hr
  have hbb := below_box w3 (.cells #[.int .i64 a3.e, .int .u32 0, .int .u64 (a3.rev : Int), .bool a3.whole, .slice A3 n3 c3, .slice B3 p3 q3, .slice C3 r3 s3] 37)
  unfold aval
  go_wp2_with fail
  generalize w3.alloc (.cells #[.int .i64 a3.e, .int .u32 0, .int .u64 (a3.rev : Int), .bool a3.whole, .slice A3 n3 c3, .slice B3 p3 q3, .slice C3 r3 s3] 37) = W3 at hkn hbb ⊢
  have HD3 := Lib.hid (And.intro (hd.then_ hbb) (And.intro (hv2.then_ hbb) hkn))
  clear hd hm hv hr hv2 hkn hbb HC3
  refine (id13_any 2 1 W3).mono ?_
  rintro e V4 ⟨rfl, hv4⟩
  have HB4 := Lib.hid hv4
  clear hv4
  go_wp2_with fail
  refine (ins13_any 0 98 2 1 V4).mono ?_
  rintro e U4 ⟨rfl, hu4⟩
  have HU4 := Lib.hid (below_then HB4.out hu4)
  clear hu4
  unfold uval
  go_wp2_with fail
  have hb4 := below_box U4 (.cells #[.int .i64 1, .int .i64 0, .int .i32 98, .int .u32 2, .int .u64 1] 47)
  have hl4 : OwnU (U4.alloc (.cells #[.int .i64 1, .int .i64 0, .int .i32 98, .int .u32 2, .int .u64 1] 47)) U4.heap.size (.slice (some ⟨U4.heap.size, 0, none⟩) 1 1) [⟨1, 0, 98, 2, 1⟩] := units_lit U4 [⟨1, 0, 98, 2, 1⟩] (by simp [maxLen])
  generalize U4.alloc (.cells #[.int .i64 1, .int .i64 0, .int .i32 98, .int .u32 2, .int .u64 1] 47) = X4 at hb4 hl4 ⊢
  have hd4 := HD3.out.1.then_ (below_then HU4.out hb4)
  have hap4 : Apart (fun b => k3 b ≠ 0) (some ⟨U4.heap.size, 0, none⟩) 1 := fun _ ad e hn => by
    cases e
    have h1 := HD3.out.1.lt _ hn
    have h2 := HU4.out.size
    simp only at h1
    omega
  have hC4 := edit_any hd4 (x := 2) (y := 1) (by decide) 0 (by decide) _ 1 1 [⟨1, 0, 98, 2, 1⟩] (OwnU.uns hl4) hap4 (by decide) 8 (by decide) (by decide) (by rw [Pl.Dc.aw_t.2.2.1]; decide) (by have := HM3.out; omega)
  have HX4 := Lib.hid (below_then HU4.out hb4)
  clear hb4 hl4 hap4 hd4
  rw [show Pl.Dc.aw3.1.edit 2 1 0 [⟨1, 0, 98, 2, 1⟩] 8 = Pl.Dc.aw4 from rfl] at hC4
  have HC4 := Lib.hid hC4
  clear hC4
  refine HC4.out.mono ?_
  rintro e w4 ⟨k4, m4, v4, rfl, hd, hm, hv, A4, n4, c4, B4, p4, q4, C4, r4, s4, rfl, hr⟩
  have hv2 := (Mv.of k3 HX4.out).trans hv
  have HM4 := Lib.hid (show m4 ≤ 1024 by have := HM3.out; omega)
  obtain ⟨a4, ha4⟩ : ∃ a, a = Pl.Dc.aw4.2 := ⟨_, rfl⟩
  rw [← ha4] at hr ⊢
  have HA4 := Lib.hid ha4
  clear ha4
  have hkn := AnK.new hd.lt hr
  have hbb := below_box w4 (.cells #[.int .i64 a4.e, .int .u32 0, .int .u64 (a4.rev : Int), .bool a4.whole, .slice A4 n4 c4, .slice B4 p4 q4, .slice C4 r4 s4] 37)
  unfold aval
  go_wp2_with fail
  generalize w4.alloc (.cells #[.int .i64 a4.e, .int .u32 0, .int .u64 (a4.rev : Int), .bool a4.whole, .slice A4 n4 c4, .slice B4 p4 q4, .slice C4 r4 s4] 37) = W4 at hkn hbb ⊢
  have HD4 := Lib.hid (And.intro (hd.then_ hbb) (And.intro (hv2.then_ hbb) hkn))
  clear hd hm hv hr hv2 hkn hbb HC4
  refine (id13_any 1 2 W4).mono ?_
  rintro e V5 ⟨rfl, hv5⟩
  have HB5 := Lib.hid hv5
  clear hv5
  go_wp2_with fail
  have hd5 := HD4.out.1.then_ HB5.out
  have hC5 := undo_any hd5 (x := 1) (y := 2) (by decide) 1 (by decide) 9 (by decide) (by decide) (by rw [Pl.Dc.aw_t.2.2.2.1]; decide) (by have := HM4.out; omega)
  clear hd5
  rw [show Pl.Dc.aw4.1.undo 1 2 1 9 = Pl.Dc.aw5 from rfl] at hC5
  have HC5 := Lib.hid hC5
  clear hC5
  refine HC5.out.mono ?_
  rintro e w5 ⟨k5, m5, v5, rfl, hd, hm, hv, A5, n5, c5, B5, p5, q5, C5, r5, s5, rfl, hr⟩
  have hv2 := (Mv.of k4 HB5.out).trans hv
  have HM5 := Lib.hid (show m5 ≤ 1280 by have := HM4.out; omega)
  obtain ⟨a5, ha5⟩ : ∃ a, a = Pl.Dc.aw5.2 := ⟨_, rfl⟩
  rw [← ha5] at hr ⊢
  have HA5 := Lib.hid ha5
  clear ha5
  have hkn := AnK.new hd.lt hr
  have hbb := below_box w5 (.cells #[.int .i64 a5.e, .int .u32 0, .int .u64 (a5.rev : Int), .bool a5.whole, .slice A5 n5 c5, .slice B5 p5 q5, .slice C5 r5 s5] 37)
  unfold aval
  go_wp2_with fail
  generalize w5.alloc (.cells #[.int .i64 a5.e, .int .u32 0, .int .u64 (a5.rev : Int), .bool a5.whole, .slice A5 n5 c5, .slice B5 p5 q5, .slice C5 r5 s5] 37) = W5 at hkn hbb ⊢
  have HD5 := Lib.hid (And.intro (hd.then_ hbb) (And.intro (hv2.then_ hbb) hkn))
  clear hd hm hv hr hv2 hkn hbb HC5
  refine (id13_any 2 2 W5).mono ?_
  rintro e V6 ⟨rfl, hv6⟩
  have HB6 := Lib.hid hv6
  clear hv6
  go_wp2_with fail
  have hd6 := HD5.out.1.then_ HB6.out
  have hC6 := undo_any hd6 (x := 2) (y := 2) (by decide) 1 (by decide) 9 (by decide) (by decide) (by rw [Pl.Dc.aw_t.2.2.2.2.1]; decide) (by have := HM5.out; omega)
  clear hd6
  rw [show Pl.Dc.aw5.1.undo 2 2 1 9 = Pl.Dc.aw6 from rfl] at hC6
  have HC6 := Lib.hid hC6
  clear hC6
  refine HC6.out.mono ?_
  rintro e w6 ⟨k6, m6, v6, rfl, hd, hm, hv, A6, n6, c6, B6, p6, q6, C6, r6, s6, rfl, hr⟩
  have hv2 := (Mv.of k5 HB6.out).trans hv
  have HM6 := Lib.hid (show m6 ≤ 1536 by have := HM5.out; omega)
  obtain ⟨a6, ha6⟩ : ∃ a, a = Pl.Dc.aw6.2 := ⟨_, rfl⟩
  rw [← ha6] at hr ⊢
  have HA6 := Lib.hid ha6
  clear ha6
  have hkn := AnK.new hd.lt hr
  have hbb := below_box w6 (.cells #[.int .i64 a6.e, .int .u32 0, .int .u64 (a6.rev : Int), .bool a6.whole, .slice A6 n6 c6, .slice B6 p6 q6, .slice C6 r6 s6] 37)
  unfold aval
  go_wp2_with fail
  generalize w6.alloc (.cells #[.int .i64 a6.e, .int .u32 0, .int .u64 (a6.rev : Int), .bool a6.whole, .slice A6 n6 c6, .slice B6 p6 q6, .slice C6 r6 s6] 37) = W6 at hkn hbb ⊢
  have HD6 := Lib.hid (And.intro (hd.then_ hbb) (And.intro (hv2.then_ hbb) hkn))
  clear hd hm hv hr hv2 hkn hbb HC6
  refine (id13_any 3 1 W6).mono ?_
  rintro e V7 ⟨rfl, hv7⟩
  have HB7 := Lib.hid hv7
  clear hv7
  go_wp2_with fail
  have hd7 := HD6.out.1.then_ HB7.out
  have hC7 := edit_any hd7 (x := 3) (y := 1) (by decide) 0 (by decide) none 0 0 [] (Rws.none_ _ _ _) (Apart.none_ _ _) (by decide) 9 (by decide) (by decide) (by rw [Pl.Dc.aw_t.2.2.2.2.2.1]; decide) (by have := HM6.out; omega)
  clear hd7
  rw [show Pl.Dc.aw6.1.edit 3 1 0 [] 9 = Pl.Dc.aw7 from rfl] at hC7
  have HC7 := Lib.hid hC7
  clear hC7
  refine HC7.out.mono ?_
  rintro e w7 ⟨k7, m7, v7, rfl, hd, hm, hv, A7, n7, c7, B7, p7, q7, C7, r7, s7, rfl, hr⟩
  have hv2 := (Mv.of k6 HB7.out).trans hv
  have HM7 := Lib.hid (show m7 ≤ 1792 by have := HM6.out; omega)
  obtain ⟨a7, ha7⟩ : ∃ a, a = Pl.Dc.aw7.2 := ⟨_, rfl⟩
  rw [← ha7] at hr ⊢
  have HA7 := Lib.hid ha7
  clear ha7
  have hkn := AnK.new hd.lt hr
  have hbb := below_box w7 (.cells #[.int .i64 a7.e, .int .u32 0, .int .u64 (a7.rev : Int), .bool a7.whole, .slice A7 n7 c7, .slice B7 p7 q7, .slice C7 r7 s7] 37)
  have hv7 := hv2.then_ hbb
  have hd7 := hd.then_ hbb
  obtain ⟨Z, hZ⟩ : ∃ Z, Z = w7.alloc (.cells #[.int .i64 a7.e, .int .u32 0, .int .u64 (a7.rev : Int), .bool a7.whole, .slice A7 n7 c7, .slice B7 p7 q7, .slice C7 r7 s7] 37) := ⟨_, rfl⟩
  rw [← hZ] at hkn hv7 hd7
  have v6 := HD6.out.2.1.trans hv7
  have v5 := HD5.out.2.1.trans v6
  have v4 := HD4.out.2.1.trans v5
  have v3 := HD3.out.2.1.trans v4
  have v2 := HD2.out.2.1.trans v3
  obtain ⟨_, _, _, _, _, _, _, _, _, g1, _, _⟩ := HD1.out.2.2.mv v2
  obtain ⟨_, _, _, E2, l2, f2, _, _, _, g2, h2, _⟩ := HD2.out.2.2.mv v3
  obtain ⟨_, _, _, _, _, _, _, _, _, g3, _, _⟩ := HD3.out.2.2.mv v4
  obtain ⟨_, _, _, E4, l4, f4, _, _, _, g4, h4, _⟩ := HD4.out.2.2.mv v5
  obtain ⟨_, _, _, E5, l5, f5, _, _, _, g5, h5, _⟩ := HD5.out.2.2.mv v6
  obtain ⟨_, _, _, _, _, _, _, _, _, g6, _, _⟩ := HD6.out.2.2.mv hv7
  obtain ⟨_, _, _, _, _, _, _, _, _, g7, _, _⟩ := hkn
  obtain ⟨x10, _, x12, x13, _⟩ := g1.cells
  obtain ⟨x20, _, x22, _, _, x25, _⟩ := g2.cells
  obtain ⟨_, _, x32, _⟩ := g3.cells
  obtain ⟨_, _, x42, _, _, x45, _⟩ := g4.cells
  obtain ⟨_, _, x52, _, _, x55, _⟩ := g5.cells
  obtain ⟨x60, _⟩ := g6.cells
  obtain ⟨x70, _⟩ := g7.cells
  obtain ⟨L2, hL2, hP2⟩ := h2.ops
  obtain ⟨L4, hL4, hP4⟩ := h4.ops
  obtain ⟨L5, hL5, hP5⟩ := h5.ops
  have hln : ∀ (L : List OpV) (P : List Pl.Op), L.map OpV.op = P → L.length = P.length := fun L P h => by rw [← h, List.length_map]
  have hgt : ∀ (L : List OpV) (P : List Pl.Op) (i : Nat), L.map OpV.op = P → i < L.length → (L.getD i default).op = P.getD i default := fun L P i h hi => by
    rw [← h, List.getD_eq_getElem?_getD, List.getD_eq_getElem?_getD, List.getElem?_map, List.getElem?_eq_getElem hi]; rfl
  rw [HA1.out, Pl.Dc.aw_1.1] at x10
  rw [HA1.out, Pl.Dc.aw_1.2.1] at x13
  rw [HA1.out, Pl.Dc.aw_1.2.2] at x12
  rw [HA2.out, Pl.Dc.aw_2.1] at x20
  rw [HA2.out, Pl.Dc.aw_2.2.1] at x22
  rw [HA3.out, Pl.Dc.aw_3] at x32
  rw [HA4.out, Pl.Dc.aw_4.1] at x42
  rw [HA5.out, Pl.Dc.aw_5.1] at x52
  rw [HA6.out, Pl.Dc.aw_6] at x60
  rw [HA7.out, Pl.Dc.aw_7.1] at x70
  rw [HA2.out] at hP2
  rw [HA4.out] at hP4
  rw [HA5.out] at hP5
  obtain rfl : l2 = 1 := by rw [← hL2.1.len, hln _ _ hP2]; exact Pl.Dc.aw_2.2.2
  have hl4 : L4.length = 2 := by rw [hln _ _ hP4]; exact Pl.Dc.aw_4.2.1
  have hl5 : L5.length = 1 := by rw [hln _ _ hP5]; exact Pl.Dc.aw_5.2.1
  obtain rfl : l4 = 2 := by rw [← hL4.1.len, hl4]
  obtain rfl : l5 = 1 := by rw [← hL5.1.len, hl5]
  obtain ⟨y4, o4, rfl, _, _, hc4⟩ := hL4.at_ (i := 1) (by decide)
  obtain ⟨y5, o5, rfl, _, _, hc5⟩ := hL5.at_ (i := 0) (by decide)
  have z4 := (hc4 1 (by decide)).2.2.1
  have z5 := (hc5 0 (by decide)).2.2.1
  have u4 := hL4.getD_ (i := 1) (by decide)
  have u5 := hL5.getD_ (i := 0) (by decide)
  have e4 := hgt _ _ 1 hP4 (by rw [hl4]; decide)
  have e5 := hgt _ _ 0 hP5 (by rw [hl5]; decide)
  obtain ⟨⟨ox4, oy4, oA4, on4, oc4, ol4, ob4⟩, ho4⟩ : ∃ o, o = L4.getD 1 default := ⟨_, rfl⟩
  obtain ⟨⟨ox5, oy5, oA5, on5, oc5, ol5, ob5⟩, ho5⟩ : ∃ o, o = L5.getD 0 default := ⟨_, rfl⟩
  rw [← ho4] at z4 u4 e4
  rw [← ho5] at z5 u5 e5
  simp only at z4 u4 z5 u5
  have q4 : ol4.length = 1 ∧ (ol4.getD 0 default).p = 1 := by
    have := Pl.Dc.aw_4.2.2
    rw [← e4] at this
    exact this
  have q5 : ol5.length = 1 ∧ (ol5.getD 0 default).k = 2 ∧ (ol5.getD 0 default).p = 0 := by
    have := Pl.Dc.aw_5.2.2
    rw [← e5] at this
    exact this
  obtain rfl : on4 = 1 := by rw [← u4.1.len]; exact q4.1
  obtain rfl : on5 = 1 := by rw [← u5.1.len]; exact q5.1
  obtain ⟨i4, j4, rfl, _, hu4⟩ := Uns.at_ u4.1 (i := 0) (by decide)
  obtain ⟨i5, j5, rfl, _, hu5⟩ := Uns.at_ u5.1 (i := 0) (by decide)
  have w41 := (hu4 0 (by decide)).2.1
  have w50 := (hu5 0 (by decide)).1
  have w51 := (hu5 0 (by decide)).2.1
  rw [q4.2] at w41
  rw [q5.2.1] at w50
  rw [q5.2.2] at w51
  simp only [Nat.zero_mul, Nat.one_mul, Nat.add_zero, Nat.add_assoc, Nat.reduceAdd] at z4 z5 w41 w50 w51
  have HT := Lib.hid (And.intro hd7 (And.intro hv7 hZ))
  have HVV := Lib.hid (And.intro HD1.out.2.1 v2)
  rw [hZ] at x10 x12 x13 x20 x22 x25 x32 x42 x45 x52 x55 x60 x70 z4 z5 w41 w50 w51
  clear hd hm hv hr hv2 hbb HC7 hv7 hd7 v6 v5 v4 v3 v2 g1 g2 g3 g4 g5 g6 g7 h2 h4 h5 hL2 hP2 hL4 hP4 hL5 hP5 hln hgt hl4 hl5 hc4 hc5 u4 u5 e4 e5 ho4 ho5 q4 q5 hu4 hu5 hZ
  unfold aval
  go_wp2_with fail
  have hbZ := HVV.out.1.trans HVV.out.2
  have hbz : Below w.heap.size w Z := hbZ.tn.below HB0.out HB0.out.size (fun b hb => HD0.out.2 b hb)
  have htx := HT.out.1.text
  rw [Pl.Dc.aw_7.2, HT.out.2.2] at htx
  rw [HT.out.2.2] at hbz
  have HBZ := Lib.hid hbz
  clear hbZ hbz x10 x12 x13 x20 x22 x25 x32 x42 x45 x52 x55 x60 x70 z4 z5 w41 w50 w51 HT HVV
  refine htx.mono ?_
  rintro e wt ⟨TA, tc, rfl, ho, hb⟩
  have hbl := below_box wt (.cells #[.int .i32 98] 41)
  have hcr : Crs (wt.alloc (.cells #[.int .i32 98] 41)) (wt.alloc (.cells #[.int .i32 98] 41)).heap.size (some ⟨wt.heap.size, 0, none⟩) 1 1 [98] := by
    have h0 := heap_alloc_new wt (.cells #[.int .i32 98] 41)
    exact ⟨rfl, Nat.le_refl _, by unfold maxLen; omega, (fun e => by cases e), (fun z hz => by rw [List.mem_singleton.1 hz]; unfold Pl.J; omega), fun _ => ⟨wt.heap.size, 0, rfl, lt_of_block h0, fun i hi => by
      obtain rfl : i = 0 := by omega
      exact cell0 (r := []) h0⟩⟩
  have hsm := sameC_any TA (some ⟨wt.heap.size, 0, none⟩) 1 tc 1 1 [98] [98] (wt.alloc (.cells #[.int .i32 98] 41)) (ho.crs.2.then_ hbl) hcr
  rw [decide_eq_true rfl] at hsm
  have HSM := Lib.hid hsm
  have HBT := Lib.hid (below_then (below_then HBZ.out hb) hbl)
  clear ho hb hbl hcr hsm htx HBZ
  go_wp2_with fail
  refine HSM.out.mono ?_
  rintro e wu ⟨rfl, hb⟩
  have HBU := Lib.hid (below_then HBT.out hb)
  clear hb HSM
  go_wp2_with fail
  go_ret
  exact ⟨rfl, HBU.out⟩
end Go.Proofs.YtldmnkakpmplnaaGreat
