/-
  The walk of copybooklaw01.NumPuts: it returns true for every slice of at most 2^47 - 4096 bytes and every number of 64 bits, and turns nothing that was there.
-/
import Derived.Test.YtolgomnkgmpnmaaNumPutsW
namespace Go.Proofs.Ytolgomnkgmpnmaa.numPuts
open Go.RowKit

theorem I_wrap (n : Int) : Pl.I (wrap64 n) := Pl.I.mk (by unfold wrap64; omega)
theorem and_low (n : Nat) (h : Pl.U n) : bits BinOp.and IntKind.u64 (n : Int) 4294967295 = ((n % 4294967296 : Nat) : Int) := by
  have h := h.out
  have := u64_and_nat n 4294967295 h (by omega)
  rw [show (4294967295 : Nat) = 2 ^ 32 - 1 by decide, Nat.and_two_pow_sub_one_eq_mod] at this
  exact this

set_option maxRecDepth 100000 in
set_option maxHeartbeats 4000000 in
theorem walk (w : World) (A : Option Addr) (m c : Nat) (bs : List Nat) (hA : Bys w w.heap.size A m c bs) (hr : m ≤ 140737488351232) (n : Nat) (hn : Pl.U n) :
    Calls Try.prog 3 #[.slice A m c, .int .u64 (n : Int)] w fun e w' => e = .returned (.bool true) ∧ Below w.heap.size w w' := by
  obtain ⟨s, hs⟩ : ∃ s, s = wrap64 (n : Int) := ⟨_, rfl⟩
  have hI : Pl.I s := by rw [hs]; exact I_wrap _
  have hs2 : wrap64 (n : Int) = s := hs.symm
  clear hs
  obtain ⟨q, hq⟩ : ∃ q : Nat, q = n % 4294967296 := ⟨_, rfl⟩
  have hq2 : (n : Int) % 4294967296 = (q : Int) := by omega
  have hq4 : bits BinOp.and IntKind.u64 (n : Int) 4294967295 = (q : Int) := by rw [and_low n hn, hq]
  have hq3 : q < 4294967296 := by omega
  have hqU : Pl.U q := Pl.U.mk (by omega)
  clear hq
  have HN := Lib.hid hn
  clear hn
  have HA := Lib.hid hA
  have HL := Lib.hid hA.len
  clear hA
  go_enter Try.func3, Try.ntmps3
  go_wp2_with fail
  refine (refOwn_any A m c bs w HA.out hr).mono ?_
  rintro e w1 ⟨A1, c1, rfl, hV1, hb1⟩
  have hB1 := hV1.bys.2
  rw [HL.out] at hB1 ⊢
  have HB1 := Lib.hid hB1
  clear hB1 hV1
  obtain ⟨X0, hX0⟩ : ∃ X, X = bs ++ Pl.enc n := ⟨_, rfl⟩
  obtain ⟨X1, hX1⟩ : ∃ X, X = bs ++ Pl.enc (Pl.fold s) := ⟨_, rfl⟩
  obtain ⟨X2, hX2⟩ : ∃ X, X = bs ++ Pl.lay 4 q := ⟨_, rfl⟩
  obtain ⟨X3, hX3⟩ : ∃ X, X = bs ++ Pl.lay 8 n := ⟨_, rfl⟩
  have HX0 := Lib.hid hX0
  have HX1 := Lib.hid hX1
  have HX2 := Lib.hid hX2
  have HX3 := Lib.hid hX3
  clear hX0 hX1 hX2 hX3
  go_wp2_with fail
  have P2 := put_any A1 m c1 n bs w1 HB1.out hr HN.out
  rw [← HX0.out] at P2
  refine P2.mono ?_
  clear P2
  rintro e w2 ⟨g2, c2, rfl, hO2, hb2⟩
  have HB2 := Lib.hid (HB1.out.below hb2 (Nat.le_refl _))
  go_wp2_with fail
  have P3 := putInt_any A1 m c1 s bs w2 (HB2.out.more hb2.size) hr hI
  rw [← HX1.out] at P3
  refine P3.mono ?_
  clear P3
  rintro e w3 ⟨g3, c3, rfl, hO3, hb3⟩
  have HB3 := Lib.hid (HB2.out.below hb3 hb2.size)
  have z3 := Nat.le_trans hb2.size hb3.size
  go_wp2_with fail
  have P4 := put4_any A1 m c1 q bs w3 (HB3.out.more z3) hr hq3
  rw [← HX2.out] at P4
  refine P4.mono ?_
  clear P4
  rintro e w4 ⟨g4, c4, rfl, hO4, hb4⟩
  have HB4 := Lib.hid (HB3.out.below hb4 z3)
  have z4 := Nat.le_trans z3 hb4.size
  go_wp2_with fail
  have P5 := put8_any A1 m c1 n bs w4 (HB4.out.more z4) hr
  rw [← HX3.out] at P5
  refine P5.mono ?_
  clear P5
  rintro e w5 ⟨g5, c5, rfl, hO5, hb5⟩
  have HB5 := Lib.hid (HB4.out.below hb5 z4)
  have z5 := Nat.le_trans z4 hb5.size
  have F2 := hO2.form; have F3 := hO3.form; have F4 := hO4.form; have F5 := hO5.form
  have HO2 := Lib.hid hO2; have HO3 := Lib.hid hO3; have HO4 := Lib.hid hO4; have HO5 := Lib.hid hO5
  clear hO2 hO3 hO4 hO5
  go_wp2_with fail
  have K6 : (w5.alloc (Obj.cells #[Value.slice (some ⟨g2, 0, none⟩) X0.length c2, Value.slice (some ⟨g3, 0, none⟩) X1.length c3, Value.slice (some ⟨g4, 0, none⟩) X2.length c4, Value.slice (some ⟨g5, 0, none⟩) X3.length c5] 22)).heap[w5.heap.size]? = some (.cells #[Value.slice (some ⟨g2, 0, none⟩) X0.length c2, Value.slice (some ⟨g3, 0, none⟩) X1.length c3, Value.slice (some ⟨g4, 0, none⟩) X2.length c4, Value.slice (some ⟨g5, 0, none⟩) X3.length c5] 22 (0, 0)) := heap_alloc_new w5 _
  have hb6 : Below w5.heap.size w5 (w5.alloc (Obj.cells #[Value.slice (some ⟨g2, 0, none⟩) X0.length c2, Value.slice (some ⟨g3, 0, none⟩) X1.length c3, Value.slice (some ⟨g4, 0, none⟩) X2.length c4, Value.slice (some ⟨g5, 0, none⟩) X3.length c5] 22)) := (Below.refl _ _).alloc (Nat.le_refl _) _
  have z6 : (w5.alloc (Obj.cells #[Value.slice (some ⟨g2, 0, none⟩) X0.length c2, Value.slice (some ⟨g3, 0, none⟩) X1.length c3, Value.slice (some ⟨g4, 0, none⟩) X2.length c4, Value.slice (some ⟨g5, 0, none⟩) X3.length c5] 22)).heap.size = w5.heap.size + 1 := by simp
  generalize w5.alloc (Obj.cells #[Value.slice (some ⟨g2, 0, none⟩) X0.length c2, Value.slice (some ⟨g3, 0, none⟩) X1.length c3, Value.slice (some ⟨g4, 0, none⟩) X2.length c4, Value.slice (some ⟨g5, 0, none⟩) X3.length c5] 22) = w6 at K6 hb6 z6 ⊢
  have HK6 := Lib.hid K6
  have Z6 := Lib.hid z6
  clear K6 z6
  have y1 := hb1.size; have y2 := hb2.size; have y3 := hb3.size; have y4 := hb4.size; have y5 := hb5.size; have y6 := hb6.size
  have hw6 : Below w.heap.size w w6 := ((((hb1.trans (hb2.mono (by omega))).trans (hb3.mono (by omega))).trans (hb4.mono (by omega))).trans (hb5.mono (by omega))).trans (hb6.mono (by omega))
  go_wp2_with fail
  have P7 := refPut_any A m c n bs w6 ((HA.out.below hw6 (Nat.le_refl _)).more hw6.size) hr HN.out
  rw [← HX0.out] at P7
  refine P7.mono ?_
  clear P7
  rintro e w7 ⟨g7, c7, rfl, hO7, hb7⟩
  have hw7 : Below w.heap.size w w7 := hw6.trans (hb7.mono hw6.size)
  go_wp2_with fail
  refine (refFold_any s w7 hI).mono ?_
  rintro e w' ⟨rfl, rfl⟩
  go_wp2_with fail
  have P8 := refPut_any A m c (Pl.fold s) bs w7 ((HA.out.below hw7 (Nat.le_refl _)).more hw7.size) hr (Pl.fold_U hI)
  rw [← HX1.out] at P8
  refine P8.mono ?_
  clear P8
  rintro e w8 ⟨g8, c8, rfl, hO8, hb8⟩
  have hw8 : Below w.heap.size w w8 := hw7.trans (hb8.mono hw7.size)
  go_wp2_with fail
  have P9 := refLay_any A m c q 4 bs w8 ((HA.out.below hw8 (Nat.le_refl _)).more hw8.size) hr hqU (by omega) (by omega)
  rw [← HX2.out] at P9
  refine P9.mono ?_
  clear P9
  rintro e w9 ⟨g9, c9, rfl, hO9, hb9⟩
  have hw9 : Below w.heap.size w w9 := hw8.trans (hb9.mono hw8.size)
  go_wp2_with fail
  have P10 := refLay_any A m c n 8 bs w9 ((HA.out.below hw9 (Nat.le_refl _)).more hw9.size) hr HN.out (by omega) (by omega)
  rw [← HX3.out] at P10
  refine P10.mono ?_
  clear P10
  rintro e w10 ⟨g10, c10, rfl, hO10, hb10⟩
  have hw10 : Below w.heap.size w w10 := hw9.trans (hb10.mono hw9.size)
  have F7 := hO7.form; have F8 := hO8.form; have F9 := hO9.form; have F10 := hO10.form
  have HO7 := Lib.hid hO7; have HO8 := Lib.hid hO8; have HO9 := Lib.hid hO9; have HO10 := Lib.hid hO10
  clear hO7 hO8 hO9 hO10
  go_wp2_with fail
  have K11 : (w10.alloc (Obj.cells #[Value.slice (some ⟨g7, 0, none⟩) X0.length c7, Value.slice (some ⟨g8, 0, none⟩) X1.length c8, Value.slice (some ⟨g9, 0, none⟩) X2.length c9, Value.slice (some ⟨g10, 0, none⟩) X3.length c10] 22)).heap[w10.heap.size]? = some (.cells #[Value.slice (some ⟨g7, 0, none⟩) X0.length c7, Value.slice (some ⟨g8, 0, none⟩) X1.length c8, Value.slice (some ⟨g9, 0, none⟩) X2.length c9, Value.slice (some ⟨g10, 0, none⟩) X3.length c10] 22 (0, 0)) := heap_alloc_new w10 _
  have hb11 : Below w10.heap.size w10 (w10.alloc (Obj.cells #[Value.slice (some ⟨g7, 0, none⟩) X0.length c7, Value.slice (some ⟨g8, 0, none⟩) X1.length c8, Value.slice (some ⟨g9, 0, none⟩) X2.length c9, Value.slice (some ⟨g10, 0, none⟩) X3.length c10] 22)) := (Below.refl _ _).alloc (Nat.le_refl _) _
  generalize w10.alloc (Obj.cells #[Value.slice (some ⟨g7, 0, none⟩) X0.length c7, Value.slice (some ⟨g8, 0, none⟩) X1.length c8, Value.slice (some ⟨g9, 0, none⟩) X2.length c9, Value.slice (some ⟨g10, 0, none⟩) X3.length c10] 22) = W0 at K11 hb11 ⊢
  have hw0 : Below w.heap.size w W0 := hw10.trans (hb11.mono hw10.size)
  have y7 := hb7.size; have y8 := hb8.size; have y9 := hb9.size; have y10 := hb10.size
  have HBo := Lib.hid ((((((HB5.out.below hb6 z5).below hb7 (by omega)).below hb8 (by omega)).below hb9 (by omega)).below hb10 (by omega)).below hb11 (by omega))
  have HBb := Lib.hid (HA.out.below hw0 (Nat.le_refl _))
  obtain ⟨G, C, H, D, X, hST⟩ : ∃ G C H D X, St W0 w.heap.size w1.heap.size w5.heap.size w10.heap.size G C H D X :=
    ⟨_, _, _, _, _, mkSt y1 HO2.out HO3.out HO4.out HO5.out hb2 hb3 hb4 hb5 hb6 Z6.out HK6.out HO7.out HO8.out HO9.out HO10.out hb7 hb8 hb9 hb10 hb11 K11⟩
  have ST := Lib.hid hST
  have yW : w1.heap.size ≤ W0.heap.size := by have := hb11.size; omega
  clear hST K11 HK6 Z6 HO2 HO3 HO4 HO5 HO7 HO8 HO9 HO10 F2 F3 F4 F5 F7 F8 F9 F10 hb2 hb3 hb4 hb5 hb6 hb7 hb8 hb9 hb10 hb11 hw6 hw7 hw8 hw9 hw10 HB1 HB2 HB3 HB4 HB5 z3 z4 z5 y2 y3 y4 y5 y6 y7 y8 y9 y10 HA HX0 HX1 HX2 HX3
  obtain ⟨gl, hgl⟩ : ∃ g, g = w5.heap.size := ⟨_, rfl⟩
  obtain ⟨gw, hgw⟩ : ∃ g, g = w10.heap.size := ⟨_, rfl⟩
  rw [← hgl, ← hgw] at ST
  rw [← hgl, ← hgw]
  clear hgl hgw
  go_loopw [46] (fun t wr => ORel W0 G t wr) (fun t _ => 4 - (intOf t).toNat)
  case atStart => exact ⟨0, rfl, by omega, Off.refl _ _⟩
  case round =>
    obtain ⟨i, rfl, hi, hoff⟩ := hrel
    by_cases hlt : i < 4
    · obtain ⟨wo, rfl⟩ : ∃ wo : World, wo = wr := ⟨_, rfl⟩
      have hl := (hoff.cell (p := ⟨gl, i, none⟩) (fun ⟨j, hj, e⟩ => ST.out.nl j (by omega) e.symm)).trans (ST.out.l i hlt)
      have hr' := (hoff.cell (p := ⟨gw, i, none⟩) (fun ⟨j, hj, e⟩ => ST.out.nw j (by omega) e.symm)).trans (ST.out.r i hlt)
      have hO := hoff.own (ST.out.own i hlt) (fun ⟨j, hj, e⟩ => by have := ST.out.inj i j hlt (by omega) e; omega)
      have hW := hoff.own (ST.out.want i hlt) (fun ⟨j, hj, e⟩ => ST.out.nh j i (by omega) hlt e.symm)
      have hx : (X i).length ≤ 9223372036854775807 := by have := hO.form; unfold maxLen at this; omega
      have HEq := Lib.hid (fun n => eq_yes _ _ _ _ _ _ (X i) (X i) (wo.drewN n) (show Bys (wo.drewN n) (wo.drewN n).heap.size _ _ _ _ from hO.bys) (show Bys (wo.drewN n) (wo.drewN n).heap.size _ _ _ _ from hW.bys) rfl)
      have i0 : (0 : Int) ≤ (i : Int) := by omega
      have i4 : (i : Int) < 4 := by omega
      have HO := Lib.hid hO
      have HOFF := Lib.hid hoff
      clear hO hW hoff
      go_wp2_with fail
      go_quiet ((go_at_call 18; exact quiet_of (HEq.out _)))
      go_wp2_with fail
      go_loopw [64] (fun t wr => IRel W0 w.heap.size G C i (X i).length t wr) (fun t _ => (X i).length - (intOf t).toNat)
      case atStart => exact ⟨0, X i, rfl, by omega, rfl, HO.out, (HOFF.out.drewN nq).more (fun b ⟨j, hj, e⟩ => ⟨j, by omega, e⟩)⟩
      case round =>
        obtain ⟨k, Y, rfl, hk, hY, hOY, hoffY⟩ := hrel
        by_cases hkx : k < (X i).length
        · have hl2 := (hoffY.cell (p := ⟨gl, i, none⟩) (fun ⟨j, hj, e⟩ => ST.out.nl j (by omega) e.symm)).trans (ST.out.l i hlt)
          have hck := hOY.1.cellAt k (by omega)
          rw [cells_at Y k (by omega)] at hck
          have hfk := hOY.1.frozenAt k
          have hy256 := Pl.oct_getD hOY.oct k
          obtain ⟨y, hy⟩ : ∃ y, y = Y.getD k 0 := ⟨_, rfl⟩
          rw [← hy] at hck hy256
          have hxor : bits BinOp.xor IntKind.u8 (y : Int) 255 = ((y ^^^ 255 : Nat) : Int) := u8_xor_nat y 255 hy256 (by omega)
          have hx256 : y ^^^ 255 < 256 := Nat.xor_lt_two_pow (n := 8) hy256 (by omega)
          obtain ⟨z, hz⟩ : ∃ z, z = y ^^^ 255 := ⟨_, rfl⟩
          rw [← hz] at hxor hx256
          have HS := Lib.hid (hOY.set_ k z hx256)
          have HOF := Lib.hid hoffY
          have HY := Lib.hid hY
          clear hOY hoffY hY hy hz
          have ilen : (k : Int) < ((X i).length : Int) := by omega
          go_wp2_with fail
          go_roundw
          case rel => exact ⟨k + 1, Y.set k z, by go_num, by omega, by rw [List.length_set]; exact HY.out, HS.out.1, HOF.out.set_ (p := ⟨G i, k, none⟩) ⟨i, by omega, rfl⟩ _⟩
          case measure => simp [intOf]; omega
        · have HOF := Lib.hid hoffY
          clear hOY hoffY hY
          go_wp2_with fail
          go_roundw
          case rel => exact ⟨i + 1, by go_num, by omega, HOF.out⟩
          case measure => simp [intOf]; omega
    · have hi4 : i = 4 := by omega
      subst hi4
      have hnS : ∀ b, b < w1.heap.size → ¬ Upto G 4 b := fun b hb ⟨j, hj, e⟩ => by have := ST.out.up j hj; omega
      have HBo2 := Lib.hid ((hoff.bys HBo.out hnS))
      have HBb2 := Lib.hid ((hoff.bys HBb.out (fun b hb => hnS b (by omega))))
      have hbr : Below w.heap.size w wr := hoff.below hw0 (fun b hb => hnS b (by omega))
      have hsz : w1.heap.size ≤ wr.heap.size := by rw [hoff.size]; exact yW
      clear hoff
      go_wp2_with fail
      refine (awake_any wr).mono ?_
      rintro e w11 ⟨rfl, hb11⟩
      have hz11 := hb11.size
      have HE1 := Lib.hid (eq_yes _ _ _ _ _ _ bs bs w11 ((HBo2.out.below hb11 hsz).more (by omega)) ((HBb2.out.below hb11 (by omega)).more (by omega)) rfl)
      go_wp2_with fail
      refine HE1.out.mono ?_
      rintro e w' ⟨rfl, rfl⟩
      go_wp2_with fail
      refine (size_any n w11 HN.out).mono ?_
      rintro e w' ⟨rfl, rfl⟩
      go_wp2_with fail
      refine (refSize_any n w11 HN.out).mono ?_
      rintro e w12 ⟨rfl, hb12⟩
      go_wp2_with fail
      refine (fold_any s w12 hI).mono ?_
      rintro e w' ⟨rfl, rfl⟩
      go_wp2_with fail
      refine (refFold_any s w12 hI).mono ?_
      rintro e w' ⟨rfl, rfl⟩
      go_wp2_with fail
      refine (unfold_any n w12 HN.out).mono ?_
      rintro e w' ⟨rfl, rfl⟩
      go_wp2_with fail
      refine (refUnfold_any n w12 HN.out).mono ?_
      rintro e w' ⟨rfl, rfl⟩
      go_wp2_with fail
      go_ret
      have hz1 := hbr.size
      exact ⟨rfl, (hbr.trans (hb11.mono hz1)).trans (hb12.mono (by omega))⟩
end Go.Proofs.Ytolgomnkgmpnmaa.numPuts
