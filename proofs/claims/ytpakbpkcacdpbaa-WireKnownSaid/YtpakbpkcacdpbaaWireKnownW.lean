/-
  The walk of copybooklaw03.WireKnown: it returns true and turns nothing that was there.
-/
import Derived.Test.YtpakbpkcacdpbaaWireH
namespace Go.Proofs.Ytpakbpkcacdpbaa.wireKnown
open Go.RowKit

theorem rbA : Pl.rb [2] 0 1 5 = (0, [], 5) := by decide
theorem rbyB : Pl.rby [5, 97] 0 9 = ([], [], 4) := by decide
theorem rbyC : Pl.rby [1, 97] 0 0 = ([], [], 3) := by decide
theorem rbyD : Pl.rby [0] 0 0 = ([], [], 0) := by decide
theorem rfF0 : Pl.rf [] 0 0 = ([], 0) := by decide
theorem reF : Pl.re_ [] 0 = ([], 0) := by decide
theorem rfF1 : Pl.rf [] 0 20 = ([], 20) := by decide
theorem rfF2 : Pl.rf [] 20 5 = ([], 20) := by decide
theorem rfN : Pl.rf [] 2 20 = ([], 2) := by decide
theorem reD : Pl.re_ [] 0 = ([], 0) := by decide
theorem rnF : Pl.rn [] 20 = (0, [], 20) := by decide
theorem rnN : Pl.rn [] 2 = (0, [], 2) := by decide
theorem reN : Pl.re_ [] 2 = ([], 2) := by decide
theorem rbyN5 : Pl.rby [] 2 5 = ([], [], 2) := by decide
theorem rbyN3 : Pl.rby [] 2 3 = ([], [], 2) := by decide
theorem rbN4 : Pl.rb [] 2 4 3 = (0, [], 2) := by decide
theorem rbNb : Pl.rb [] 2 1 5 = (0, [], 2) := by decide
theorem strx : strOfNums (ints [120]) = ⟨#[120]⟩ := by decide
theorem octx : Pl.Oct [120] := oct_lit _ (by decide)
theorem rd_zero (w : World) : Rd (w.alloc (.cells #[.bool false, .slice none 0 0, .int .i64 0, .int .i64 0] 72)) (some ⟨w.heap.size, 0, none⟩) (fun b => b = w.heap.size) [] 2 :=
  ⟨fun b hb => by simp [hb], Pl.I.mk (by omega), Or.inr (Or.inl ⟨w.heap.size, _, _, _, rfl, rfl, by rw [heap_alloc_new], rfl, rfl⟩)⟩

set_option maxRecDepth 100000 in
set_option maxHeartbeats 4000000 in
theorem walk (w : World) : Calls Try.prog 8 #[] w fun e w' => e = .returned (.bool true) ∧ Below w.heap.size w w' := by
  have HC := Lib.hid (awake_any w)
  go_enter Try.func8, Try.ntmps8
  go_wp2_with fail
  refine HC.out.mono ?_
  rintro en w1 ⟨rfl, B1⟩
  have z1 := B1.size
  clear HC
  have HC := Lib.hid (new_lit w1 [2] (by decide) (by decide))
  go_wp2_with fail
  refine HC.out.mono ?_
  rintro en w2 ⟨pa, rfl, Ra, hb⟩
  have B2 : Below w.heap.size w w2 := B1.trans (hb.mono (by omega))
  have z2 := hb.size
  clear HC hb
  have HC := Lib.hid (bool_any _ _ _ _ w2 Ra)
  rw [rbA] at HC
  go_wp2_with fail
  refine HC.out.mono ?_
  rintro en w3 ⟨rfl, hR, hT⟩
  have hT := hT.iv Ra
  have B3 := hT.belowIv B2 (by omega) (by omega)
  have z3 := hT.size
  have Ra := hR
  clear HC hT hR
  have HC := Lib.hid (new_lit w3 [5, 97] (by decide) (by decide))
  go_wp2_with fail
  refine HC.out.mono ?_
  rintro en w4 ⟨pb, rfl, Rb, hb⟩
  have B4 : Below w.heap.size w w4 := B3.trans (hb.mono (by omega))
  have z4 := hb.size
  have Ra := Ra.below hb
  clear HC hb
  have HC := Lib.hid (rbytes_any _ _ _ _ 9 w4 Rb (Pl.I.mk (by omega)) (by simp))
  simp only [show (9 : Int).toNat = 9 from rfl] at HC
  rw [rbyB] at HC
  go_wp2_with fail
  refine HC.out.mono ?_
  rintro en w5 ⟨A5, c5, rfl, _, hR, hT⟩
  have hT := hT.iv Rb
  have B5 := hT.belowIv B4 (by omega) (by omega)
  have z5 := hT.size
  have Ra := Ra.kiv hT (by omega)
  have Rb := hR
  clear HC hT hR
  have HC := Lib.hid (new_lit w5 [1, 97] (by decide) (by decide))
  go_wp2_with fail
  refine HC.out.mono ?_
  rintro en w6 ⟨pc, rfl, Rc, hb⟩
  have B6 : Below w.heap.size w w6 := B5.trans (hb.mono (by omega))
  have z6 := hb.size
  have Ra := Ra.below hb
  have Rb := Rb.below hb
  clear HC hb
  have HC := Lib.hid (rbytes_any _ _ _ _ (-1) w6 Rc (Pl.I.mk (by omega)) (by simp))
  simp only [show (-1 : Int).toNat = 0 from rfl] at HC
  rw [rbyC] at HC
  go_wp2_with fail
  refine HC.out.mono ?_
  rintro en w7 ⟨A7, c7, rfl, _, hR, hT⟩
  have hT := hT.iv Rc
  have B7 := hT.belowIv B6 (by omega) (by omega)
  have z7 := hT.size
  have Ra := Ra.kiv hT (by omega)
  have Rb := Rb.kiv hT (by omega)
  have Rc := hR
  clear HC hT hR
  have HC := Lib.hid (new_lit w7 [0] (by decide) (by decide))
  go_wp2_with fail
  refine HC.out.mono ?_
  rintro en w8 ⟨pd, rfl, Rd, hb⟩
  have B8 : Below w.heap.size w w8 := B7.trans (hb.mono (by omega))
  have z8 := hb.size
  have Ra := Ra.below hb
  have Rb := Rb.below hb
  have Rc := Rc.below hb
  clear HC hb
  have HC := Lib.hid (rbytes_any _ _ _ _ (-1) w8 Rd (Pl.I.mk (by omega)) (by simp))
  simp only [show (-1 : Int).toNat = 0 from rfl] at HC
  rw [rbyD] at HC
  go_wp2_with fail
  refine HC.out.mono ?_
  rintro en w9 ⟨A9, c9, rfl, _, hR, hT⟩
  have hT := hT.iv Rd
  have B9 := hT.belowIv B8 (by omega) (by omega)
  have z9 := hT.size
  have Ra := Ra.kiv hT (by omega)
  have Rb := Rb.kiv hT (by omega)
  have Rc := Rc.kiv hT (by omega)
  have Rd := hR
  clear HC hT hR
  have HC := Lib.hid (new_iv none 0 0 [] w9 (Bys.none_ _ _) (by omega))
  go_wp2_with fail
  refine HC.out.mono ?_
  rintro en w10 ⟨pf, rfl, Rf, hb⟩
  have B10 : Below w.heap.size w w10 := B9.trans (hb.mono (by omega))
  have z10 := hb.size
  have Ra := Ra.below hb
  have Rb := Rb.below hb
  have Rc := Rc.below hb
  have Rd := Rd.below hb
  clear HC hb
  have HC := Lib.hid (rfail_any _ _ _ _ 0 w10 Rf (Pl.I.mk (by omega)))
  rw [rfF0] at HC
  go_wp2_with fail
  refine HC.out.mono ?_
  rintro en w11 ⟨rfl, hR, hT⟩
  have hT := hT.iv Rf
  have B11 := hT.belowIv B10 (by omega) (by omega)
  have z11 := hT.size
  have Ra := Ra.kiv hT (by omega)
  have Rb := Rb.kiv hT (by omega)
  have Rc := Rc.kiv hT (by omega)
  have Rd := Rd.kiv hT (by omega)
  have Rf := hR
  clear HC hT hR
  have HC := Lib.hid (end_any _ _ _ _ w11 Rf)
  rw [reF] at HC
  go_wp2_with fail
  refine HC.out.mono ?_
  rintro en w12 ⟨rfl, hR, hT⟩
  have hT := hT.iv Rf
  have B12 := hT.belowIv B11 (by omega) (by omega)
  have z12 := hT.size
  have Ra := Ra.kiv hT (by omega)
  have Rb := Rb.kiv hT (by omega)
  have Rc := Rc.kiv hT (by omega)
  have Rd := Rd.kiv hT (by omega)
  have Rf := hR
  clear HC hT hR
  have HC := Lib.hid (rfail_any _ _ _ _ 20 w12 Rf (Pl.I.mk (by omega)))
  rw [rfF1] at HC
  go_wp2_with fail
  refine HC.out.mono ?_
  rintro en w13 ⟨rfl, hR, hT⟩
  have hT := hT.iv Rf
  have B13 := hT.belowIv B12 (by omega) (by omega)
  have z13 := hT.size
  have Ra := Ra.kiv hT (by omega)
  have Rb := Rb.kiv hT (by omega)
  have Rc := Rc.kiv hT (by omega)
  have Rd := Rd.kiv hT (by omega)
  have Rf := hR
  clear HC hT hR
  have HC := Lib.hid (rfail_any _ _ _ _ 5 w13 Rf (Pl.I.mk (by omega)))
  rw [rfF2] at HC
  go_wp2_with fail
  refine HC.out.mono ?_
  rintro en w14 ⟨rfl, hR, hT⟩
  have hT := hT.iv Rf
  have B14 := hT.belowIv B13 (by omega) (by omega)
  have z14 := hT.size
  have Ra := Ra.kiv hT (by omega)
  have Rb := Rb.kiv hT (by omega)
  have Rc := Rc.kiv hT (by omega)
  have Rd := Rd.kiv hT (by omega)
  have Rf := hR
  clear HC hT hR
  have HC := Lib.hid (rfail_any _ _ _ _ 20 w14 (rd_nil w14) (Pl.I.mk (by omega)))
  rw [rfN] at HC
  go_wp2_with fail
  refine HC.out.mono ?_
  rintro en w15 ⟨rfl, hR, hT⟩
  have hb := hT.iv0
  have B15 : Below w.heap.size w w15 := B14.trans (hb.mono (by omega))
  have z15 := hb.size
  have Ra := Ra.below hb
  have Rb := Rb.below hb
  have Rc := Rc.below hb
  have Rd := Rd.below hb
  have Rf := Rf.below hb
  clear HC hb hT hR
  have HC := Lib.hid (wnum_nil 1 w15 U1)
  go_wp2_with fail
  refine HC.out.mono ?_
  rintro en w16 ⟨rfl, hb⟩
  have B16 : Below w.heap.size w w16 := B15.trans (hb.mono (by omega))
  have z16 := hb.size
  have Ra := Ra.below hb
  have Rb := Rb.below hb
  have Rc := Rc.below hb
  have Rd := Rd.below hb
  have Rf := Rf.below hb
  clear HC hb
  have HC := Lib.hid (wstr_nil ⟨#[120]⟩ 120 w16 strx.symm octx)
  go_wp2_with fail
  refine HC.out.mono ?_
  rintro en w17 ⟨rfl, hb⟩
  have B17 : Below w.heap.size w w17 := B16.trans (hb.mono (by omega))
  have z17 := hb.size
  have Ra := Ra.below hb
  have Rb := Rb.below hb
  have Rc := Rc.below hb
  have Rd := Rd.below hb
  have Rf := Rf.below hb
  clear HC hb
  have HC := Lib.hid (wbytes_nil w17)
  go_wp2_with fail
  refine HC.out.mono ?_
  rintro en w18 ⟨rfl, hb⟩
  have B18 : Below w.heap.size w w18 := B17.trans (hb.mono (by omega))
  have z18 := hb.size
  have Ra := Ra.below hb
  have Rb := Rb.below hb
  have Rc := Rc.below hb
  have Rd := Rd.below hb
  have Rf := Rf.below hb
  clear HC hb
  have HC := Lib.hid (err_any _ _ _ _ w18 Ra)
  go_wp2_with fail
  refine HC.out.mono ?_
  rintro en w' ⟨rfl, rfl⟩
  clear HC
  have HC := Lib.hid (err_any _ _ _ _ w18 Rb)
  go_wp2_with fail
  refine HC.out.mono ?_
  rintro en w' ⟨rfl, rfl⟩
  clear HC
  have HC := Lib.hid (err_any _ _ _ _ w18 Rc)
  go_wp2_with fail
  refine HC.out.mono ?_
  rintro en w' ⟨rfl, rfl⟩
  clear HC
  have HC := Lib.hid (end_any _ _ _ _ w18 Rd)
  rw [reD] at HC
  go_wp2_with fail
  refine HC.out.mono ?_
  rintro en w19 ⟨rfl, hR, hT⟩
  have hT := hT.iv Rd
  have B19 := hT.belowIv B18 (by omega) (by omega)
  have z19 := hT.size
  have Ra := Ra.kiv hT (by omega)
  have Rb := Rb.kiv hT (by omega)
  have Rc := Rc.kiv hT (by omega)
  have Rf := Rf.kiv hT (by omega)
  have Rd := hR
  clear HC hT hR
  have HC := Lib.hid (err_any _ _ _ _ w19 Rf)
  go_wp2_with fail
  refine HC.out.mono ?_
  rintro en w' ⟨rfl, rfl⟩
  clear HC
  have HC := Lib.hid (rnum_any _ _ _ _ w19 Rf)
  rw [rnF] at HC
  go_wp2_with fail
  refine HC.out.mono ?_
  rintro en w20 ⟨rfl, hR, hT⟩
  have hT := hT.iv Rf
  have B20 := hT.belowIv B19 (by omega) (by omega)
  have z20 := hT.size
  have Ra := Ra.kiv hT (by omega)
  have Rb := Rb.kiv hT (by omega)
  have Rc := Rc.kiv hT (by omega)
  have Rd := Rd.kiv hT (by omega)
  have Rf := hR
  clear HC hT hR
  have HC := Lib.hid (err_any _ _ _ _ w20 (rd_nil w20))
  go_wp2_with fail
  refine HC.out.mono ?_
  rintro en w' ⟨rfl, rfl⟩
  clear HC
  have HC := Lib.hid (rnum_any _ _ _ _ w20 (rd_nil w20))
  rw [rnN] at HC
  go_wp2_with fail
  refine HC.out.mono ?_
  rintro en w21 ⟨rfl, hR, hT⟩
  have hb := hT.iv0
  have B21 : Below w.heap.size w w21 := B20.trans (hb.mono (by omega))
  have z21 := hb.size
  have Ra := Ra.below hb
  have Rb := Rb.below hb
  have Rc := Rc.below hb
  have Rd := Rd.below hb
  have Rf := Rf.below hb
  clear HC hb hT hR
  have HC := Lib.hid (end_any _ _ _ _ w21 (rd_nil w21))
  rw [reN] at HC
  go_wp2_with fail
  refine HC.out.mono ?_
  rintro en w22 ⟨rfl, hR, hT⟩
  have hb := hT.iv0
  have B22 : Below w.heap.size w w22 := B21.trans (hb.mono (by omega))
  have z22 := hb.size
  have Ra := Ra.below hb
  have Rb := Rb.below hb
  have Rc := Rc.below hb
  have Rd := Rd.below hb
  have Rf := Rf.below hb
  clear HC hb hT hR
  have HC := Lib.hid (left_any _ _ _ _ w22 (rd_nil w22))
  go_wp2_with fail
  refine HC.out.mono ?_
  rintro en w' ⟨rfl, nd, rfl⟩
  clear HC
  obtain ⟨w23, hw23⟩ : ∃ w0, w0 = w22.drewN nd := ⟨_, rfl⟩
  have B23 : Below w.heap.size w w23 := by rw [hw23]; exact ⟨B22.os, B22.tape, B22.output, B22.size, B22.block⟩
  rw [← hw23]
  clear hw23
  have z23 := B23.size
  have HC := Lib.hid (rbytes_any _ _ _ _ 5 w23 (rd_nil w23) (Pl.I.mk (by omega)) (by simp))
  simp only [show (5 : Int).toNat = 5 from rfl] at HC
  rw [rbyN5] at HC
  go_wp2_with fail
  refine HC.out.mono ?_
  rintro en w24 ⟨A24, c24, rfl, _, hR, hT⟩
  have hb := hT.iv0
  have B24 : Below w.heap.size w w24 := B23.trans (hb.mono (by omega))
  have z24 := hb.size
  clear HC hb hT hR
  have HC := Lib.hid (count_any _ _ _ _ 4 w24 (rd_nil w24) (Pl.I.mk (by omega)))
  simp only [show (4 : Int).toNat = 4 from rfl] at HC
  rw [rbN4] at HC
  go_wp2_with fail
  refine HC.out.mono ?_
  rintro en w25 ⟨rfl, hR, hT⟩
  have hb := hT.iv0
  have B25 : Below w.heap.size w w25 := B24.trans (hb.mono (by omega))
  have z25 := hb.size
  clear HC hb hT hR
  have HC := Lib.hid (bool_any _ _ _ _ w25 (rd_nil w25))
  rw [rbNb] at HC
  go_wp2_with fail
  refine HC.out.mono ?_
  rintro en w26 ⟨rfl, hR, hT⟩
  have hb := hT.iv0
  have B26 : Below w.heap.size w w26 := B25.trans (hb.mono (by omega))
  have z26 := hb.size
  clear HC hb hT hR
  have HC := Lib.hid (rint_any _ _ _ _ w26 (rd_nil w26))
  rw [rnN, show Pl.unfold ((0, [], 2) : Nat × List Nat × Int).1 = 0 from rfl] at HC
  go_wp2_with fail
  refine HC.out.mono ?_
  rintro en w27 ⟨rfl, hR, hT⟩
  have hb := hT.iv0
  have B27 : Below w.heap.size w w27 := B26.trans (hb.mono (by omega))
  have z27 := hb.size
  clear HC hb hT hR
  have HC := Lib.hid (rstr_any _ _ _ _ 3 w27 (rd_nil w27) (Pl.I.mk (by omega)))
  simp only [show (3 : Int).toNat = 3 from rfl] at HC
  rw [rbyN3, show strOfNums (ints (([], [], 2) : List Nat × List Nat × Int).1) = ⟨#[]⟩ from rfl] at HC
  go_wp2_with fail
  refine HC.out.mono ?_
  rintro en w28 ⟨rfl, hR, hT⟩
  have hb := hT.iv0
  have B28 : Below w.heap.size w w28 := B27.trans (hb.mono (by omega))
  have z28 := hb.size
  clear HC hb hT hR
  have HC := Lib.hid (upto_any _ _ _ _ 4 w28 (rd_nil w28))
  rw [rbN4] at HC
  go_wp2_with fail
  refine HC.out.mono ?_
  rintro en w29 ⟨rfl, hR, hT⟩
  have hb := hT.iv0
  have B29 : Below w.heap.size w w29 := B28.trans (hb.mono (by omega))
  have z29 := hb.size
  clear HC hb hT hR
  have HC := Lib.hid (out_nil w29)
  go_wp2_with fail
  refine HC.out.mono ?_
  rintro en w' ⟨rfl, rfl⟩
  clear HC
  have HC := Lib.hid (err_any _ _ _ _ _ (rd_zero w29))
  go_wp2_with fail
  refine HC.out.mono ?_
  rintro en w' ⟨rfl, rfl⟩
  clear HC
  go_wp2_with fail
  go_ret
  exact ⟨rfl, B29.alloc (by omega) _⟩
end Go.Proofs.Ytpakbpkcacdpbaa.wireKnown
