/-
  The walk of copybooklaw01.NumKnown: it returns true in every world, and turns nothing that was there. No conditions.
-/
import Derived.Test.YtolgomnkgmpnmaaNumE
import Derived.Deep.OwnRows
namespace Go.Proofs.Ytolgomnkgmpnmaa.numKnown
open Go.RowKit
/-- a byte of what is owned: its cell, and that it may be written -/
theorem spot {W : World} {base g cap : Nat} {bs : List Nat} (h : Own W base g cap bs) (i : Nat) (hi : i < bs.length) : (∃ v, W.cell? ⟨g, i, none⟩ = some v) ∧ W.frozen? ⟨g, i, none⟩ = false := by
  refine ⟨?_, h.1.frozenAt i⟩
  rw [h.1.cellAt i (by omega), cells_at bs i hi]
  exact ⟨_, rfl⟩
theorem enc0 : Pl.enc 0 = [0] := Pl.enc_lt (by omega)
theorem enc127 : Pl.enc 127 = [127] := Pl.enc_lt (by omega)
theorem enc128 : Pl.enc 128 = [128, 1] := by rw [Pl.enc_ge (by omega), Pl.enc_lt (by omega)]

set_option maxRecDepth 100000 in
set_option maxHeartbeats 400000 in
theorem get8_short (A : Option Addr) (n c : Nat) (w : World) (hn : n < 8) :
    Calls Try.prog 30 #[.slice A n c] w fun e' w' => e' = .returned (.tuple #[.int .u64 0, .int .i64 4]) ∧ w = w' := by
  have HU := Lib.hid (unfixed_short A n c 8 w hn)
  go_enter Try.func30, Try.ntmps30
  go_wp2_with (go_at_call 37; refine HU.out.mono ?_; rintro e w' ⟨rfl, rfl⟩)
  go_ret2
  exact ⟨rfl, rfl⟩

set_option maxRecDepth 100000 in
set_option maxHeartbeats 1000000 in
theorem walk (w : World) : Calls Try.prog 9 #[] w fun e w' => e = .returned (.bool true) ∧ Below w.heap.size w w' := by
  have hmk := fun W : World => run_make_row' (P := Try.prog) 22 5 (.int .u8 0) 1 Try.underlying22 infoByte rfl .i64 .i64 7 (by decide) (by decide) W
  have e7 : ((7 : Nat) : Int) = 7 := rfl
  rw [e7] at hmk
  clear e7
  go_enter Try.func9, Try.ntmps9
  go_wp2_with fail
  have O1 : Own (w.alloc (.cells #[.int .u8 255, .int .u8 255, .int .u8 255, .int .u8 255, .int .u8 255, .int .u8 255, .int .u8 255, .int .u8 255, .int .u8 255, .int .u8 1] 5)) w.heap.size w.heap.size 10 [255, 255, 255, 255, 255, 255, 255, 255, 255, 1] := own_lit w [255, 255, 255, 255, 255, 255, 255, 255, 255, 1] (oct_lit _ (by decide)) (by decide)
  have B1 : Below w.heap.size w (w.alloc (.cells #[.int .u8 255, .int .u8 255, .int .u8 255, .int .u8 255, .int .u8 255, .int .u8 255, .int .u8 255, .int .u8 255, .int .u8 255, .int .u8 1] 5)) := (Below.refl _ _).alloc (Nat.le_refl _) _
  generalize w.alloc (.cells #[.int .u8 255, .int .u8 255, .int .u8 255, .int .u8 255, .int .u8 255, .int .u8 255, .int .u8 255, .int .u8 255, .int .u8 255, .int .u8 1] 5) = W1 at O1 B1 ⊢
  refine (get_at _ _ _ _ W1 O1.bys 18446744073709551615 10 0 (by decide)).mono ?_
  rintro e w1 ⟨rfl, rfl⟩
  obtain ⟨⟨v1, c1⟩, f1⟩ := spot O1 9 (by decide)
  have O2 : Own (W1.setCell ⟨w.heap.size, 9, none⟩ (.int .u8 2)) w.heap.size w.heap.size 10 [255, 255, 255, 255, 255, 255, 255, 255, 255, 2] := (O1.set_ 9 2 (by decide)).1
  have B2 := B1.setCell (p := ⟨w.heap.size, 9, none⟩) (Nat.le_refl _) (.int .u8 2)
  have HO2 := Lib.hid O2
  clear O1 O2
  go_wp2_with fail
  clear c1 f1
  have O2 := HO2.out
  clear HO2
  generalize W1.setCell ⟨w.heap.size, 9, none⟩ (.int .u8 2) = W2 at O2 B2 ⊢
  refine (get_at _ _ _ _ W2 O2.bys 0 0 5 (by decide)).mono ?_
  rintro e w1 ⟨rfl, rfl⟩
  obtain ⟨⟨v2, c2⟩, f2⟩ := spot O2 9 (by decide)
  have O3 : Own (W2.setCell ⟨w.heap.size, 9, none⟩ (.int .u8 0)) w.heap.size w.heap.size 10 [255, 255, 255, 255, 255, 255, 255, 255, 255, 0] := (O2.set_ 9 0 (by decide)).1
  have B3 := B2.setCell (p := ⟨w.heap.size, 9, none⟩) (Nat.le_refl _) (.int .u8 0)
  have HO3 := Lib.hid O3
  clear O2 O3
  go_wp2_with fail
  clear c2 f2
  have O3 := HO3.out
  clear HO3
  generalize W2.setCell ⟨w.heap.size, 9, none⟩ (.int .u8 0) = W3 at O3 B3 ⊢
  refine (get_at _ _ _ _ W3 O3.bys 0 0 5 (by decide)).mono ?_
  rintro e w1 ⟨rfl, rfl⟩
  obtain ⟨⟨v3, c3⟩, f3⟩ := spot O3 9 (by decide)
  have O4 : Own (W3.setCell ⟨w.heap.size, 9, none⟩ (.int .u8 255)) w.heap.size w.heap.size 10 [255, 255, 255, 255, 255, 255, 255, 255, 255, 255] := (O3.set_ 9 255 (by decide)).1
  have B4 := B3.setCell (p := ⟨w.heap.size, 9, none⟩) (Nat.le_refl _) (.int .u8 255)
  have HO4 := Lib.hid O4
  clear O3 O4
  go_wp2_with fail
  clear c3 f3
  have O4 := HO4.out
  clear HO4
  generalize W3.setCell ⟨w.heap.size, 9, none⟩ (.int .u8 255) = W4 at O4 B4 ⊢
  refine (get_at _ _ _ _ W4 O4.bys 0 0 5 (by decide)).mono ?_
  rintro e w1 ⟨rfl, rfl⟩
  go_wp2_with fail
  refine (get_at _ _ _ _ W4 (O4.bys.upto (k := 9) (by decide)) 0 0 4 (by decide)).mono ?_
  rintro e w1 ⟨rfl, rfl⟩
  go_wp2_with fail
  refine (get_at none 0 0 [] W4 (Bys.none_ _ _) 0 0 4 (by decide)).mono ?_
  rintro e w1 ⟨rfl, rfl⟩
  clear O4
  go_wp2_with fail
  refine ((get4_at _ _ _ [1, 2, 3] _ ((bys_lit W4 [1, 2, 3] (oct_lit _ (by decide)) (by decide)).more (by simp)) 0 4 (by decide)).mono (R' := fun e w' => e = .returned (.tuple #[.int .u32 0, .int .i64 4]) ∧ Below W4.heap.size W4 w') (fun _ _ ⟨h1, h2⟩ => ⟨h1, h2 ▸ (Below.refl _ _).alloc (Nat.le_refl _) _⟩)).mono ?_
  rintro e w5 ⟨rfl, hb5⟩
  go_wp2_with fail
  refine (get8_short _ 7 7 _ (by decide)).mono ?_
  rintro e w1 ⟨rfl, rfl⟩
  have hb6 : Below w5.heap.size w5 (w5.alloc (Obj.cells (madeCells #[Value.int IntKind.u8 0] 7) 5)) := (Below.refl _ _).alloc (Nat.le_refl _) _
  generalize w5.alloc (Obj.cells (madeCells #[Value.int IntKind.u8 0] 7) 5) = w6 at hb6 ⊢
  clear hmk
  go_wp2_with fail
  refine (awake_any w6).mono ?_
  rintro e w7 ⟨rfl, hb7⟩
  go_wp2_with fail
  refine (put_any none 0 0 0 [] w7 (Bys.none_ _ _) (by omega) (Pl.U.mk (by omega))).mono ?_
  rintro e w8 ⟨g8, c8, rfl, hO8, hb8⟩
  go_wp2_with fail
  refine (eq_lit w8 _ g8 c8 _ [0] hO8 (by decide) (by decide) (by rw [List.nil_append]; exact enc0)).mono ?_
  rintro e w9 ⟨rfl, hb9⟩
  go_wp2_with fail
  refine (put_any none 0 0 127 [] w9 (Bys.none_ _ _) (by omega) (Pl.U.mk (by omega))).mono ?_
  rintro e w10 ⟨g10, c10, rfl, hO10, hb10⟩
  go_wp2_with fail
  refine (eq_lit w10 _ g10 c10 _ [127] hO10 (by decide) (by decide) (by rw [List.nil_append]; exact enc127)).mono ?_
  rintro e w11 ⟨rfl, hb11⟩
  go_wp2_with fail
  refine (put_any none 0 0 128 [] w11 (Bys.none_ _ _) (by omega) (Pl.U.mk (by omega))).mono ?_
  rintro e w12 ⟨g12, c12, rfl, hO12, hb12⟩
  go_wp2_with fail
  refine (eq_lit w12 _ g12 c12 _ [128, 1] hO12 (by decide) (by decide) (by rw [List.nil_append]; exact enc128)).mono ?_
  rintro e w13 ⟨rfl, hb13⟩
  go_wp2_with fail
  refine (fold_any (-1) w13 (Pl.I.mk (by omega))).mono ?_
  rintro e w' ⟨rfl, rfl⟩
  have k1 : Pl.fold (-1) = 1 := by decide
  rw [k1]
  go_wp2_with fail
  refine (fold_any 1 w13 (Pl.I.mk (by omega))).mono ?_
  rintro e w' ⟨rfl, rfl⟩
  have k2 : Pl.fold 1 = 2 := by decide
  rw [k2]
  go_wp2_with fail
  refine (fold_any (-9223372036854775808) w13 (Pl.I.mk (by omega))).mono ?_
  rintro e w' ⟨rfl, rfl⟩
  have k3 : Pl.fold (-9223372036854775808) = 18446744073709551615 := by decide
  rw [k3]
  clear k1 k2 k3
  go_wp2_with fail
  go_ret
  refine ⟨rfl, ?_⟩
  have s4 := B4.size; have s5 := hb5.size; have s6 := hb6.size; have s7 := hb7.size; have s8 := hb8.size; have s9 := hb9.size; have s10 := hb10.size; have s11 := hb11.size; have s12 := hb12.size
  exact ((((((((B4.trans (hb5.mono (by omega))).trans (hb6.mono (by omega))).trans (hb7.mono (by omega))).trans (hb8.mono (by omega))).trans (hb9.mono (by omega))).trans (hb10.mono (by omega))).trans (hb11.mono (by omega))).trans (hb12.mono (by omega))).trans (hb13.mono (by omega))
end Go.Proofs.Ytolgomnkgmpnmaa.numKnown
