/-
  The walk of copybooklaw03.WireWrites: it returns true for every list of things and turns nothing that was there.
-/
import Derived.Test.YtpakbpkcacdpbaaWireU
namespace Go.Proofs.Ytpakbpkcacdpbaa.wireWrites
open Go.RowKit

/-- ahead of the round j: bs is written, and want reads bs too -/
def Rel (w : World) (n : Nat) (v i : Value) (wr : World) : Prop :=
  ∃ (j : Nat) (A : Option Addr) (c : Nat) (bs : List Nat) (F : Nat → Prop), i = .int .i64 (j : Int) ∧ j ≤ n ∧ j ≤ 60 ∧ v = .slice A bs.length c ∧ Bys wr wr.heap.size A bs.length c bs ∧ Apart F A bs.length ∧ Wr wr w.heap.size F bs ∧
    (∀ b, F b → w.heap.size ≤ b) ∧ bs.length ≤ 320 * j ∧ Below w.heap.size w wr

theorem I_wrap (N : Nat) : Pl.I (wrap64 (N : Int)) := by
  unfold wrap64
  exact Pl.I.mk (by omega)
set_option maxRecDepth 100000 in
set_option maxHeartbeats 8000000 in
theorem walk (w : World) (A0 : Option Addr) (n c0 : Nat) (l : List Thg) (hT : Things w w.heap.size A0 n c0 l) : Calls Try.prog 3 #[.slice A0 n c0] w fun e w' => e = .returned (.bool true) ∧ Below w.heap.size w w' := by
  have hn := hT.2.1
  have hc := hT.2.2.1
  unfold maxLen at hc
  have hb0 : Below w.heap.size w (w.alloc (.cells #[.pointer none, .int .i64 0] 25)) := (Below.refl _ _).alloc (Nat.le_refl _) _
  have HW0 := Lib.hid (wr_new w)
  have HT := Lib.hid hT
  clear hT
  go_enter Try.func3, Try.ntmps3
  go_wp2_with fail
  go_loopw [4, 14] (fun v i wr => Rel w n v i wr) (fun _ i _ => n - (intOf i).toNat)
  case atStart => exact ⟨0, none, 0, [], _, rfl, by omega, by omega, rfl, Bys.none_ _ _, Apart.none_ _ _, HW0.out, fun b hb => Nat.le_of_eq (Eq.symm hb), by simp, hb0⟩
  case round =>
    obtain ⟨wo, rfl⟩ : ∃ wo : World, wo = wr := ⟨_, rfl⟩
    obtain ⟨j, A, c, bs, F, rfl, hj, h60, rfl, hB, hA, hW, hF, hbl, hb⟩ := hrel
    by_cases hlt : j < n ∧ j < 60
    · obtain ⟨hlt, hlt6⟩ := hlt
      obtain ⟨g, o, A', m, c', rfl, hg, x0, hI0, x1, hU1, x2, hB2⟩ := (HT.out.below hb (Nat.le_refl _)).2.2.2 j hlt
      obtain ⟨⟨what, N, ts⟩, ht⟩ : ∃ t, t = l.getD j default := ⟨_, rfl⟩
      rw [← ht] at x0 hI0 x1 hU1 hB2
      simp only at x0 hI0 x1 hU1 hB2
      clear ht
      have b60 : ((j : Int) == 60) = false := by rw [beq_eq_false_iff_ne]; omega
      obtain ⟨M, hM1, hM2, _, hmin0⟩ := min_run m 300
      have hmin : ∀ (w' : World) (ts : Array TypeId) (t : TypeId), (Builtin.min_ ts t #[.int .i64 (m : Int), .int .i64 300]).run Try.prog w' = .ok (.int .i64 (M : Int)) w' := hmin0
      clear hmin0
      have hFl := hW.lt
      have hsl := slice_to A' m c' M (by have := hB2.le; omega)
      have hm9 : m ≤ 9223372036854775807 := by have := hB2.cap; have := hB2.le; unfold maxLen at *; omega
      obtain ⟨W1, hW1⟩ : ∃ W1, W1 = wo.alloc (.cells #[.int .i64 what, .int .u64 (N : Int), .slice A' m c'] 29) := ⟨_, rfl⟩
      have hb1 : Below wo.heap.size wo W1 := by rw [hW1]; exact (Below.refl _ _).alloc (Nat.le_refl _) _
      have hq1 : W1.heap[wo.heap.size]? = some (.cells #[.int .i64 what, .int .u64 (N : Int), .slice A' m c'] 29 (0, 0)) := by rw [hW1, heap_alloc_new]
      have z0 := hb.size
      have z1 := hb1.size
      have hb1' : Below w.heap.size w W1 := hb.trans (hb1.mono z0)
      have hBa : 0 < M → ∃ g o, A' = some ⟨g, o, none⟩ ∧ g < w.heap.size := fun h0 => by
        obtain ⟨g', o', e', hg', _⟩ := hB2.at_ (i := 0) (by omega)
        exact ⟨g', o', e', hg'⟩
      obtain ⟨T, hTd⟩ : ∃ T, T = ts.take M := ⟨_, rfl⟩
      have hBt : Bys W1 W1.heap.size A' M c' T := by rw [hTd]; exact ((hB2.upto hM1).below (hb1.mono z0) (Nat.le_refl _)).more (by omega)
      have HO := Lib.hid (refOwn_any A' M c' T W1 hBt (by omega))
      have hW1' := hW.below hb1
      have hB1 := (hB.below hb1 (Nat.le_refl _)).more z1
      have H1 := Lib.hid (And.intro hB1 (And.intro hA (And.intro hW1' (And.intro hF (And.intro hbl (And.intro hb1' (And.intro hBt hq1)))))))
      have HW := Lib.hid hW1
      have HTd := Lib.hid hTd
      have HT' := Lib.hid hBa
      clear hB hA hW hF hB2 hW1' hB1 hbl hb1' hBt hW1 hTd hBa
      go_wp2_with fail
      rw [← HW.out]
      clear hmin hsl x0 x1 x2 HW
      refine HO.out.mono ?_
      rintro e W2 ⟨Ao, co, rfl, hVo, hb2⟩
      obtain ⟨hB, hA, hW, hF, hbl, hbw, hBt, hq⟩ := H1.out
      have z2 := hb2.size
      rw [hBt.len] at hVo ⊢
      have HLT := Lib.hid hBt.len
      have z1' := lt_of_block hq
      have q0 := cell0 ((hb2.block _ (lt_of_block hq)).trans hq)
      have q1 := cell1 ((hb2.block _ (lt_of_block hq)).trans hq)
      have hW2 := hW.below hb2
      have hB2 := (hB.below hb2 (Nat.le_refl _)).more z2
      have hbw2 : Below w.heap.size w W2 := hbw.trans (hb2.mono (by omega))
      have hBt2 := (hBt.below hb2 (Nat.le_refl _)).more z2
      have hVo' := hVo.lower (b2 := w.heap.size) (by omega)
      have hFo : ∀ g, Value.ownBlock (.slice Ao M co) = some g → ¬ F g := fun g hg hf => by have a1 := (hVo.lt g hg).1; have a2 := hW.lt g hf; omega
      have hTq : ∀ W3, Tn F W2 W3 → W3.cell? ⟨wo.heap.size, 1, none⟩ = some (.int .u64 (N : Int)) := fun W3 h => (h.cell (p := ⟨wo.heap.size, 1, none⟩) (by simp; omega) (fun hf => by have := hFl _ hf; simp at this)).trans q1
      have HVW := Lib.hid (fun g hg => (hVo.lt g hg).1)
      have HBW := Lib.hid (fun (h0 : 0 < bs.length) => hB.at_ h0)
      have H2 := Lib.hid (And.intro hB2 (And.intro hA (And.intro hW2 (And.intro hF (And.intro hbl (And.intro hbw2 (And.intro hBt2 (And.intro hVo' (And.intro hFo hTq)))))))))
      clear hB hA hW hF hbl hbw hBt hq hVo hW2 hB2 hbw2 hBt2 hVo' hFo hTq H1 HO hb1 hb2
      by_cases k0 : what = 0
      · subst k0
        obtain ⟨hB2, hA, hW2, hF, hbl, hbw2, hBt2, hVo', hFo, hTq⟩ := H2.out
        have hlY : (bs ++ Pl.enc N).length ≤ 320 * (j + 1) := by rw [List.length_append, Pl.len_enc]; have := Pl.sz_le10 hU1.out; omega
        have HC := Lib.hid (wnum_any _ F bs N W2 hW2 hU1 (by omega))
        clear hB2 hA hW2 hF hbl hbw2 hBt2 hVo' hFo hTq
        go_wp2_with fail
        refine HC.out.mono ?_
        rintro e W3 ⟨rfl, hw3⟩
        replace hw3 : Wrote W2 w.heap.size F (bs ++ Pl.enc N) W3 := hw3
        obtain ⟨hB2, hA, hW2, hF, hbl, hbw2, hBt2, hVo', hFo, hTq⟩ := H2.out
        have hw3' := hw3
        obtain ⟨F3, _, ht3, _, _⟩ := hw3'
        have q3 := hTq W3 ht3
        have hB3 := ht3.bys hB2 hA
        have hBt3 : Bys W3 W3.heap.size A' M c' T := ht3.bys hBt2 (fun h0 ad e hf => by
          obtain ⟨g', o', e', hg'⟩ := HT'.out h0
          rw [e] at e'
          cases e'
          have := hF _ hf
          simp at this
          omega)
        have HP := Lib.hid (refPut_any A bs.length c N bs W3 hB3 (by omega) hU1)
        clear hB2 hA hW2 hF hbl hbw2 hBt2 hVo' hFo hTq
        clear hB3 hBt3
        go_wp2_with fail
        refine HP.out.mono ?_
        rintro e W4 ⟨gw, cw, rfl, hO4, hb4⟩
        obtain ⟨hB2, hA, hW2, hF, hbl, hbw2, hBt2, hVo', hFo, hTq⟩ := H2.out
        have AFT := Lib.hid (aft_put hVo' hF hFo hbw2 hw3 hO4 hb4)
        obtain ⟨Y, hY⟩ : ∃ Y, Y = bs ++ Pl.enc N := ⟨_, rfl⟩
        obtain ⟨Av, hAv⟩ : ∃ Av : Option Addr, Av = some ⟨gw, 0, none⟩ := ⟨_, rfl⟩
        rw [← hY, ← hAv] at AFT
        rw [← hY] at hlY
        rw [← hY, ← hAv]
        obtain ⟨cv, hcv⟩ : ∃ cv, cv = cw := ⟨_, rfl⟩
        obtain ⟨V, hVV⟩ : ∃ V, V = W4 := ⟨_, rfl⟩
        rw [← hcv, ← hVV] at AFT
        rw [← hcv, ← hVV]
        clear hY hAv hcv hVV hO4 hb4 hw3 HP HC q3 ht3 H2 q0 q1
        clear hB2 hA hW2 hF hbl hbw2 hBt2 hVo' hFo hTq
        go_wp2_with fail
        go_loopw [82] (fun t wr => XRel V w.heap.size Ao M co t wr) (fun t _ => M - (intOf t).toNat)
        case atStart =>
          obtain ⟨_, ⟨os, hVV⟩, _⟩ := AFT.out
          exact XRel.start hVV
        case round =>
          obtain ⟨k, Z, rfl, hk, hZ, hVZ, hTZ⟩ := hrel
          obtain ⟨wp, rfl⟩ : ∃ wp : World, wp = wr := ⟨_, rfl⟩
          by_cases hkx : k < M
          · obtain ⟨gz, rfl, _, hOZ⟩ := hVZ.pos_ (by omega)
            have hck := hOZ.1.cellAt k (by omega)
            rw [cells_at Z k (by omega)] at hck
            have hfk := hOZ.1.frozenAt k
            have hy256 := Pl.oct_getD hOZ.oct k
            obtain ⟨y, hy⟩ : ∃ y, y = Z.getD k 0 := ⟨_, rfl⟩
            rw [← hy] at hck hy256
            have hxor : bits BinOp.xor IntKind.u8 (y : Int) 255 = ((y ^^^ 255 : Nat) : Int) := u8_xor_nat y 255 hy256 (by omega)
            have hx256 : y ^^^ 255 < 256 := Nat.xor_lt_two_pow (n := 8) hy256 (by omega)
            obtain ⟨z, hz⟩ : ∃ z, z = y ^^^ 255 := ⟨_, rfl⟩
            rw [← hz] at hxor hx256
            have HS := Lib.hid (XRel.next (k := k) (z := z) hZ hOZ hTZ hx256)
            have HZ := Lib.hid hZ
            clear hOZ hTZ hVZ hZ hy hz
            go_wp2_with fail
            go_roundw
            case rel => exact ⟨k + 1, Z.set k z, by go_num, by omega, by rw [List.length_set]; exact HZ.out, HS.out.1, HS.out.2⟩
            case measure => simp [intOf]; omega
          · obtain ⟨F, _, hW, hF, hB, hA, hO, hb⟩ := AFT.out
            have hzV := hb.size
            have hW6 := hW.keep hTZ (fun b h1 h2 => (hO b h2).1 h1)
            have hB6 := hTZ.bys hB (fun h0 ad e hx => (hO _ hx).2 h0 ad e rfl)
            have hb6 := hTZ.below hb hzV (fun b hb => (hVZ.lt b hb).1)
            have HOUT := Lib.hid (out_any _ F Y wp hW6 (by omega))
            have H6 := Lib.hid (And.intro hF (And.intro hA (And.intro hW6 (And.intro hB6 hb6))))
            clear hVZ hTZ hW hF hB hA hO hb hW6 hB6 hb6 AFT hZ
            go_wp2_with fail
            refine HOUT.out.mono ?_
            rintro e V3 ⟨A5, c5, rfl, hV5, hb5⟩
            obtain ⟨hF, hA, hW6, hB6, hb6⟩ := H6.out
            have hz5 := hb5.size
            have hz6 := hb6.size
            have HEQ := Lib.hid (eq_yes _ _ _ _ _ _ Y Y V3 hV5.bys.2 ((hB6.below hb5 (Nat.le_refl _)).more hz5) rfl)
            have hlY9 : Y.length ≤ 9223372036854775807 := by omega
            clear hF hA hW6 hB6 hb6
            go_wp2_with fail
            refine HEQ.out.mono ?_
            rintro e w' ⟨rfl, rfl⟩
            go_wp2_with fail
            go_loopw [99] (fun t wr => XRel V3 wp.heap.size A5 Y.length c5 t wr) (fun t _ => Y.length - (intOf t).toNat)
            case atStart => exact XRel.start hV5
            case round =>
              obtain ⟨k2, Z2, rfl, hk2, hZ2, hVZ2, hTZ2⟩ := hrel
              by_cases hkx2 : k2 < Y.length
              · obtain ⟨gz, rfl, _, hOZ⟩ := hVZ2.pos_ (by omega)
                have hck := hOZ.1.cellAt k2 (by omega)
                rw [cells_at Z2 k2 (by omega)] at hck
                have hfk := hOZ.1.frozenAt k2
                have hy256 := Pl.oct_getD hOZ.oct k2
                obtain ⟨y, hy⟩ : ∃ y, y = Z2.getD k2 0 := ⟨_, rfl⟩
                rw [← hy] at hck hy256
                have hxor : bits BinOp.xor IntKind.u8 (y : Int) 255 = ((y ^^^ 255 : Nat) : Int) := u8_xor_nat y 255 hy256 (by omega)
                have hx256 : y ^^^ 255 < 256 := Nat.xor_lt_two_pow (n := 8) hy256 (by omega)
                obtain ⟨z, hz⟩ : ∃ z, z = y ^^^ 255 := ⟨_, rfl⟩
                rw [← hz] at hxor hx256
                have HS := Lib.hid (XRel.next (k := k2) (z := z) hZ2 hOZ hTZ2 hx256)
                have HZ := Lib.hid hZ2
                clear hOZ hTZ2 hVZ2 hZ2 hy hz
                go_wp2_with fail
                go_roundw
                case rel => exact ⟨k2 + 1, Z2.set k2 z, by go_num, by omega, by rw [List.length_set]; exact HZ.out, HS.out.1, HS.out.2⟩
                case measure => simp [intOf]; omega
              · obtain ⟨hF, hA, hW6, hB6, hb6⟩ := H6.out
                have hFl6 := hW6.lt
                have hW7 := (hW6.below hb5).keep hTZ2 (fun b h1 h2 => by have a1 := (hVZ2.lt b h2).1; have a2 := hFl6 b h1; omega)
                have hB7 := hTZ2.bys ((hB6.below hb5 (Nat.le_refl _)).more hz5) (fun h0 ad e hx => by
                  obtain ⟨g', o', e', hg', _⟩ := hB6.at_ h0
                  rw [e] at e'
                  cases e'
                  have a1 := (hVZ2.lt _ hx).1
                  simp at a1
                  omega)
                have hb7 := hTZ2.below (hb6.trans (hb5.mono (by omega))) (by omega) (fun b hb => by have a1 := (hVZ2.lt b hb).1; omega)
                have H7 := Lib.hid (And.intro hF (And.intro hA (And.intro hW7 (And.intro hB7 hb7))))
                clear hF hA hW6 hB6 hb6 hW7 hB7 hb7 hVZ2 hTZ2 hZ2 H6 hV5 hb5
                go_wp2_with fail
                go_roundw
                case rel =>
                  obtain ⟨hF, hA, hW7, hB7, hb7⟩ := H7.out
                  exact ⟨j + 1, Av, cv, Y, F, by go_num, by omega, by omega, rfl, hB7, hA, hW7, hF, hlY, hb7⟩
                case measure => simp [intOf]; omega
      by_cases k1 : what = 1
      · subst k1
        have hIz := I_wrap N
        obtain ⟨hB2, hA, hW2, hF, hbl, hbw2, hBt2, hVo', hFo, hTq⟩ := H2.out
        have hlY : (bs ++ Pl.enc (Pl.fold (wrap64 (N : Int)))).length ≤ 320 * (j + 1) := by rw [List.length_append, Pl.len_enc]; have := Pl.sz_le10 (Pl.fold_U hIz).out; omega
        have HC := Lib.hid (wint_any _ F bs (wrap64 (N : Int)) W2 hW2 hIz (by omega))
        clear hB2 hA hW2 hF hbl hbw2 hBt2 hVo' hFo hTq
        go_wp2_with fail
        refine HC.out.mono ?_
        rintro e W3 ⟨rfl, hw3⟩
        replace hw3 : Wrote W2 w.heap.size F (bs ++ Pl.enc (Pl.fold (wrap64 (N : Int)))) W3 := hw3
        obtain ⟨hB2, hA, hW2, hF, hbl, hbw2, hBt2, hVo', hFo, hTq⟩ := H2.out
        have hw3' := hw3
        obtain ⟨F3, _, ht3, _, _⟩ := hw3'
        have q3 := hTq W3 ht3
        have hB3 := ht3.bys hB2 hA
        have hBt3 : Bys W3 W3.heap.size A' M c' T := ht3.bys hBt2 (fun h0 ad e hf => by
          obtain ⟨g', o', e', hg'⟩ := HT'.out h0
          rw [e] at e'
          cases e'
          have := hF _ hf
          simp at this
          omega)
        have HP := Lib.hid (refPut_any A bs.length c (Pl.fold (wrap64 (N : Int))) bs W3 hB3 (by omega) (Pl.fold_U hIz))
        clear hB2 hA hW2 hF hbl hbw2 hBt2 hVo' hFo hTq
        clear hB3 hBt3
        go_wp2_with fail
        refine (refFold_any _ W3 hIz).mono ?_
        rintro e w' ⟨rfl, rfl⟩
        go_wp2_with fail
        refine HP.out.mono ?_
        rintro e W4 ⟨gw, cw, rfl, hO4, hb4⟩
        obtain ⟨hB2, hA, hW2, hF, hbl, hbw2, hBt2, hVo', hFo, hTq⟩ := H2.out
        have AFT := Lib.hid (aft_put hVo' hF hFo hbw2 hw3 hO4 hb4)
        obtain ⟨Y, hY⟩ : ∃ Y, Y = bs ++ Pl.enc (Pl.fold (wrap64 (N : Int))) := ⟨_, rfl⟩
        obtain ⟨Av, hAv⟩ : ∃ Av : Option Addr, Av = some ⟨gw, 0, none⟩ := ⟨_, rfl⟩
        rw [← hY, ← hAv] at AFT
        rw [← hY] at hlY
        rw [← hY, ← hAv]
        obtain ⟨cv, hcv⟩ : ∃ cv, cv = cw := ⟨_, rfl⟩
        obtain ⟨V, hVV⟩ : ∃ V, V = W4 := ⟨_, rfl⟩
        rw [← hcv, ← hVV] at AFT
        rw [← hcv, ← hVV]
        clear hY hAv hcv hVV hO4 hb4 hw3 HP HC q3 ht3 H2 q0 q1
        clear hB2 hA hW2 hF hbl hbw2 hBt2 hVo' hFo hTq
        go_wp2_with fail
        go_loopw [82] (fun t wr => XRel V w.heap.size Ao M co t wr) (fun t _ => M - (intOf t).toNat)
        case atStart =>
          obtain ⟨_, ⟨os, hVV⟩, _⟩ := AFT.out
          exact XRel.start hVV
        case round =>
          obtain ⟨k, Z, rfl, hk, hZ, hVZ, hTZ⟩ := hrel
          obtain ⟨wp, rfl⟩ : ∃ wp : World, wp = wr := ⟨_, rfl⟩
          by_cases hkx : k < M
          · obtain ⟨gz, rfl, _, hOZ⟩ := hVZ.pos_ (by omega)
            have hck := hOZ.1.cellAt k (by omega)
            rw [cells_at Z k (by omega)] at hck
            have hfk := hOZ.1.frozenAt k
            have hy256 := Pl.oct_getD hOZ.oct k
            obtain ⟨y, hy⟩ : ∃ y, y = Z.getD k 0 := ⟨_, rfl⟩
            rw [← hy] at hck hy256
            have hxor : bits BinOp.xor IntKind.u8 (y : Int) 255 = ((y ^^^ 255 : Nat) : Int) := u8_xor_nat y 255 hy256 (by omega)
            have hx256 : y ^^^ 255 < 256 := Nat.xor_lt_two_pow (n := 8) hy256 (by omega)
            obtain ⟨z, hz⟩ : ∃ z, z = y ^^^ 255 := ⟨_, rfl⟩
            rw [← hz] at hxor hx256
            have HS := Lib.hid (XRel.next (k := k) (z := z) hZ hOZ hTZ hx256)
            have HZ := Lib.hid hZ
            clear hOZ hTZ hVZ hZ hy hz
            go_wp2_with fail
            go_roundw
            case rel => exact ⟨k + 1, Z.set k z, by go_num, by omega, by rw [List.length_set]; exact HZ.out, HS.out.1, HS.out.2⟩
            case measure => simp [intOf]; omega
          · obtain ⟨F, _, hW, hF, hB, hA, hO, hb⟩ := AFT.out
            have hzV := hb.size
            have hW6 := hW.keep hTZ (fun b h1 h2 => (hO b h2).1 h1)
            have hB6 := hTZ.bys hB (fun h0 ad e hx => (hO _ hx).2 h0 ad e rfl)
            have hb6 := hTZ.below hb hzV (fun b hb => (hVZ.lt b hb).1)
            have HOUT := Lib.hid (out_any _ F Y wp hW6 (by omega))
            have H6 := Lib.hid (And.intro hF (And.intro hA (And.intro hW6 (And.intro hB6 hb6))))
            clear hVZ hTZ hW hF hB hA hO hb hW6 hB6 hb6 AFT hZ
            go_wp2_with fail
            refine HOUT.out.mono ?_
            rintro e V3 ⟨A5, c5, rfl, hV5, hb5⟩
            obtain ⟨hF, hA, hW6, hB6, hb6⟩ := H6.out
            have hz5 := hb5.size
            have hz6 := hb6.size
            have HEQ := Lib.hid (eq_yes _ _ _ _ _ _ Y Y V3 hV5.bys.2 ((hB6.below hb5 (Nat.le_refl _)).more hz5) rfl)
            have hlY9 : Y.length ≤ 9223372036854775807 := by omega
            clear hF hA hW6 hB6 hb6
            go_wp2_with fail
            refine HEQ.out.mono ?_
            rintro e w' ⟨rfl, rfl⟩
            go_wp2_with fail
            go_loopw [99] (fun t wr => XRel V3 wp.heap.size A5 Y.length c5 t wr) (fun t _ => Y.length - (intOf t).toNat)
            case atStart => exact XRel.start hV5
            case round =>
              obtain ⟨k2, Z2, rfl, hk2, hZ2, hVZ2, hTZ2⟩ := hrel
              by_cases hkx2 : k2 < Y.length
              · obtain ⟨gz, rfl, _, hOZ⟩ := hVZ2.pos_ (by omega)
                have hck := hOZ.1.cellAt k2 (by omega)
                rw [cells_at Z2 k2 (by omega)] at hck
                have hfk := hOZ.1.frozenAt k2
                have hy256 := Pl.oct_getD hOZ.oct k2
                obtain ⟨y, hy⟩ : ∃ y, y = Z2.getD k2 0 := ⟨_, rfl⟩
                rw [← hy] at hck hy256
                have hxor : bits BinOp.xor IntKind.u8 (y : Int) 255 = ((y ^^^ 255 : Nat) : Int) := u8_xor_nat y 255 hy256 (by omega)
                have hx256 : y ^^^ 255 < 256 := Nat.xor_lt_two_pow (n := 8) hy256 (by omega)
                obtain ⟨z, hz⟩ : ∃ z, z = y ^^^ 255 := ⟨_, rfl⟩
                rw [← hz] at hxor hx256
                have HS := Lib.hid (XRel.next (k := k2) (z := z) hZ2 hOZ hTZ2 hx256)
                have HZ := Lib.hid hZ2
                clear hOZ hTZ2 hVZ2 hZ2 hy hz
                go_wp2_with fail
                go_roundw
                case rel => exact ⟨k2 + 1, Z2.set k2 z, by go_num, by omega, by rw [List.length_set]; exact HZ.out, HS.out.1, HS.out.2⟩
                case measure => simp [intOf]; omega
              · obtain ⟨hF, hA, hW6, hB6, hb6⟩ := H6.out
                have hFl6 := hW6.lt
                have hW7 := (hW6.below hb5).keep hTZ2 (fun b h1 h2 => by have a1 := (hVZ2.lt b h2).1; have a2 := hFl6 b h1; omega)
                have hB7 := hTZ2.bys ((hB6.below hb5 (Nat.le_refl _)).more hz5) (fun h0 ad e hx => by
                  obtain ⟨g', o', e', hg', _⟩ := hB6.at_ h0
                  rw [e] at e'
                  cases e'
                  have a1 := (hVZ2.lt _ hx).1
                  simp at a1
                  omega)
                have hb7 := hTZ2.below (hb6.trans (hb5.mono (by omega))) (by omega) (fun b hb => by have a1 := (hVZ2.lt b hb).1; omega)
                have H7 := Lib.hid (And.intro hF (And.intro hA (And.intro hW7 (And.intro hB7 hb7))))
                clear hF hA hW6 hB6 hb6 hW7 hB7 hb7 hVZ2 hTZ2 hZ2 H6 hV5 hb5
                go_wp2_with fail
                go_roundw
                case rel =>
                  obtain ⟨hF, hA, hW7, hB7, hb7⟩ := H7.out
                  exact ⟨j + 1, Av, cv, Y, F, by go_num, by omega, by omega, rfl, hB7, hA, hW7, hF, hlY, hb7⟩
                case measure => simp [intOf]; omega
      by_cases k2 : what = 2
      · subst k2
        by_cases hpar : N % 2 = 1
        · obtain ⟨hB2, hA, hW2, hF, hbl, hbw2, hBt2, hVo', hFo, hTq⟩ := H2.out
          have hlY : (bs ++ [1]).length ≤ 320 * (j + 1) := by rw [List.length_append]; simp; omega
          have HC := Lib.hid (wbool_any _ F bs true W2 hW2 (by omega))
          clear hB2 hA hW2 hF hbl hbw2 hBt2 hVo' hFo hTq
          have hmod : (N : Int) % 2 = 1 := by omega
          clear hpar
          go_wp2_with fail
          refine HC.out.mono ?_
          rintro e W3 ⟨rfl, hw3⟩
          replace hw3 : Wrote W2 w.heap.size F (bs ++ [1]) W3 := hw3
          obtain ⟨hB2, hA, hW2, hF, hbl, hbw2, hBt2, hVo', hFo, hTq⟩ := H2.out
          have hw3' := hw3
          obtain ⟨F3, _, ht3, _, _⟩ := hw3'
          have q3 := hTq W3 ht3
          have hB3 := ht3.bys hB2 hA
          have hBt3 : Bys W3 W3.heap.size A' M c' T := ht3.bys hBt2 (fun h0 ad e hf => by
            obtain ⟨g', o', e', hg'⟩ := HT'.out h0
            rw [e] at e'
            cases e'
            have := hF _ hf
            simp at this
            omega)
          have HP := Lib.hid (refPut_any A bs.length c 1 bs W3 hB3 (by omega) U1)
          rw [Pl.enc_lt (by omega)] at HP
          clear hB2 hA hW2 hF hbl hbw2 hBt2 hVo' hFo hTq
          clear hB3 hBt3
          go_wp2_with fail
          refine HP.out.mono ?_
          rintro e W4 ⟨gw, cw, rfl, hO4, hb4⟩
          obtain ⟨hB2, hA, hW2, hF, hbl, hbw2, hBt2, hVo', hFo, hTq⟩ := H2.out
          have AFT := Lib.hid (aft_put hVo' hF hFo hbw2 hw3 hO4 hb4)
          obtain ⟨Y, hY⟩ : ∃ Y, Y = bs ++ [1] := ⟨_, rfl⟩
          obtain ⟨Av, hAv⟩ : ∃ Av : Option Addr, Av = some ⟨gw, 0, none⟩ := ⟨_, rfl⟩
          rw [← hY, ← hAv] at AFT
          rw [← hY] at hlY
          rw [← hY, ← hAv]
          obtain ⟨cv, hcv⟩ : ∃ cv, cv = cw := ⟨_, rfl⟩
          obtain ⟨V, hVV⟩ : ∃ V, V = W4 := ⟨_, rfl⟩
          rw [← hcv, ← hVV] at AFT
          rw [← hcv, ← hVV]
          clear hY hAv hcv hVV hO4 hb4 hw3 HP HC q3 ht3 H2 q0 q1
          clear hB2 hA hW2 hF hbl hbw2 hBt2 hVo' hFo hTq
          go_wp2_with fail
          go_loopw [82] (fun t wr => XRel V w.heap.size Ao M co t wr) (fun t _ => M - (intOf t).toNat)
          case atStart =>
            obtain ⟨_, ⟨os, hVV⟩, _⟩ := AFT.out
            exact XRel.start hVV
          case round =>
            obtain ⟨k, Z, rfl, hk, hZ, hVZ, hTZ⟩ := hrel
            obtain ⟨wp, rfl⟩ : ∃ wp : World, wp = wr := ⟨_, rfl⟩
            by_cases hkx : k < M
            · obtain ⟨gz, rfl, _, hOZ⟩ := hVZ.pos_ (by omega)
              have hck := hOZ.1.cellAt k (by omega)
              rw [cells_at Z k (by omega)] at hck
              have hfk := hOZ.1.frozenAt k
              have hy256 := Pl.oct_getD hOZ.oct k
              obtain ⟨y, hy⟩ : ∃ y, y = Z.getD k 0 := ⟨_, rfl⟩
              rw [← hy] at hck hy256
              have hxor : bits BinOp.xor IntKind.u8 (y : Int) 255 = ((y ^^^ 255 : Nat) : Int) := u8_xor_nat y 255 hy256 (by omega)
              have hx256 : y ^^^ 255 < 256 := Nat.xor_lt_two_pow (n := 8) hy256 (by omega)
              obtain ⟨z, hz⟩ : ∃ z, z = y ^^^ 255 := ⟨_, rfl⟩
              rw [← hz] at hxor hx256
              have HS := Lib.hid (XRel.next (k := k) (z := z) hZ hOZ hTZ hx256)
              have HZ := Lib.hid hZ
              clear hOZ hTZ hVZ hZ hy hz
              go_wp2_with fail
              go_roundw
              case rel => exact ⟨k + 1, Z.set k z, by go_num, by omega, by rw [List.length_set]; exact HZ.out, HS.out.1, HS.out.2⟩
              case measure => simp [intOf]; omega
            · obtain ⟨F, _, hW, hF, hB, hA, hO, hb⟩ := AFT.out
              have hzV := hb.size
              have hW6 := hW.keep hTZ (fun b h1 h2 => (hO b h2).1 h1)
              have hB6 := hTZ.bys hB (fun h0 ad e hx => (hO _ hx).2 h0 ad e rfl)
              have hb6 := hTZ.below hb hzV (fun b hb => (hVZ.lt b hb).1)
              have HOUT := Lib.hid (out_any _ F Y wp hW6 (by omega))
              have H6 := Lib.hid (And.intro hF (And.intro hA (And.intro hW6 (And.intro hB6 hb6))))
              clear hVZ hTZ hW hF hB hA hO hb hW6 hB6 hb6 AFT hZ
              go_wp2_with fail
              refine HOUT.out.mono ?_
              rintro e V3 ⟨A5, c5, rfl, hV5, hb5⟩
              obtain ⟨hF, hA, hW6, hB6, hb6⟩ := H6.out
              have hz5 := hb5.size
              have hz6 := hb6.size
              have HEQ := Lib.hid (eq_yes _ _ _ _ _ _ Y Y V3 hV5.bys.2 ((hB6.below hb5 (Nat.le_refl _)).more hz5) rfl)
              have hlY9 : Y.length ≤ 9223372036854775807 := by omega
              clear hF hA hW6 hB6 hb6
              go_wp2_with fail
              refine HEQ.out.mono ?_
              rintro e w' ⟨rfl, rfl⟩
              go_wp2_with fail
              go_loopw [99] (fun t wr => XRel V3 wp.heap.size A5 Y.length c5 t wr) (fun t _ => Y.length - (intOf t).toNat)
              case atStart => exact XRel.start hV5
              case round =>
                obtain ⟨k2, Z2, rfl, hk2, hZ2, hVZ2, hTZ2⟩ := hrel
                by_cases hkx2 : k2 < Y.length
                · obtain ⟨gz, rfl, _, hOZ⟩ := hVZ2.pos_ (by omega)
                  have hck := hOZ.1.cellAt k2 (by omega)
                  rw [cells_at Z2 k2 (by omega)] at hck
                  have hfk := hOZ.1.frozenAt k2
                  have hy256 := Pl.oct_getD hOZ.oct k2
                  obtain ⟨y, hy⟩ : ∃ y, y = Z2.getD k2 0 := ⟨_, rfl⟩
                  rw [← hy] at hck hy256
                  have hxor : bits BinOp.xor IntKind.u8 (y : Int) 255 = ((y ^^^ 255 : Nat) : Int) := u8_xor_nat y 255 hy256 (by omega)
                  have hx256 : y ^^^ 255 < 256 := Nat.xor_lt_two_pow (n := 8) hy256 (by omega)
                  obtain ⟨z, hz⟩ : ∃ z, z = y ^^^ 255 := ⟨_, rfl⟩
                  rw [← hz] at hxor hx256
                  have HS := Lib.hid (XRel.next (k := k2) (z := z) hZ2 hOZ hTZ2 hx256)
                  have HZ := Lib.hid hZ2
                  clear hOZ hTZ2 hVZ2 hZ2 hy hz
                  go_wp2_with fail
                  go_roundw
                  case rel => exact ⟨k2 + 1, Z2.set k2 z, by go_num, by omega, by rw [List.length_set]; exact HZ.out, HS.out.1, HS.out.2⟩
                  case measure => simp [intOf]; omega
                · obtain ⟨hF, hA, hW6, hB6, hb6⟩ := H6.out
                  have hFl6 := hW6.lt
                  have hW7 := (hW6.below hb5).keep hTZ2 (fun b h1 h2 => by have a1 := (hVZ2.lt b h2).1; have a2 := hFl6 b h1; omega)
                  have hB7 := hTZ2.bys ((hB6.below hb5 (Nat.le_refl _)).more hz5) (fun h0 ad e hx => by
                    obtain ⟨g', o', e', hg', _⟩ := hB6.at_ h0
                    rw [e] at e'
                    cases e'
                    have a1 := (hVZ2.lt _ hx).1
                    simp at a1
                    omega)
                  have hb7 := hTZ2.below (hb6.trans (hb5.mono (by omega))) (by omega) (fun b hb => by have a1 := (hVZ2.lt b hb).1; omega)
                  have H7 := Lib.hid (And.intro hF (And.intro hA (And.intro hW7 (And.intro hB7 hb7))))
                  clear hF hA hW6 hB6 hb6 hW7 hB7 hb7 hVZ2 hTZ2 hZ2 H6 hV5 hb5
                  go_wp2_with fail
                  go_roundw
                  case rel =>
                    obtain ⟨hF, hA, hW7, hB7, hb7⟩ := H7.out
                    exact ⟨j + 1, Av, cv, Y, F, by go_num, by omega, by omega, rfl, hB7, hA, hW7, hF, hlY, hb7⟩
                  case measure => simp [intOf]; omega
        · obtain ⟨hB2, hA, hW2, hF, hbl, hbw2, hBt2, hVo', hFo, hTq⟩ := H2.out
          have hlY : (bs ++ [0]).length ≤ 320 * (j + 1) := by rw [List.length_append]; simp; omega
          have HC := Lib.hid (wbool_any _ F bs false W2 hW2 (by omega))
          clear hB2 hA hW2 hF hbl hbw2 hBt2 hVo' hFo hTq
          have hmod : (N : Int) % 2 = 0 := by omega
          clear hpar
          go_wp2_with fail
          refine HC.out.mono ?_
          rintro e W3 ⟨rfl, hw3⟩
          replace hw3 : Wrote W2 w.heap.size F (bs ++ [0]) W3 := hw3
          obtain ⟨hB2, hA, hW2, hF, hbl, hbw2, hBt2, hVo', hFo, hTq⟩ := H2.out
          have hw3' := hw3
          obtain ⟨F3, _, ht3, _, _⟩ := hw3'
          have q3 := hTq W3 ht3
          have hB3 := ht3.bys hB2 hA
          have hBt3 : Bys W3 W3.heap.size A' M c' T := ht3.bys hBt2 (fun h0 ad e hf => by
            obtain ⟨g', o', e', hg'⟩ := HT'.out h0
            rw [e] at e'
            cases e'
            have := hF _ hf
            simp at this
            omega)
          have HP := Lib.hid (refPut_any A bs.length c 0 bs W3 hB3 (by omega) U0)
          rw [Pl.enc_lt (by omega)] at HP
          clear hB2 hA hW2 hF hbl hbw2 hBt2 hVo' hFo hTq
          clear hB3 hBt3
          go_wp2_with fail
          refine HP.out.mono ?_
          rintro e W4 ⟨gw, cw, rfl, hO4, hb4⟩
          obtain ⟨hB2, hA, hW2, hF, hbl, hbw2, hBt2, hVo', hFo, hTq⟩ := H2.out
          have AFT := Lib.hid (aft_put hVo' hF hFo hbw2 hw3 hO4 hb4)
          obtain ⟨Y, hY⟩ : ∃ Y, Y = bs ++ [0] := ⟨_, rfl⟩
          obtain ⟨Av, hAv⟩ : ∃ Av : Option Addr, Av = some ⟨gw, 0, none⟩ := ⟨_, rfl⟩
          rw [← hY, ← hAv] at AFT
          rw [← hY] at hlY
          rw [← hY, ← hAv]
          obtain ⟨cv, hcv⟩ : ∃ cv, cv = cw := ⟨_, rfl⟩
          obtain ⟨V, hVV⟩ : ∃ V, V = W4 := ⟨_, rfl⟩
          rw [← hcv, ← hVV] at AFT
          rw [← hcv, ← hVV]
          clear hY hAv hcv hVV hO4 hb4 hw3 HP HC q3 ht3 H2 q0 q1
          clear hB2 hA hW2 hF hbl hbw2 hBt2 hVo' hFo hTq
          go_wp2_with fail
          go_loopw [82] (fun t wr => XRel V w.heap.size Ao M co t wr) (fun t _ => M - (intOf t).toNat)
          case atStart =>
            obtain ⟨_, ⟨os, hVV⟩, _⟩ := AFT.out
            exact XRel.start hVV
          case round =>
            obtain ⟨k, Z, rfl, hk, hZ, hVZ, hTZ⟩ := hrel
            obtain ⟨wp, rfl⟩ : ∃ wp : World, wp = wr := ⟨_, rfl⟩
            by_cases hkx : k < M
            · obtain ⟨gz, rfl, _, hOZ⟩ := hVZ.pos_ (by omega)
              have hck := hOZ.1.cellAt k (by omega)
              rw [cells_at Z k (by omega)] at hck
              have hfk := hOZ.1.frozenAt k
              have hy256 := Pl.oct_getD hOZ.oct k
              obtain ⟨y, hy⟩ : ∃ y, y = Z.getD k 0 := ⟨_, rfl⟩
              rw [← hy] at hck hy256
              have hxor : bits BinOp.xor IntKind.u8 (y : Int) 255 = ((y ^^^ 255 : Nat) : Int) := u8_xor_nat y 255 hy256 (by omega)
              have hx256 : y ^^^ 255 < 256 := Nat.xor_lt_two_pow (n := 8) hy256 (by omega)
              obtain ⟨z, hz⟩ : ∃ z, z = y ^^^ 255 := ⟨_, rfl⟩
              rw [← hz] at hxor hx256
              have HS := Lib.hid (XRel.next (k := k) (z := z) hZ hOZ hTZ hx256)
              have HZ := Lib.hid hZ
              clear hOZ hTZ hVZ hZ hy hz
              go_wp2_with fail
              go_roundw
              case rel => exact ⟨k + 1, Z.set k z, by go_num, by omega, by rw [List.length_set]; exact HZ.out, HS.out.1, HS.out.2⟩
              case measure => simp [intOf]; omega
            · obtain ⟨F, _, hW, hF, hB, hA, hO, hb⟩ := AFT.out
              have hzV := hb.size
              have hW6 := hW.keep hTZ (fun b h1 h2 => (hO b h2).1 h1)
              have hB6 := hTZ.bys hB (fun h0 ad e hx => (hO _ hx).2 h0 ad e rfl)
              have hb6 := hTZ.below hb hzV (fun b hb => (hVZ.lt b hb).1)
              have HOUT := Lib.hid (out_any _ F Y wp hW6 (by omega))
              have H6 := Lib.hid (And.intro hF (And.intro hA (And.intro hW6 (And.intro hB6 hb6))))
              clear hVZ hTZ hW hF hB hA hO hb hW6 hB6 hb6 AFT hZ
              go_wp2_with fail
              refine HOUT.out.mono ?_
              rintro e V3 ⟨A5, c5, rfl, hV5, hb5⟩
              obtain ⟨hF, hA, hW6, hB6, hb6⟩ := H6.out
              have hz5 := hb5.size
              have hz6 := hb6.size
              have HEQ := Lib.hid (eq_yes _ _ _ _ _ _ Y Y V3 hV5.bys.2 ((hB6.below hb5 (Nat.le_refl _)).more hz5) rfl)
              have hlY9 : Y.length ≤ 9223372036854775807 := by omega
              clear hF hA hW6 hB6 hb6
              go_wp2_with fail
              refine HEQ.out.mono ?_
              rintro e w' ⟨rfl, rfl⟩
              go_wp2_with fail
              go_loopw [99] (fun t wr => XRel V3 wp.heap.size A5 Y.length c5 t wr) (fun t _ => Y.length - (intOf t).toNat)
              case atStart => exact XRel.start hV5
              case round =>
                obtain ⟨k2, Z2, rfl, hk2, hZ2, hVZ2, hTZ2⟩ := hrel
                by_cases hkx2 : k2 < Y.length
                · obtain ⟨gz, rfl, _, hOZ⟩ := hVZ2.pos_ (by omega)
                  have hck := hOZ.1.cellAt k2 (by omega)
                  rw [cells_at Z2 k2 (by omega)] at hck
                  have hfk := hOZ.1.frozenAt k2
                  have hy256 := Pl.oct_getD hOZ.oct k2
                  obtain ⟨y, hy⟩ : ∃ y, y = Z2.getD k2 0 := ⟨_, rfl⟩
                  rw [← hy] at hck hy256
                  have hxor : bits BinOp.xor IntKind.u8 (y : Int) 255 = ((y ^^^ 255 : Nat) : Int) := u8_xor_nat y 255 hy256 (by omega)
                  have hx256 : y ^^^ 255 < 256 := Nat.xor_lt_two_pow (n := 8) hy256 (by omega)
                  obtain ⟨z, hz⟩ : ∃ z, z = y ^^^ 255 := ⟨_, rfl⟩
                  rw [← hz] at hxor hx256
                  have HS := Lib.hid (XRel.next (k := k2) (z := z) hZ2 hOZ hTZ2 hx256)
                  have HZ := Lib.hid hZ2
                  clear hOZ hTZ2 hVZ2 hZ2 hy hz
                  go_wp2_with fail
                  go_roundw
                  case rel => exact ⟨k2 + 1, Z2.set k2 z, by go_num, by omega, by rw [List.length_set]; exact HZ.out, HS.out.1, HS.out.2⟩
                  case measure => simp [intOf]; omega
                · obtain ⟨hF, hA, hW6, hB6, hb6⟩ := H6.out
                  have hFl6 := hW6.lt
                  have hW7 := (hW6.below hb5).keep hTZ2 (fun b h1 h2 => by have a1 := (hVZ2.lt b h2).1; have a2 := hFl6 b h1; omega)
                  have hB7 := hTZ2.bys ((hB6.below hb5 (Nat.le_refl _)).more hz5) (fun h0 ad e hx => by
                    obtain ⟨g', o', e', hg', _⟩ := hB6.at_ h0
                    rw [e] at e'
                    cases e'
                    have a1 := (hVZ2.lt _ hx).1
                    simp at a1
                    omega)
                  have hb7 := hTZ2.below (hb6.trans (hb5.mono (by omega))) (by omega) (fun b hb => by have a1 := (hVZ2.lt b hb).1; omega)
                  have H7 := Lib.hid (And.intro hF (And.intro hA (And.intro hW7 (And.intro hB7 hb7))))
                  clear hF hA hW6 hB6 hb6 hW7 hB7 hb7 hVZ2 hTZ2 hZ2 H6 hV5 hb5
                  go_wp2_with fail
                  go_roundw
                  case rel =>
                    obtain ⟨hF, hA, hW7, hB7, hb7⟩ := H7.out
                    exact ⟨j + 1, Av, cv, Y, F, by go_num, by omega, by omega, rfl, hB7, hA, hW7, hF, hlY, hb7⟩
                  case measure => simp [intOf]; omega
      by_cases k3 : what = 3
      · subst k3
        obtain ⟨hB2, hA, hW2, hF, hbl, hbw2, hBt2, hVo', hFo, hTq⟩ := H2.out
        have hlY : (bs ++ (Pl.enc M ++ T)).length ≤ 320 * (j + 1) := by rw [List.length_append, List.length_append, Pl.len_enc, HLT.out]; have := Pl.sz_le10 (len_U (n := M) (by omega)).out; omega
        have HC := Lib.hid (wbytes_any _ F bs Ao M co T W2 hW2 hVo'.bys.2 (fun _ ad e hf => by
          subst e
          obtain ⟨g', e', _, _⟩ := hVo'.some_ (by simp)
          cases e'
          exact hFo _ rfl hf) (by omega))
        clear hB2 hA hW2 hF hbl hbw2 hBt2 hVo' hFo hTq
        go_wp2_with fail
        refine HC.out.mono ?_
        rintro e W3 ⟨rfl, hw3⟩
        replace hw3 : Wrote W2 w.heap.size F (bs ++ (Pl.enc M ++ T)) W3 := hw3
        obtain ⟨hB2, hA, hW2, hF, hbl, hbw2, hBt2, hVo', hFo, hTq⟩ := H2.out
        have hw3' := hw3
        obtain ⟨F3, _, ht3, _, _⟩ := hw3'
        have q3 := hTq W3 ht3
        have hB3 := ht3.bys hB2 hA
        have hBt3 : Bys W3 W3.heap.size A' M c' T := ht3.bys hBt2 (fun h0 ad e hf => by
          obtain ⟨g', o', e', hg'⟩ := HT'.out h0
          rw [e] at e'
          cases e'
          have := hF _ hf
          simp at this
          omega)
        have HP := Lib.hid (refBytes_any A A' bs.length c M c' bs T W3 hB3 hBt3 (by omega))
        clear hB2 hA hW2 hF hbl hbw2 hBt2 hVo' hFo hTq
        clear hB3 hBt3
        go_wp2_with fail
        refine HP.out.mono ?_
        rintro e W4 ⟨gw, cw, rfl, hO4, hb4⟩
        obtain ⟨hB2, hA, hW2, hF, hbl, hbw2, hBt2, hVo', hFo, hTq⟩ := H2.out
        have AFT := Lib.hid (aft_put hVo' hF hFo hbw2 hw3 hO4 hb4)
        obtain ⟨Y, hY⟩ : ∃ Y, Y = bs ++ (Pl.enc M ++ T) := ⟨_, rfl⟩
        obtain ⟨Av, hAv⟩ : ∃ Av : Option Addr, Av = some ⟨gw, 0, none⟩ := ⟨_, rfl⟩
        rw [← hY, ← hAv] at AFT
        rw [← hY] at hlY
        rw [← hY, ← hAv]
        obtain ⟨cv, hcv⟩ : ∃ cv, cv = cw := ⟨_, rfl⟩
        obtain ⟨V, hVV⟩ : ∃ V, V = W4 := ⟨_, rfl⟩
        rw [← hcv, ← hVV] at AFT
        rw [← hcv, ← hVV]
        clear hY hAv hcv hVV hO4 hb4 hw3 HP HC q3 ht3 H2 q0 q1
        clear hB2 hA hW2 hF hbl hbw2 hBt2 hVo' hFo hTq
        go_wp2_with fail
        go_loopw [82] (fun t wr => XRel V w.heap.size Ao M co t wr) (fun t _ => M - (intOf t).toNat)
        case atStart =>
          obtain ⟨_, ⟨os, hVV⟩, _⟩ := AFT.out
          exact XRel.start hVV
        case round =>
          obtain ⟨k, Z, rfl, hk, hZ, hVZ, hTZ⟩ := hrel
          obtain ⟨wp, rfl⟩ : ∃ wp : World, wp = wr := ⟨_, rfl⟩
          by_cases hkx : k < M
          · obtain ⟨gz, rfl, _, hOZ⟩ := hVZ.pos_ (by omega)
            have hck := hOZ.1.cellAt k (by omega)
            rw [cells_at Z k (by omega)] at hck
            have hfk := hOZ.1.frozenAt k
            have hy256 := Pl.oct_getD hOZ.oct k
            obtain ⟨y, hy⟩ : ∃ y, y = Z.getD k 0 := ⟨_, rfl⟩
            rw [← hy] at hck hy256
            have hxor : bits BinOp.xor IntKind.u8 (y : Int) 255 = ((y ^^^ 255 : Nat) : Int) := u8_xor_nat y 255 hy256 (by omega)
            have hx256 : y ^^^ 255 < 256 := Nat.xor_lt_two_pow (n := 8) hy256 (by omega)
            obtain ⟨z, hz⟩ : ∃ z, z = y ^^^ 255 := ⟨_, rfl⟩
            rw [← hz] at hxor hx256
            have HS := Lib.hid (XRel.next (k := k) (z := z) hZ hOZ hTZ hx256)
            have HZ := Lib.hid hZ
            clear hOZ hTZ hVZ hZ hy hz
            go_wp2_with fail
            go_roundw
            case rel => exact ⟨k + 1, Z.set k z, by go_num, by omega, by rw [List.length_set]; exact HZ.out, HS.out.1, HS.out.2⟩
            case measure => simp [intOf]; omega
          · obtain ⟨F, _, hW, hF, hB, hA, hO, hb⟩ := AFT.out
            have hzV := hb.size
            have hW6 := hW.keep hTZ (fun b h1 h2 => (hO b h2).1 h1)
            have hB6 := hTZ.bys hB (fun h0 ad e hx => (hO _ hx).2 h0 ad e rfl)
            have hb6 := hTZ.below hb hzV (fun b hb => (hVZ.lt b hb).1)
            have HOUT := Lib.hid (out_any _ F Y wp hW6 (by omega))
            have H6 := Lib.hid (And.intro hF (And.intro hA (And.intro hW6 (And.intro hB6 hb6))))
            clear hVZ hTZ hW hF hB hA hO hb hW6 hB6 hb6 AFT hZ
            go_wp2_with fail
            refine HOUT.out.mono ?_
            rintro e V3 ⟨A5, c5, rfl, hV5, hb5⟩
            obtain ⟨hF, hA, hW6, hB6, hb6⟩ := H6.out
            have hz5 := hb5.size
            have hz6 := hb6.size
            have HEQ := Lib.hid (eq_yes _ _ _ _ _ _ Y Y V3 hV5.bys.2 ((hB6.below hb5 (Nat.le_refl _)).more hz5) rfl)
            have hlY9 : Y.length ≤ 9223372036854775807 := by omega
            clear hF hA hW6 hB6 hb6
            go_wp2_with fail
            refine HEQ.out.mono ?_
            rintro e w' ⟨rfl, rfl⟩
            go_wp2_with fail
            go_loopw [99] (fun t wr => XRel V3 wp.heap.size A5 Y.length c5 t wr) (fun t _ => Y.length - (intOf t).toNat)
            case atStart => exact XRel.start hV5
            case round =>
              obtain ⟨k2, Z2, rfl, hk2, hZ2, hVZ2, hTZ2⟩ := hrel
              by_cases hkx2 : k2 < Y.length
              · obtain ⟨gz, rfl, _, hOZ⟩ := hVZ2.pos_ (by omega)
                have hck := hOZ.1.cellAt k2 (by omega)
                rw [cells_at Z2 k2 (by omega)] at hck
                have hfk := hOZ.1.frozenAt k2
                have hy256 := Pl.oct_getD hOZ.oct k2
                obtain ⟨y, hy⟩ : ∃ y, y = Z2.getD k2 0 := ⟨_, rfl⟩
                rw [← hy] at hck hy256
                have hxor : bits BinOp.xor IntKind.u8 (y : Int) 255 = ((y ^^^ 255 : Nat) : Int) := u8_xor_nat y 255 hy256 (by omega)
                have hx256 : y ^^^ 255 < 256 := Nat.xor_lt_two_pow (n := 8) hy256 (by omega)
                obtain ⟨z, hz⟩ : ∃ z, z = y ^^^ 255 := ⟨_, rfl⟩
                rw [← hz] at hxor hx256
                have HS := Lib.hid (XRel.next (k := k2) (z := z) hZ2 hOZ hTZ2 hx256)
                have HZ := Lib.hid hZ2
                clear hOZ hTZ2 hVZ2 hZ2 hy hz
                go_wp2_with fail
                go_roundw
                case rel => exact ⟨k2 + 1, Z2.set k2 z, by go_num, by omega, by rw [List.length_set]; exact HZ.out, HS.out.1, HS.out.2⟩
                case measure => simp [intOf]; omega
              · obtain ⟨hF, hA, hW6, hB6, hb6⟩ := H6.out
                have hFl6 := hW6.lt
                have hW7 := (hW6.below hb5).keep hTZ2 (fun b h1 h2 => by have a1 := (hVZ2.lt b h2).1; have a2 := hFl6 b h1; omega)
                have hB7 := hTZ2.bys ((hB6.below hb5 (Nat.le_refl _)).more hz5) (fun h0 ad e hx => by
                  obtain ⟨g', o', e', hg', _⟩ := hB6.at_ h0
                  rw [e] at e'
                  cases e'
                  have a1 := (hVZ2.lt _ hx).1
                  simp at a1
                  omega)
                have hb7 := hTZ2.below (hb6.trans (hb5.mono (by omega))) (by omega) (fun b hb => by have a1 := (hVZ2.lt b hb).1; omega)
                have H7 := Lib.hid (And.intro hF (And.intro hA (And.intro hW7 (And.intro hB7 hb7))))
                clear hF hA hW6 hB6 hb6 hW7 hB7 hb7 hVZ2 hTZ2 hZ2 H6 hV5 hb5
                go_wp2_with fail
                go_roundw
                case rel =>
                  obtain ⟨hF, hA, hW7, hB7, hb7⟩ := H7.out
                  exact ⟨j + 1, Av, cv, Y, F, by go_num, by omega, by omega, rfl, hB7, hA, hW7, hF, hlY, hb7⟩
                case measure => simp [intOf]; omega
      by_cases k4 : what = 4
      · subst k4
        have hcv := H2.out.2.2.2.2.2.2.1.conv
        obtain ⟨sv, hsv⟩ : ∃ sv, sv = strOfNums (ints T) := ⟨_, rfl⟩
        rw [← hsv] at hcv
        have HSV := Lib.hid hsv
        clear hsv
        obtain ⟨hB2, hA, hW2, hF, hbl, hbw2, hBt2, hVo', hFo, hTq⟩ := H2.out
        have hlY : (bs ++ (Pl.enc M ++ T)).length ≤ 320 * (j + 1) := by rw [List.length_append, List.length_append, Pl.len_enc, HLT.out]; have := Pl.sz_le10 (len_U (n := M) (by omega)).out; omega
        have HC := Lib.hid (wstr_any _ F bs sv T W2 hW2 HSV.out hBt2.oct (by rw [HLT.out]; omega))
        rw [HLT.out] at HC
        clear hB2 hA hW2 hF hbl hbw2 hBt2 hVo' hFo hTq
        go_wp2_with fail
        refine HC.out.mono ?_
        rintro e W3 ⟨rfl, hw3⟩
        replace hw3 : Wrote W2 w.heap.size F (bs ++ (Pl.enc M ++ T)) W3 := hw3
        obtain ⟨hB2, hA, hW2, hF, hbl, hbw2, hBt2, hVo', hFo, hTq⟩ := H2.out
        have hw3' := hw3
        obtain ⟨F3, _, ht3, _, _⟩ := hw3'
        have q3 := hTq W3 ht3
        have hB3 := ht3.bys hB2 hA
        have hBt3 : Bys W3 W3.heap.size A' M c' T := ht3.bys hBt2 (fun h0 ad e hf => by
          obtain ⟨g', o', e', hg'⟩ := HT'.out h0
          rw [e] at e'
          cases e'
          have := hF _ hf
          simp at this
          omega)
        have HP := Lib.hid (refBytes_any A A' bs.length c M c' bs T W3 hB3 hBt3 (by omega))
        clear hB2 hA hW2 hF hbl hbw2 hBt2 hVo' hFo hTq
        clear hB3 hBt3
        go_wp2_with fail
        refine HP.out.mono ?_
        rintro e W4 ⟨gw, cw, rfl, hO4, hb4⟩
        obtain ⟨hB2, hA, hW2, hF, hbl, hbw2, hBt2, hVo', hFo, hTq⟩ := H2.out
        have AFT := Lib.hid (aft_put hVo' hF hFo hbw2 hw3 hO4 hb4)
        obtain ⟨Y, hY⟩ : ∃ Y, Y = bs ++ (Pl.enc M ++ T) := ⟨_, rfl⟩
        obtain ⟨Av, hAv⟩ : ∃ Av : Option Addr, Av = some ⟨gw, 0, none⟩ := ⟨_, rfl⟩
        rw [← hY, ← hAv] at AFT
        rw [← hY] at hlY
        rw [← hY, ← hAv]
        obtain ⟨cv, hcv⟩ : ∃ cv, cv = cw := ⟨_, rfl⟩
        obtain ⟨V, hVV⟩ : ∃ V, V = W4 := ⟨_, rfl⟩
        rw [← hcv, ← hVV] at AFT
        rw [← hcv, ← hVV]
        clear hcv
        clear hY hAv hcv hVV hO4 hb4 hw3 HP HC q3 ht3 H2 q0 q1
        clear hB2 hA hW2 hF hbl hbw2 hBt2 hVo' hFo hTq
        go_wp2_with fail
        go_loopw [82] (fun t wr => XRel V w.heap.size Ao M co t wr) (fun t _ => M - (intOf t).toNat)
        case atStart =>
          obtain ⟨_, ⟨os, hVV⟩, _⟩ := AFT.out
          exact XRel.start hVV
        case round =>
          obtain ⟨k, Z, rfl, hk, hZ, hVZ, hTZ⟩ := hrel
          obtain ⟨wp, rfl⟩ : ∃ wp : World, wp = wr := ⟨_, rfl⟩
          by_cases hkx : k < M
          · obtain ⟨gz, rfl, _, hOZ⟩ := hVZ.pos_ (by omega)
            have hck := hOZ.1.cellAt k (by omega)
            rw [cells_at Z k (by omega)] at hck
            have hfk := hOZ.1.frozenAt k
            have hy256 := Pl.oct_getD hOZ.oct k
            obtain ⟨y, hy⟩ : ∃ y, y = Z.getD k 0 := ⟨_, rfl⟩
            rw [← hy] at hck hy256
            have hxor : bits BinOp.xor IntKind.u8 (y : Int) 255 = ((y ^^^ 255 : Nat) : Int) := u8_xor_nat y 255 hy256 (by omega)
            have hx256 : y ^^^ 255 < 256 := Nat.xor_lt_two_pow (n := 8) hy256 (by omega)
            obtain ⟨z, hz⟩ : ∃ z, z = y ^^^ 255 := ⟨_, rfl⟩
            rw [← hz] at hxor hx256
            have HS := Lib.hid (XRel.next (k := k) (z := z) hZ hOZ hTZ hx256)
            have HZ := Lib.hid hZ
            clear hOZ hTZ hVZ hZ hy hz
            go_wp2_with fail
            go_roundw
            case rel => exact ⟨k + 1, Z.set k z, by go_num, by omega, by rw [List.length_set]; exact HZ.out, HS.out.1, HS.out.2⟩
            case measure => simp [intOf]; omega
          · obtain ⟨F, _, hW, hF, hB, hA, hO, hb⟩ := AFT.out
            have hzV := hb.size
            have hW6 := hW.keep hTZ (fun b h1 h2 => (hO b h2).1 h1)
            have hB6 := hTZ.bys hB (fun h0 ad e hx => (hO _ hx).2 h0 ad e rfl)
            have hb6 := hTZ.below hb hzV (fun b hb => (hVZ.lt b hb).1)
            have HOUT := Lib.hid (out_any _ F Y wp hW6 (by omega))
            have H6 := Lib.hid (And.intro hF (And.intro hA (And.intro hW6 (And.intro hB6 hb6))))
            clear hVZ hTZ hW hF hB hA hO hb hW6 hB6 hb6 AFT hZ
            go_wp2_with fail
            refine HOUT.out.mono ?_
            rintro e V3 ⟨A5, c5, rfl, hV5, hb5⟩
            obtain ⟨hF, hA, hW6, hB6, hb6⟩ := H6.out
            have hz5 := hb5.size
            have hz6 := hb6.size
            have HEQ := Lib.hid (eq_yes _ _ _ _ _ _ Y Y V3 hV5.bys.2 ((hB6.below hb5 (Nat.le_refl _)).more hz5) rfl)
            have hlY9 : Y.length ≤ 9223372036854775807 := by omega
            clear hF hA hW6 hB6 hb6
            go_wp2_with fail
            refine HEQ.out.mono ?_
            rintro e w' ⟨rfl, rfl⟩
            go_wp2_with fail
            go_loopw [99] (fun t wr => XRel V3 wp.heap.size A5 Y.length c5 t wr) (fun t _ => Y.length - (intOf t).toNat)
            case atStart => exact XRel.start hV5
            case round =>
              obtain ⟨k2, Z2, rfl, hk2, hZ2, hVZ2, hTZ2⟩ := hrel
              by_cases hkx2 : k2 < Y.length
              · obtain ⟨gz, rfl, _, hOZ⟩ := hVZ2.pos_ (by omega)
                have hck := hOZ.1.cellAt k2 (by omega)
                rw [cells_at Z2 k2 (by omega)] at hck
                have hfk := hOZ.1.frozenAt k2
                have hy256 := Pl.oct_getD hOZ.oct k2
                obtain ⟨y, hy⟩ : ∃ y, y = Z2.getD k2 0 := ⟨_, rfl⟩
                rw [← hy] at hck hy256
                have hxor : bits BinOp.xor IntKind.u8 (y : Int) 255 = ((y ^^^ 255 : Nat) : Int) := u8_xor_nat y 255 hy256 (by omega)
                have hx256 : y ^^^ 255 < 256 := Nat.xor_lt_two_pow (n := 8) hy256 (by omega)
                obtain ⟨z, hz⟩ : ∃ z, z = y ^^^ 255 := ⟨_, rfl⟩
                rw [← hz] at hxor hx256
                have HS := Lib.hid (XRel.next (k := k2) (z := z) hZ2 hOZ hTZ2 hx256)
                have HZ := Lib.hid hZ2
                clear hOZ hTZ2 hVZ2 hZ2 hy hz
                go_wp2_with fail
                go_roundw
                case rel => exact ⟨k2 + 1, Z2.set k2 z, by go_num, by omega, by rw [List.length_set]; exact HZ.out, HS.out.1, HS.out.2⟩
                case measure => simp [intOf]; omega
              · obtain ⟨hF, hA, hW6, hB6, hb6⟩ := H6.out
                have hFl6 := hW6.lt
                have hW7 := (hW6.below hb5).keep hTZ2 (fun b h1 h2 => by have a1 := (hVZ2.lt b h2).1; have a2 := hFl6 b h1; omega)
                have hB7 := hTZ2.bys ((hB6.below hb5 (Nat.le_refl _)).more hz5) (fun h0 ad e hx => by
                  obtain ⟨g', o', e', hg', _⟩ := hB6.at_ h0
                  rw [e] at e'
                  cases e'
                  have a1 := (hVZ2.lt _ hx).1
                  simp at a1
                  omega)
                have hb7 := hTZ2.below (hb6.trans (hb5.mono (by omega))) (by omega) (fun b hb => by have a1 := (hVZ2.lt b hb).1; omega)
                have H7 := Lib.hid (And.intro hF (And.intro hA (And.intro hW7 (And.intro hB7 hb7))))
                clear hF hA hW6 hB6 hb6 hW7 hB7 hb7 hVZ2 hTZ2 hZ2 H6 hV5 hb5
                go_wp2_with fail
                go_roundw
                case rel =>
                  obtain ⟨hF, hA, hW7, hB7, hb7⟩ := H7.out
                  exact ⟨j + 1, Av, cv, Y, F, by go_num, by omega, by omega, rfl, hB7, hA, hW7, hF, hlY, hb7⟩
                case measure => simp [intOf]; omega
      · obtain ⟨hB2, hA, hW2, hF, hbl, hbw2, hBt2, hVo', hFo, hTq⟩ := H2.out
        have AFT := Lib.hid (show Aft w M Ao co A c bs W2 from ⟨F, ⟨T, hVo'⟩, hW2, hF, hB2, hA, fun g hg => ⟨hFo g hg, fun h0 ad e e2 => by
          obtain ⟨g', o', e', hg', _⟩ := HBW.out h0
          rw [e] at e'
          cases e'
          simp only at e2
          have a1 := HVW.out g hg
          omega⟩, hbw2⟩)
        have hlY : bs.length ≤ 320 * (j + 1) := by omega
        obtain ⟨Y, hY⟩ : ∃ Y, Y = bs := ⟨_, rfl⟩
        obtain ⟨Av, hAv⟩ : ∃ Av : Option Addr, Av = A := ⟨_, rfl⟩
        obtain ⟨cv, hcv⟩ : ∃ cv, cv = c := ⟨_, rfl⟩
        obtain ⟨V, hVV⟩ : ∃ V, V = W2 := ⟨_, rfl⟩
        rw [← hY, ← hAv, ← hcv, ← hVV] at AFT
        rw [← hY] at hlY
        rw [← hY, ← hAv, ← hcv, ← hVV]
        have b0 : (what == 0) = false := by rw [beq_eq_false_iff_ne]; omega
        have b1 : (what == 1) = false := by rw [beq_eq_false_iff_ne]; omega
        have b2 : (what == 2) = false := by rw [beq_eq_false_iff_ne]; omega
        have b3 : (what == 3) = false := by rw [beq_eq_false_iff_ne]; omega
        have b4 : (what == 4) = false := by rw [beq_eq_false_iff_ne]; omega
        rw [← hVV] at q0
        clear hY hAv hcv hVV H2 q1 k0 k1 k2 k3 k4
        clear hB2 hA hW2 hF hbl hbw2 hBt2 hVo' hFo hTq
        go_wp2_with fail
        go_loopw [82] (fun t wr => XRel V w.heap.size Ao M co t wr) (fun t _ => M - (intOf t).toNat)
        case atStart =>
          obtain ⟨_, ⟨os, hVV⟩, _⟩ := AFT.out
          exact XRel.start hVV
        case round =>
          obtain ⟨k, Z, rfl, hk, hZ, hVZ, hTZ⟩ := hrel
          obtain ⟨wp, rfl⟩ : ∃ wp : World, wp = wr := ⟨_, rfl⟩
          by_cases hkx : k < M
          · obtain ⟨gz, rfl, _, hOZ⟩ := hVZ.pos_ (by omega)
            have hck := hOZ.1.cellAt k (by omega)
            rw [cells_at Z k (by omega)] at hck
            have hfk := hOZ.1.frozenAt k
            have hy256 := Pl.oct_getD hOZ.oct k
            obtain ⟨y, hy⟩ : ∃ y, y = Z.getD k 0 := ⟨_, rfl⟩
            rw [← hy] at hck hy256
            have hxor : bits BinOp.xor IntKind.u8 (y : Int) 255 = ((y ^^^ 255 : Nat) : Int) := u8_xor_nat y 255 hy256 (by omega)
            have hx256 : y ^^^ 255 < 256 := Nat.xor_lt_two_pow (n := 8) hy256 (by omega)
            obtain ⟨z, hz⟩ : ∃ z, z = y ^^^ 255 := ⟨_, rfl⟩
            rw [← hz] at hxor hx256
            have HS := Lib.hid (XRel.next (k := k) (z := z) hZ hOZ hTZ hx256)
            have HZ := Lib.hid hZ
            clear hOZ hTZ hVZ hZ hy hz
            go_wp2_with fail
            go_roundw
            case rel => exact ⟨k + 1, Z.set k z, by go_num, by omega, by rw [List.length_set]; exact HZ.out, HS.out.1, HS.out.2⟩
            case measure => simp [intOf]; omega
          · obtain ⟨F, _, hW, hF, hB, hA, hO, hb⟩ := AFT.out
            have hzV := hb.size
            have hW6 := hW.keep hTZ (fun b h1 h2 => (hO b h2).1 h1)
            have hB6 := hTZ.bys hB (fun h0 ad e hx => (hO _ hx).2 h0 ad e rfl)
            have hb6 := hTZ.below hb hzV (fun b hb => (hVZ.lt b hb).1)
            have HOUT := Lib.hid (out_any _ F Y wp hW6 (by omega))
            have H6 := Lib.hid (And.intro hF (And.intro hA (And.intro hW6 (And.intro hB6 hb6))))
            clear hVZ hTZ hW hF hB hA hO hb hW6 hB6 hb6 AFT hZ
            go_wp2_with fail
            refine HOUT.out.mono ?_
            rintro e V3 ⟨A5, c5, rfl, hV5, hb5⟩
            obtain ⟨hF, hA, hW6, hB6, hb6⟩ := H6.out
            have hz5 := hb5.size
            have hz6 := hb6.size
            have HEQ := Lib.hid (eq_yes _ _ _ _ _ _ Y Y V3 hV5.bys.2 ((hB6.below hb5 (Nat.le_refl _)).more hz5) rfl)
            have hlY9 : Y.length ≤ 9223372036854775807 := by omega
            clear hF hA hW6 hB6 hb6
            go_wp2_with fail
            refine HEQ.out.mono ?_
            rintro e w' ⟨rfl, rfl⟩
            go_wp2_with fail
            go_loopw [99] (fun t wr => XRel V3 wp.heap.size A5 Y.length c5 t wr) (fun t _ => Y.length - (intOf t).toNat)
            case atStart => exact XRel.start hV5
            case round =>
              obtain ⟨k2, Z2, rfl, hk2, hZ2, hVZ2, hTZ2⟩ := hrel
              by_cases hkx2 : k2 < Y.length
              · obtain ⟨gz, rfl, _, hOZ⟩ := hVZ2.pos_ (by omega)
                have hck := hOZ.1.cellAt k2 (by omega)
                rw [cells_at Z2 k2 (by omega)] at hck
                have hfk := hOZ.1.frozenAt k2
                have hy256 := Pl.oct_getD hOZ.oct k2
                obtain ⟨y, hy⟩ : ∃ y, y = Z2.getD k2 0 := ⟨_, rfl⟩
                rw [← hy] at hck hy256
                have hxor : bits BinOp.xor IntKind.u8 (y : Int) 255 = ((y ^^^ 255 : Nat) : Int) := u8_xor_nat y 255 hy256 (by omega)
                have hx256 : y ^^^ 255 < 256 := Nat.xor_lt_two_pow (n := 8) hy256 (by omega)
                obtain ⟨z, hz⟩ : ∃ z, z = y ^^^ 255 := ⟨_, rfl⟩
                rw [← hz] at hxor hx256
                have HS := Lib.hid (XRel.next (k := k2) (z := z) hZ2 hOZ hTZ2 hx256)
                have HZ := Lib.hid hZ2
                clear hOZ hTZ2 hVZ2 hZ2 hy hz
                go_wp2_with fail
                go_roundw
                case rel => exact ⟨k2 + 1, Z2.set k2 z, by go_num, by omega, by rw [List.length_set]; exact HZ.out, HS.out.1, HS.out.2⟩
                case measure => simp [intOf]; omega
              · obtain ⟨hF, hA, hW6, hB6, hb6⟩ := H6.out
                have hFl6 := hW6.lt
                have hW7 := (hW6.below hb5).keep hTZ2 (fun b h1 h2 => by have a1 := (hVZ2.lt b h2).1; have a2 := hFl6 b h1; omega)
                have hB7 := hTZ2.bys ((hB6.below hb5 (Nat.le_refl _)).more hz5) (fun h0 ad e hx => by
                  obtain ⟨g', o', e', hg', _⟩ := hB6.at_ h0
                  rw [e] at e'
                  cases e'
                  have a1 := (hVZ2.lt _ hx).1
                  simp at a1
                  omega)
                have hb7 := hTZ2.below (hb6.trans (hb5.mono (by omega))) (by omega) (fun b hb => by have a1 := (hVZ2.lt b hb).1; omega)
                have H7 := Lib.hid (And.intro hF (And.intro hA (And.intro hW7 (And.intro hB7 hb7))))
                clear hF hA hW6 hB6 hb6 hW7 hB7 hb7 hVZ2 hTZ2 hZ2 H6 hV5 hb5
                go_wp2_with fail
                go_roundw
                case rel =>
                  obtain ⟨hF, hA, hW7, hB7, hb7⟩ := H7.out
                  exact ⟨j + 1, Av, cv, Y, F, by go_num, by omega, by omega, rfl, hB7, hA, hW7, hF, hlY, hb7⟩
                case measure => simp [intOf]; omega
    · have hbr := hb
      have hzr := hb.size
      have H9 := Lib.hid (And.intro hB (And.intro hW hb))
      clear hB hA hW hF hb
      by_cases h6 : j = n
      · subst h6
        go_wp2_with fail
        refine (awake_any wo).mono ?_
        rintro e wa ⟨rfl, hba⟩
        obtain ⟨hB, hW, hb⟩ := H9.out
        have hza := hba.size
        have HOUT := Lib.hid (out_any _ F bs wa (hW.below hba) (by omega))
        have hBa := (hB.below hba (Nat.le_refl _)).more hza
        have hbA := hb.trans (hba.mono (by omega))
        clear hB hW hb
        go_wp2_with fail
        refine HOUT.out.mono ?_
        rintro e wo ⟨A5, c5, rfl, hV5, hb5⟩
        have HEQ := Lib.hid (eq_yes _ _ _ _ _ _ bs bs wo hV5.bys.2 ((hBa.below hb5 (Nat.le_refl _)).more hb5.size) rfl)
        clear hBa
        go_wp2_with fail
        refine HEQ.out.mono ?_
        rintro e w' ⟨rfl, rfl⟩
        go_wp2_with fail
        go_ret
        exact ⟨rfl, hbA.trans (hb5.mono (by omega))⟩
      · have hj6 : j = 60 := by omega
        subst hj6
        obtain ⟨g, o, A', m, c', rfl, hg, x0, hI0, x1, hU1, x2, hB2⟩ := (HT.out.below H9.out.2.2 (Nat.le_refl _)).2.2.2 60 (by omega)
        obtain ⟨⟨what, N, ts⟩, ht⟩ : ∃ t, t = l.getD 60 default := ⟨_, rfl⟩
        rw [← ht] at x0 hI0 x1 hU1 hB2
        simp only at x0 hI0 x1 hU1 hB2
        clear ht hB2
        go_wp2_with fail
        refine (awake_any _).mono ?_
        rintro e wa ⟨rfl, hba⟩
        obtain ⟨hB, hW, hb⟩ := H9.out
        have hb8 : Below wo.heap.size wo (wo.alloc (.cells #[.int .i64 what, .int .u64 (N : Int), .slice A' m c'] 29)) := (Below.refl _ _).alloc (Nat.le_refl _) _
        have hz8 := hb8.size
        have hB := (hB.below hb8 (Nat.le_refl _)).more hz8
        have hW := hW.below hb8
        have hb := hb.trans (hb8.mono (by omega))
        have hza := hba.size
        have HOUT := Lib.hid (out_any _ F bs wa (hW.below hba) (by omega))
        have hBa := (hB.below hba (Nat.le_refl _)).more hza
        have hbA := hb.trans (hba.mono (by omega))
        clear hB hW hb
        go_wp2_with fail
        refine HOUT.out.mono ?_
        rintro e wo ⟨A5, c5, rfl, hV5, hb5⟩
        have HEQ := Lib.hid (eq_yes _ _ _ _ _ _ bs bs wo hV5.bys.2 ((hBa.below hb5 (Nat.le_refl _)).more hb5.size) rfl)
        clear hBa
        go_wp2_with fail
        refine HEQ.out.mono ?_
        rintro e w' ⟨rfl, rfl⟩
        go_wp2_with fail
        go_ret
        exact ⟨rfl, hbA.trans (hb5.mono (by omega))⟩
end Go.Proofs.Ytpakbpkcacdpbaa.wireWrites
