/-
  The contract of copybooklaw03.written: the record of at most 60 things, in new memory. Conditions: those that it states.
-/
import Derived.Test.YtpakbpkcacdpbaaWireBackB
namespace Go.Proofs.Ytpakbpkcacdpbaa.wireBack
open Go.RowKit

/-- ahead of the round j -/
def RelW (w : World) (n : Nat) (l : List Thg) (i : Value) (wr : World) : Prop :=
  ∃ (j : Nat) (F : Nat → Prop), i = .int .i64 (j : Int) ∧ j ≤ n ∧ Wr wr w.heap.size F (recs (l.take j)) ∧ (∀ b, F b → w.heap.size ≤ b) ∧ (recs (l.take j)).length ≤ 320 * j ∧ Below w.heap.size w wr
theorem relW_next {w W2 W3 : World} {n j : Nat} {l : List Thg} {F : Nat → Prop} {Y : List Nat} (hlt : j < n) (hl : l.length = n) (hY : thg (l.getD j default) = Y) (hYl : Y.length ≤ 310) (hw : Wrote W2 w.heap.size F (recs (l.take j) ++ Y) W3) (hF : ∀ b, F b → w.heap.size ≤ b)
    (hb : Below w.heap.size w W2) (hbl : (recs (l.take j)).length ≤ 320 * j) : ∀ v, v = Value.int .i64 ((j : Int) + 1) → RelW w n l v W3 := by
  intro v hv
  obtain ⟨F2, h1, h2, h3, _⟩ := hw
  have z := hb.size
  have e : recs (l.take (j + 1)) = recs (l.take j) ++ Y := by rw [recs_snoc l j (by omega), hY]
  refine ⟨j + 1, F2, by rw [hv]; rfl, by omega, by rw [e]; exact h1, fun b hf => ?_, by rw [e, List.length_append]; omega, h2.below hb z hF⟩
  rcases h3 b hf with h | h
  · exact hF b h
  · omega

set_option maxRecDepth 100000 in
set_option maxHeartbeats 4000000 in
theorem written_any (A0 : Option Addr) (n c0 : Nat) (l : List Thg) (w : World) (hT : Things w w.heap.size A0 n c0 l) (h60 : n ≤ 60) :
    Calls Try.prog 42 #[.slice A0 n c0] w (RetV w (recs l)) := by
  have hb0 : Below w.heap.size w (w.alloc (.cells #[.pointer none, .int .i64 0] 25)) := (Below.refl _ _).alloc (Nat.le_refl _) _
  have HW0 := Lib.hid (wr_new w)
  have HT := Lib.hid hT
  clear hT
  go_enter Try.func42, Try.ntmps42
  go_wp2_with fail
  go_loopw [9] (fun i wr => RelW w n l i wr) (fun i _ => n - (intOf i).toNat)
  case atStart => exact ⟨0, _, rfl, by omega, HW0.out, fun b hb => Nat.le_of_eq (Eq.symm hb), by simp [recs], hb0⟩
  case round =>
    obtain ⟨j, F, rfl, hj, hW, hF, hbl, hb⟩ := hrel
    have z := hb.size
    by_cases hlt : j < n
    · obtain ⟨g, o, A', m, c', rfl, hg, x0, hI0, x1, hU1, x2, hB2⟩ := (HT.out.below hb (Nat.le_refl _)).2.2.2 j hlt
      obtain ⟨t, ht⟩ : ∃ t, t = l.getD j default := ⟨_, rfl⟩
      rw [← ht] at x0 hI0 x1 hU1 hB2
      have HTG := Lib.hid (And.intro ht (thg_len t hU1))
      clear ht
      obtain ⟨what, N, ts⟩ := t
      simp only at x0 hI0 x1 hU1 hB2
      obtain ⟨M, hM1, hM2, hM3, hmin0⟩ := min_run m 300
      have hmin : ∀ (w' : World) (ts : Array TypeId) (t : TypeId), (Builtin.min_ ts t #[.int .i64 (m : Int), .int .i64 300]).run Try.prog w' = .ok (.int .i64 (M : Int)) w' := hmin0
      clear hmin0
      have hm9 : m ≤ 9223372036854775807 := by have := hB2.cap; have := hB2.le; unfold maxLen at *; omega
      have hsl := slice_to A' m c' M (by have := hB2.le; omega)
      obtain ⟨W1, hW1⟩ : ∃ W1, W1 = wr.alloc (.cells #[.int .i64 what, .int .u64 (N : Int), .slice A' m c'] 29) := ⟨_, rfl⟩
      have hb1 : Below wr.heap.size wr W1 := by rw [hW1]; exact (Below.refl _ _).alloc (Nat.le_refl _) _
      have z1 := hb1.size
      have hb1' : Below w.heap.size w W1 := hb.trans (hb1.mono z)
      have hW1' := hW.below hb1
      have hlN : ts.length = m := hB2.len
      have hbt : ts.take M = bt ⟨what, N, ts⟩ := bt_take ⟨what, N, ts⟩ hlN (by rcases hM3 with h | h; exact Or.inl ⟨h, hM2⟩; exact Or.inr h)
      obtain ⟨T, hTd⟩ : ∃ T, T = ts.take M := ⟨_, rfl⟩
      have hBt : Bys W1 W1.heap.size A' M c' T := by rw [hTd]; exact ((hB2.upto hM1).below (hb1.mono z) (Nat.le_refl _)).more (by omega)
      have hTb : bt ⟨what, N, ts⟩ = T := by rw [hTd, hbt]
      have hTl := hBt.len
      have hap : Apart F A' M := fun h0 ad e hf => by
        obtain ⟨g', o', e', hg', _⟩ := hB2.at_ (i := 0) (by omega)
        rw [e] at e'
        cases e'
        have := hF _ hf
        simp at this
        omega
      obtain ⟨X, hX⟩ : ∃ X, X = recs (l.take j) := ⟨_, rfl⟩
      have HX := Lib.hid hX
      rw [← hX] at hW1' hbl
      have HL := Lib.hid HT.out.1
      have H2 := Lib.hid (And.intro hW1' (And.intro hF (And.intro hb1' (And.intro hBt (And.intro hap (And.intro hTb hTl))))))
      have HW := Lib.hid hW1
      clear hW hF hB2 hW1' hb1' hBt hap hTd hbt hTb hTl hW1 hX hlN hM3 hb
      by_cases k1 : what = 1
      · subst k1
        obtain ⟨hW1', hF, hb1', hBt, hap, hTb, hTl⟩ := H2.out
        have HC := Lib.hid (wint_any _ F X (wrap64 (N : Int)) W1 hW1' (I_wrap N) (by omega))
        clear hW1' hF hb1' hBt hap hTb hTl
        go_wp2_with fail
        rw [← HW.out]
        refine HC.out.mono ?_
        rintro e W3 ⟨rfl, hw3⟩
        obtain ⟨hW1', hF, hb1', hBt, hap, hTb, hTl⟩ := H2.out
        rw [HX.out] at hw3 hbl
        have HN := Lib.hid (relW_next (Y := Pl.enc (Pl.fold (wrap64 (N : Int)))) hlt HL.out (by rw [← HTG.out.1]; simp [thg]) (by have := HTG.out.2; simpa [thg] using this) hw3 hF hb1' hbl)
        clear hW1' hF hb1' hBt hap hTb hTl hw3 HC H2 hmin hsl x0 x1 x2 HW hb1
        go_wp2_with fail
        go_roundw
        case rel => exact HN.out _ (by go_num)
        case measure => simp [intOf]; omega
      by_cases k2 : what = 2
      · subst k2
        obtain ⟨pb, hpb, hpe⟩ : ∃ pb : Bool, ((N : Int) % 2 == 1) = pb ∧ Pl.enc (N % 2) = [pb.toNat] := by
          rcases (show N % 2 = 0 ∨ N % 2 = 1 by omega) with h | h
          · exact ⟨false, by rw [show ((N : Int) % 2) = 0 by omega]; rfl, by rw [h, Pl.enc_lt (by omega)]; rfl⟩
          · exact ⟨true, by rw [show ((N : Int) % 2) = 1 by omega]; rfl, by rw [h, Pl.enc_lt (by omega)]; rfl⟩
        obtain ⟨hW1', hF, hb1', hBt, hap, hTb, hTl⟩ := H2.out
        have HC := Lib.hid (wbool_any _ F X pb W1 hW1' (by omega))
        rw [← hpe] at HC
        clear hW1' hF hb1' hBt hap hTb hTl hpe
        go_wp2_with fail
        rw [← HW.out]
        refine HC.out.mono ?_
        rintro e W3 ⟨rfl, hw3⟩
        obtain ⟨hW1', hF, hb1', hBt, hap, hTb, hTl⟩ := H2.out
        rw [HX.out] at hw3 hbl
        have HN := Lib.hid (relW_next (Y := Pl.enc (N % 2)) hlt HL.out (by rw [← HTG.out.1]; simp [thg]) (by have := HTG.out.2; simpa [thg] using this) hw3 hF hb1' hbl)
        clear hW1' hF hb1' hBt hap hTb hTl hw3 HC H2 hmin hsl x0 x1 x2 HW hb1 hpb
        go_wp2_with fail
        go_roundw
        case rel => exact HN.out _ (by go_num)
        case measure => simp [intOf]; omega
      by_cases k3 : what = 3
      · subst k3
        obtain ⟨hW1', hF, hb1', hBt, hap, hTb, hTl⟩ := H2.out
        have HC := Lib.hid (wbytes_any _ F X A' M c' T W1 hW1' hBt hap (by omega))
        clear hW1' hF hb1' hBt hap hTb hTl
        go_wp2_with fail
        rw [← HW.out]
        refine HC.out.mono ?_
        rintro e W3 ⟨rfl, hw3⟩
        obtain ⟨hW1', hF, hb1', hBt, hap, hTb, hTl⟩ := H2.out
        rw [HX.out] at hw3 hbl
        have hY : thg ⟨3, N, ts⟩ = Pl.enc M ++ T := by simp [thg, hTb, hTl]
        have HN := Lib.hid (relW_next (Y := Pl.enc M ++ T) hlt HL.out (by rw [← HTG.out.1]; exact hY) (by have := HTG.out.2; rw [hY] at this; exact this) hw3 hF hb1' hbl)
        clear hW1' hF hb1' hBt hap hTb hTl hw3 HC H2 hmin hsl x0 x1 x2 HW hb1 hY
        go_wp2_with fail
        go_roundw
        case rel => exact HN.out _ (by go_num)
        case measure => simp [intOf]; omega
      by_cases k4 : what = 4
      · subst k4
        obtain ⟨hW1', hF, hb1', hBt, hap, hTb, hTl⟩ := H2.out
        have hcv := hBt.conv
        obtain ⟨sv, hsv⟩ : ∃ sv, sv = strOfNums (ints T) := ⟨_, rfl⟩
        rw [← hsv] at hcv
        have HC := Lib.hid (wstr_any _ F X sv T W1 hW1' hsv hBt.oct (by omega))
        rw [hTl] at HC
        rw [HW.out] at hcv
        clear hW1' hF hb1' hBt hap hTb hTl hsv
        go_wp2_with fail
        rw [← HW.out]
        refine HC.out.mono ?_
        rintro e W3 ⟨rfl, hw3⟩
        obtain ⟨hW1', hF, hb1', hBt, hap, hTb, hTl⟩ := H2.out
        rw [HX.out] at hw3 hbl
        have hY : thg ⟨4, N, ts⟩ = Pl.enc M ++ T := by simp [thg, hTb, hTl]
        have HN := Lib.hid (relW_next (Y := Pl.enc M ++ T) hlt HL.out (by rw [← HTG.out.1]; exact hY) (by have := HTG.out.2; rw [hY] at this; exact this) hw3 hF hb1' hbl)
        clear hW1' hF hb1' hBt hap hTb hTl hw3 HC H2 hmin hsl x0 x1 x2 HW hb1 hY hcv
        go_wp2_with fail
        go_roundw
        case rel => exact HN.out _ (by go_num)
        case measure => simp [intOf]; omega
      · have b1 : (what == 1) = false := by rw [beq_eq_false_iff_ne]; exact k1
        have b2 : (what == 2) = false := by rw [beq_eq_false_iff_ne]; exact k2
        have b3 : (what == 3) = false := by rw [beq_eq_false_iff_ne]; exact k3
        have b4 : (what == 4) = false := by rw [beq_eq_false_iff_ne]; exact k4
        obtain ⟨hW1', hF, hb1', hBt, hap, hTb, hTl⟩ := H2.out
        have hY : thg ⟨what, N, ts⟩ = Pl.enc N := by simp [thg, k1, k2, k3, k4]
        have HY := Lib.hid hY
        have HC := Lib.hid (wnum_any _ F X N W1 hW1' hU1 (by omega))
        clear hW1' hF hb1' hBt hap hTb hTl hY k1 k2 k3 k4
        go_wp2_with fail
        rw [← HW.out]
        refine HC.out.mono ?_
        rintro e W3 ⟨rfl, hw3⟩
        obtain ⟨hW1', hF, hb1', hBt, hap, hTb, hTl⟩ := H2.out
        rw [HX.out] at hw3 hbl
        have HN := Lib.hid (relW_next (Y := Pl.enc N) hlt HL.out (by rw [← HTG.out.1]; exact HY.out) (by have := HTG.out.2; rw [HY.out] at this; exact this) hw3 hF hb1' hbl)
        clear hW1' hF hb1' hBt hap hTb hTl hw3 HC H2 hmin hsl x0 x1 x2 HW hb1
        go_wp2_with fail
        go_roundw
        case rel => exact HN.out _ (by go_num)
        case measure => simp [intOf]; omega
    · have hjn : j = n := by omega
      have hl := HT.out.1
      rw [hjn, List.take_of_length_le (by omega)] at hW hbl
      have HO := Lib.hid (out_any _ F (recs l) wr hW (by omega))
      have hge : n ≤ j := by omega
      clear hW hF hl hjn
      go_wp2_with fail
      refine HO.out.mono ?_
      rintro e wo ⟨A5, c5, rfl, hV5, hb5⟩
      go_wp2_with fail
      go_ret
      exact ⟨A5, c5, rfl, hV5.lower z, hb.trans (hb5.mono z)⟩
end Go.Proofs.Ytpakbpkcacdpbaa.wireBack
