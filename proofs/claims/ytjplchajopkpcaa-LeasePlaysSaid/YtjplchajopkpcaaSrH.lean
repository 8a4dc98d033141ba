/-
  slices.breakPatternsOrdered at uint32. Conditions: rows of at most a million.
-/
import Derived.Test.YtjplchajopkpcaaSrG
import Derived.Test.YtjplchajopkpcaaShelf
namespace Go.Proofs.Ytjplchajopkpcaa
open Go.RowKit Go.Sort Go.Shelf

/-- what three rounds do -/
def bpSt (a L M i0 : Nat) (d : Array Int) : Nat → UInt64 × Array Int
  | 0 => (UInt64.ofNat L, d)
  | t + 1 => breakStep a L M (bpSt a L M i0 d t) (i0 + t)
theorem wr7 {a q : Nat} (ha : a < 1000000) (hq : q < 1000001) (h1 : 0 < q) : wrap64 (wrap64 ((a : Int) + wrap64 (wrap64 (q : Int) * 2)) - 1) = ((a + q * 2 - 1 : Nat) : Int) := by unfold wrap64; omega
theorem wr8 {a q : Nat} (ha : a < 1000000) (hq : q < 1000001) : wrap64 (wrap64 ((a : Int) + wrap64 (wrap64 (q : Int) * 2)) + 1) = ((a + q * 2 + 1 : Nat) : Int) := by unfold wrap64; omega
theorem wr9 {M M1 : Nat} (h : M < 3000000) (e : M = 1 + M1) : IntKind.u64.wrap ((M : Int) - 1) = (M1 : Int) := by rw [IntKind.wrap_u64]; omega
theorem wr10 {a o P : Nat} (h : P = a + o) (hp : P < 4000000) : wrap64 ((a : Int) + (o : Int)) = (P : Int) := by unfold wrap64; omega
theorem wr11 {a o P : Nat} (h : P = a + o) (hp : P < 4000000) : IntKind.i64.wrap ((a : Int) + (o : Int)) = (P : Int) := by rw [IntKind.wrap_i64]; omega
theorem break_is {d : Array Int} {a L : Nat} (h : 8 ≤ L) : breakPatterns d a (a + L) = (bpSt a L (1 <<< bitsLen L) (a + L / 4 * 2 - 1) d 3).2 := by
  unfold breakPatterns
  simp only [Nat.add_sub_cancel_left, ge_iff_le, h, if_true, bpSt, Nat.add_zero]
/-- the row beside the chance -/
structure Rn (w0 : World) (base g n c : Nat) (d : Array Int) (k X : Nat) (w : World) : Prop where
  row : Sr w0 base g n c d w
  blk : w.heap[k]? = some (.cells #[.int .u64 (X : Int)] 91 (0, 0))
  new : w0.heap.size ≤ k
  ne : k ≠ g
section
variable {w0 w w' : World} {base g n c k X : Nat} {d : Array Int}
theorem Rn.cell (h : Rn w0 base g n c d k X w) : w.cell? ⟨k, 0, none⟩ = some (.int .u64 (X : Int)) := cell0 (r := []) h.blk
theorem Rn.fro (h : Rn w0 base g n c d k X w) : w.frozen? ⟨k, 0, none⟩ = false := frozen_of_row w k 0 _ _ h.blk
theorem Rn.next (h : Rn w0 base g n c d k X w) (Y q : Nat) : Rn w0 base g n c d k Y ((w.setCell ⟨k, 0, none⟩ (.int .u64 (Y : Int))).drewN q) :=
  ⟨(h.row.tn_ (T := fun i => i = k) ((Tn.refl (fun i => i = k) w).set_ (p := ⟨k, 0, none⟩) (Or.inr rfl) _) (fun b hb e => by have := h.new; omega) (fun e => h.ne e.symm)).drewN q, blk_set h.blk _, h.new, h.ne⟩
theorem Rn.swap (h : Rn w0 base g n c d k X w) {i j : Nat} (hi : i < n) (hj : j < n) : Rn w0 base g n c (swp d i j) k X ((w.setCell ⟨g, i, none⟩ (.int .u32 d[j]!)).setCell ⟨g, j, none⟩ (.int .u32 d[i]!)).drew :=
  ⟨(h.row.swap hi hj).drew, by
    show ((w.setCell ⟨g, i, none⟩ (.int .u32 d[j]!)).setCell ⟨g, j, none⟩ (.int .u32 d[i]!)).heap[k]? = _
    rw [blk_keep _ h.ne, blk_keep _ h.ne]; exact h.blk, h.new, h.ne⟩
end
/-- between two rounds -/
def BpO (w0 : World) (base g n c k a L M i0 : Nat) (d : Array Int) (v : Value) (w : World) : Prop := ∃ t : Nat, v = .int .i64 ((i0 + t : Nat) : Int) ∧ t ≤ 3 ∧ Rn w0 base g n c (bpSt a L M i0 d t).2 k (bpSt a L M i0 d t).1.toNat w
set_option maxRecDepth 100000 in
set_option maxHeartbeats 4000000 in
theorem break_u {w0 w : World} {base g n c a L : Nat} {d : Array Int} (h : Sr w0 base g n c d w) (hw : w0.heap.size ≤ w.heap.size) (hL : 8 ≤ L) (hb : a + L ≤ n) (hn : n ≤ 1000000) :
    Calls Try.prog 42 #[.slice (some ⟨g, 0, none⟩) n c, .int .i64 (a : Int), .int .i64 ((a + L : Nat) : Int)] w fun e w' => e = .returned (.tuple #[]) ∧ Sr w0 base g n c (breakPatterns d a (a + L)) w' := by
  rw [break_is hL]
  obtain ⟨M, hM⟩ : ∃ M, M = 1 <<< bitsLen L := ⟨_, rfl⟩
  have hP : ∀ w, Calls Try.prog 52 #[.int .i64 (L : Int)] w fun e w' => e = .returned (.int .u64 ((1 <<< bitsLen L : Nat) : Int)) ∧ w' = w := fun w => AnyF.nextPowerOfTwo Try.laysPow L (by omega) w
  rw [← hM] at hP ⊢
  have HP := Lib.hid hP
  obtain ⟨q, hq⟩ : ∃ q, q = L / 4 := ⟨_, rfl⟩
  obtain ⟨i0, hi0⟩ : ∃ q, q = a + L / 4 * 2 - 1 := ⟨_, rfl⟩
  rw [← hi0]
  obtain ⟨b, hbb⟩ : ∃ b, b = a + L := ⟨_, rfl⟩
  rw [← hbb]
  have hL9 : L < 1000001 := by omega
  have hL8 : L < 1000001 := by omega
  have e1 := wr4 (a := a) (b := b) (L := L) hL8 hbb
  have e2 := wr5 hq
  have hwu : IntKind.u64.wrap (L : Int) = (L : Int) := by rw [IntKind.wrap_u64]; omega
  have g1 : decide ((L : Int) ≥ 8) = true := decide_eq_true (by omega)
  have g3 : decide ((8 : Int) ≤ (L : Int)) = true := decide_eq_true (by omega)
  have g5 : decide (8 ≤ L) = true := decide_eq_true (by omega)
  have HH := Lib.hid h
  have HN := Lib.hid (show a + L ≤ n ∧ n ≤ 1000000 ∧ 8 ≤ L ∧ q = L / 4 ∧ i0 = a + L / 4 * 2 - 1 ∧ b = a + L from ⟨hb, hn, hL, hq, hi0, hbb⟩)
  have HM := Lib.hid (show M ≤ 2 * L ∧ 1 ≤ M by
    rw [hM, Nat.one_shiftLeft]
    exact ⟨two_pow_bitsLen_le (by omega), Nat.one_le_two_pow⟩)
  obtain ⟨E, hE⟩ : ∃ E, E = a + q * 2 + 1 := ⟨_, rfl⟩
  have HE := Lib.hid hE
  have HE8 := Lib.hid (show wrap64 (wrap64 ((a : Int) + wrap64 (wrap64 (q : Int) * 2)) + 1) = (E : Int) by rw [hE]; exact wr8 (by omega) (by omega))
  have HX0 := Lib.hid (show wrap64 (wrap64 ((a : Int) + wrap64 (wrap64 (q : Int) * 2)) - 1) = (i0 : Int) by rw [hi0, ← hq]; exact wr7 (by omega) (by omega) (by omega))
  have HW := Lib.hid hw
  have HNE := Lib.hid (show w.heap.size ≠ g by have := h.at_.2; omega)
  clear h hP hM hq hi0 hbb hb hn hL hL8 hE hw
  go_enter Try.func42, Try.ntmps42
  go_wp2_with fail
  refine (HP.out _).mono ?_
  rintro e w1 ⟨rfl, rfl⟩
  go_wp2_with fail
  go_loopw [9] (fun v wr => BpO w0 base g n c w.heap.size a L M i0 d v wr) (fun v _ => i0 + 3 - (intOf v).toNat)
  case atStart =>
    refine ⟨0, ?_, Nat.zero_le _, ?_⟩
    · rw [HX0.out]; rfl
    · exact ⟨HH.out.alloc _, by
        rw [show (bpSt a L M i0 d 0).1.toNat = L from UInt64.toNat_ofNat_of_lt' (by have := HN.out; unfold UInt64.size; omega)]
        exact heap_new rfl, HW.out, HNE.out⟩
  case round =>
    obtain ⟨t, rfl, ht, hs⟩ := hrel
    have HE2 := Lib.hid e2
    clear e1 e2 hwu g1 g3 g5
    obtain ⟨z, hz⟩ : ∃ z, z = i0 + t := ⟨_, rfl⟩
    rw [← hz]
    obtain ⟨⟨r, dk⟩, hst⟩ : ∃ q, q = bpSt a L M i0 d t := ⟨_, rfl⟩
    rw [← hst] at hs
    simp only at hs
    obtain ⟨X, hX⟩ : ∃ X, X = r.toNat := ⟨_, rfl⟩
    rw [← hX] at hs
    have HST := Lib.hid hst
    have HX := Lib.hid hX
    have HS := Lib.hid hs
    have HZ := Lib.hid hz
    have HQ := Lib.hid (show wrap64 (wrap64 ((a : Int) + wrap64 (wrap64 (q : Int) * 2)) + 1) = (E : Int) from HE8.out)
    clear hst hX hs
    by_cases hlt : t < 3
    · have z1 : decide ((z : Int) ≤ (E : Int)) = true := decide_eq_true (by have := HE.out; have := HN.out; omega)
      have z2 : decide (z ≤ E) = true := decide_eq_true (by have := HE.out; have := HN.out; omega)
      obtain ⟨Y, hY⟩ : ∃ Y, Y = xorNextN X := ⟨_, rfl⟩
      have lX : X < 18446744073709551616 := by rw [HX.out]; exact r.toNat_lt
      have lY : Y < 18446744073709551616 := by rw [hY]; exact xorNextN_lt X lX
      have hNX : Calls Try.prog 53 #[.pointer (some ⟨w.heap.size, 0, none⟩)] wr fun e w' => e = .returned (.int .u64 (Y : Int)) ∧ w' = (wr.setCell ⟨w.heap.size, 0, none⟩ (.int .u64 (Y : Int))).drewN 3 := by
        rw [hY]; exact AnyF.xorshift_Next Try.laysXor w.heap.size 0 X lX wr HS.out.cell HS.out.fro
      have HNX := Lib.hid hNX
      obtain ⟨M1, hM1⟩ : ∃ M1, M1 = M - 1 := ⟨_, rfl⟩
      obtain ⟨O, hO⟩ : ∃ O, O = Y &&& M1 := ⟨_, rfl⟩
      have lO : O ≤ M1 := by rw [hO]; exact Nat.and_le_right
      have B1 := Lib.hid (show bits .and .u64 (Y : Int) (M1 : Int) = (O : Int) by rw [bits_and_u64_nat _ _ lY (by have := HM.out; omega), hO])
      have B2 := Lib.hid (wr9 (M := M) (M1 := M1) (by have := HM.out; omega) (by have := HM.out; omega))
      have hO9 : O < 2000002 := by have := HM.out; omega
      have HOL := Lib.hid (show O < 2 * L by have := HM.out; omega)
      have HYO := Lib.hid (show Y = (xorNext r).toNat ∧ O = (xorNext r).toNat &&& (M - 1) by
        have e : Y = (xorNext r).toNat := by rw [hY, HX.out, xorNext_toNat]
        exact ⟨e, by rw [hO, e, hM1]⟩)
      have HT := Lib.hid (show z < n ∧ z < 1000000 ∧ t + 1 ≤ 3 ∧ i0 + 2 - z < i0 + 3 - z by have := HN.out; have := HZ.out; omega)
      have hz9 := HT.out.2.1
      have HZ1 := Lib.hid (show i0 + (t + 1) = z + 1 by omega)
      clear hY lX lY hNX hM1 hO lO hlt ht hz
      by_cases hOL : L ≤ O
      · have y1 : decide ((O : Int) ≥ (L : Int)) = true := decide_eq_true (by omega)
        have y2 : decide ((L : Int) ≤ (O : Int)) = true := decide_eq_true (by omega)
        have y3 : decide (L ≤ O) = true := decide_eq_true hOL
        obtain ⟨o2, ho2⟩ : ∃ o2, o2 = O - L := ⟨_, rfl⟩
        obtain ⟨P, hP⟩ : ∃ P, P = a + o2 := ⟨_, rfl⟩
        have HPP := Lib.hid (And.intro hP ho2)
        have HPQ := Lib.hid (show P < a + L by have := HOL.out; omega)
        have HPN := Lib.hid (show P < n ∧ P < 1000001 by have := HN.out; have := HPQ.out; omega)
        have HLE := Lib.hid hOL
        have y0 : (O : Int) - (L : Int) = (o2 : Int) := by omega
        have y5 : wrap64 ((a : Int) + ((O : Int) - (L : Int))) = (P : Int) := by rw [y0]; exact wr10 hP (Nat.lt_trans HPN.out.2 (by decide))
        have y6 : IntKind.i64.wrap ((a : Int) + ((O : Int) - (L : Int))) = (P : Int) := by rw [y0]; exact wr11 hP (Nat.lt_trans HPN.out.2 (by decide))
        clear y0
        clear hP ho2 hOL
        have hq := HQ.out
        have e2 := HE2.out
        have b1 := B1.out
        have b2 := B2.out
        go_wp2_with fail
        refine HNX.out.mono ?_
        rintro e w5 ⟨rfl, hw5⟩
        have hs5 := HS.out.next Y 3
        rw [← hw5] at hs5
        clear hw5
        obtain ⟨W5, hW5⟩ : ∃ z, z = w5 := ⟨_, rfl⟩
        subst hW5
        have HS5 := Lib.hid hs5
        clear hs5
        have l1 : (z : Int) < (n : Int) := Int.ofNat_lt.2 HT.out.1
        have l2 : (P : Int) < (n : Int) := Int.ofNat_lt.2 HPN.out.1
        have c1 := HS5.out.row.cell HT.out.1
        have c2 := HS5.out.row.cell HPN.out.1
        have f1 := HS5.out.row.fro (j := z)
        have f2 := HS5.out.row.fro (j := P)
        obtain ⟨x, hx⟩ : ∃ x, x = dk[z]! := ⟨_, rfl⟩
        obtain ⟨y, hy⟩ : ∃ y, y = dk[P]! := ⟨_, rfl⟩
        have hs6 := HS5.out.swap HT.out.1 HPN.out.1
        rw [← hx] at c1 hs6
        rw [← hy] at c2 hs6
        obtain ⟨u, c3⟩ := HS5.out.row.cell2 (i := z) HPN.out.1 (.int .u32 y)
        have HB := Lib.hid (show bpSt a L M i0 d (t + 1) = (xorNext r, swp dk z P) by
          show breakStep a L M (bpSt a L M i0 d t) (i0 + t) = _
          rw [← HST.out, ← HZ.out]
          unfold breakStep
          simp only
          rw [← HYO.out.2, if_pos HLE.out, ← HPP.out.2, ← HPP.out.1])
        clear hx hy
        go_wp2_with fail
        go_region
        generalize ((W5.setCell ⟨g, z, none⟩ (.int .u32 y)).setCell ⟨g, P, none⟩ (.int .u32 x)).drew = W6 at hs6 ⊢
        have HS6 := Lib.hid hs6
        clear hs6 c1 c2 c3 f1 f2 l1 l2
        go_wp2_with fail
        go_roundw
        case rel => exact ⟨t + 1, by rw [HZ1.out]; go_num, HT.out.2.2.1, by rw [HB.out, ← HYO.out.1]; exact HS6.out⟩
        case measure => simp [intOf]; exact HT.out.2.2.2
      · have y1 : decide ((O : Int) ≥ (L : Int)) = false := decide_eq_false (by omega)
        have y2 : decide ((L : Int) ≤ (O : Int)) = false := decide_eq_false (by omega)
        have y3 : decide (L ≤ O) = false := decide_eq_false hOL
        obtain ⟨P, hP⟩ : ∃ P, P = a + O := ⟨_, rfl⟩
        have HPP := Lib.hid hP
        have HPQ := Lib.hid (show P < a + L by omega)
        have HPN := Lib.hid (show P < n ∧ P < 1000001 by have := HN.out; have := HPQ.out; omega)
        have HLE := Lib.hid hOL
        have y5 : wrap64 ((a : Int) + (O : Int)) = (P : Int) := wr10 hP (Nat.lt_trans HPN.out.2 (by decide))
        have y6 : IntKind.i64.wrap ((a : Int) + (O : Int)) = (P : Int) := wr11 hP (Nat.lt_trans HPN.out.2 (by decide))
        clear hP hOL
        have hq := HQ.out
        have e2 := HE2.out
        have b1 := B1.out
        have b2 := B2.out
        go_wp2_with fail
        refine HNX.out.mono ?_
        rintro e w5 ⟨rfl, hw5⟩
        have hs5 := HS.out.next Y 3
        rw [← hw5] at hs5
        clear hw5
        obtain ⟨W5, hW5⟩ : ∃ z, z = w5 := ⟨_, rfl⟩
        subst hW5
        have HS5 := Lib.hid hs5
        clear hs5
        have l1 : (z : Int) < (n : Int) := Int.ofNat_lt.2 HT.out.1
        have l2 : (P : Int) < (n : Int) := Int.ofNat_lt.2 HPN.out.1
        have c1 := HS5.out.row.cell HT.out.1
        have c2 := HS5.out.row.cell HPN.out.1
        have f1 := HS5.out.row.fro (j := z)
        have f2 := HS5.out.row.fro (j := P)
        obtain ⟨x, hx⟩ : ∃ x, x = dk[z]! := ⟨_, rfl⟩
        obtain ⟨y, hy⟩ : ∃ y, y = dk[P]! := ⟨_, rfl⟩
        have hs6 := HS5.out.swap HT.out.1 HPN.out.1
        rw [← hx] at c1 hs6
        rw [← hy] at c2 hs6
        obtain ⟨u, c3⟩ := HS5.out.row.cell2 (i := z) HPN.out.1 (.int .u32 y)
        have HB := Lib.hid (show bpSt a L M i0 d (t + 1) = (xorNext r, swp dk z P) by
          show breakStep a L M (bpSt a L M i0 d t) (i0 + t) = _
          rw [← HST.out, ← HZ.out]
          unfold breakStep
          simp only
          rw [← HYO.out.2, if_neg HLE.out, ← HPP.out])
        clear hx hy
        go_wp2_with fail
        go_region
        generalize ((W5.setCell ⟨g, z, none⟩ (.int .u32 y)).setCell ⟨g, P, none⟩ (.int .u32 x)).drew = W6 at hs6 ⊢
        have HS6 := Lib.hid hs6
        clear hs6 c1 c2 c3 f1 f2 l1 l2
        go_wp2_with fail
        go_roundw
        case rel => exact ⟨t + 1, by rw [HZ1.out]; go_num, HT.out.2.2.1, by rw [HB.out, ← HYO.out.1]; exact HS6.out⟩
        case measure => simp [intOf]; exact HT.out.2.2.2
    · have z1 : decide ((z : Int) ≤ (E : Int)) = false := decide_eq_false (by have := HE.out; have := HN.out; omega)
      have z2 : decide (z ≤ E) = false := decide_eq_false (by have := HE.out; have := HN.out; omega)
      have HT3 := Lib.hid (show t = 3 by omega)
      have hq := HQ.out
      have e2 := HE2.out
      clear hlt ht hz
      go_wp2_with fail
      refine ⟨rfl, _, results_none (by kernel_rfl) _ _ _, rfl, ?_⟩
      rw [← HT3.out, ← HST.out]
      exact HS.out.row
end Go.Proofs.Ytjplchajopkpcaa
