/-
  MarkParts's walk: rows one by one, and as one row; each client's place is its own: it returns true; nothing that was there turns. Conditions: what the law is given can be read as data.
-/
import Derived.Test.YtfjnliebgndemaaMkA
import Derived.Test.YtfjnliebgndemaaMkI
import Derived.Test.YtfjnliebgndemaaWvK
namespace Go.Proofs.Ytfjnliebgndemaa.markParts
open Go.RowKit
open Pl (Un)

theorem tmod_nat (a b : Nat) : (a : Int).tmod (b : Int) = ((a % b : Nat) : Int) := by
  rw [Int.tmod_eq_emod_of_nonneg (by omega)]; rfl
/-- two that live apart -/
structure TwoM (w0 w : World) (p1 b1 : Nat) (N1 : Int) (M1 : Pl.Mks) (p2 b2 : Nat) (N2 : Int) (M2 : Pl.Mks) : Prop where
  one : MarksO w w0.heap.size p1 b1 N1 M1
  two : MarksO w w0.heap.size p2 b2 N2 M2
  ap : ∀ i, i = b1 ∨ i = p1 → ¬ (i = b2 ∨ i = p2)
  below : Below w0.heap.size w0 w
section
variable {w0 w w' : World} {p1 b1 p2 b2 : Nat} {N1 N2 N' : Int} {M1 M2 M' : Pl.Mks}
theorem TwoM.then_ (h : TwoM w0 w p1 b1 N1 M1 p2 b2 N2 M2) (hb : Below w.heap.size w w') : TwoM w0 w' p1 b1 N1 M1 p2 b2 N2 M2 := ⟨h.one.then_ hb, h.two.then_ hb, h.ap, below_then h.below hb⟩
theorem TwoM.left {b' : Nat} (h : TwoM w0 w p1 b1 N1 M1 p2 b2 N2 M2) (h1 : MarksW w' p1 b' N' M') (hs : b' = b1 ∨ w.heap.size ≤ b') (ht : Tn (fun i => i = b1 ∨ i = p1) w w') : TwoM w0 w' p1 b' N' M' p2 b2 N2 M2 :=
  ⟨⟨h.one.p_, by have := h.one.b_; have := h.below.size; omega, h1⟩, ⟨h.two.p_, h.two.b_, h.two.at_.tn ht (fun e => h.ap _ e (.inr rfl)) (fun e => h.ap _ e (.inl rfl))⟩, fun i hi hj => by
    have := h.ap
    have a1 := h.ap b1 (.inl rfl)
    have a2 := h.ap p1 (.inr rfl)
    have := h.two.at_.lt
    have := h.two.at_.own.lt
    omega, h.one.tn h.below ht⟩
theorem TwoM.right {b' : Nat} (h : TwoM w0 w p1 b1 N1 M1 p2 b2 N2 M2) (h1 : MarksW w' p2 b' N' M') (hs : b' = b2 ∨ w.heap.size ≤ b') (ht : Tn (fun i => i = b2 ∨ i = p2) w w') : TwoM w0 w' p1 b1 N1 M1 p2 b' N' M' :=
  ⟨⟨h.one.p_, h.one.b_, h.one.at_.tn ht (fun e => h.ap p1 (.inr rfl) e) (fun e => h.ap b1 (.inl rfl) e)⟩, ⟨h.two.p_, by have := h.two.b_; have := h.below.size; omega, h1⟩, fun i hi hj => by
    have a1 := h.ap b1 (.inl rfl)
    have a2 := h.ap p1 (.inr rfl)
    have := h.one.at_.lt
    have := h.one.at_.own.lt
    omega, h.two.tn h.below ht⟩
end
theorem longR_ok {l : List Un} {n m : Int} (h : Pl.longL l n = (m, 0)) : 0 ≤ m ∧ m ≤ n + l.length := by
  unfold Pl.longL at h
  split at h
  · rename_i hc
    have := Pl.goR_ok l n hc.1 (by rw [h])
    rw [h] at this
    exact this
  · cases h
theorem longR_err {l : List Un} {n m e : Int} (h : Pl.longL l n = (m, e)) (he : e ≠ 0) : m = 0 := by
  unfold Pl.longL at h
  split at h
  · rcases Pl.goR_err l n with h1 | h1
    · rw [h] at h1; exact absurd h1 he
    · rw [h] at h1; exact (Prod.mk.inj h1).1
  · exact (Prod.mk.inj h).1.symm
set_option maxRecDepth 100000 in
set_option maxHeartbeats 4000000 in
theorem walk (W : World) (l0 p0 a0 : Nat) (hb : l0 < 256 ∧ p0 < 256 ∧ a0 < 256) (A : Option Addr) (n c : Nat) (l : List Un) (hu : Units W W.heap.size A n c l) :
    Calls Try.prog 4 #[.agg #[.int .u8 (l0 : Int), .int .u8 (p0 : Int), .int .u8 (a0 : Int)], .slice A n c] W fun e w' => e = .returned (.bool true) ∧ Below W.heap.size W w' := by
  obtain ⟨hl0, hp0, ha0⟩ := hb
  have h := hu.1
  have hle := h.le
  have hcap := h.cap
  unfold maxLen at hcap
  clear hu
  obtain ⟨k, hk⟩ : ∃ k, k = min n 40 := ⟨_, rfl⟩
  have hkn : k ≤ n := by omega
  have hk40 : k ≤ 40 := by omega
  have hmin : (if (40 : Int) < (n : Int) then (40 : Int) else (n : Int)) = (k : Int) := by split <;> omega
  have hs := slice_toU A n c k (by omega)
  have hrow := Rws.upto encU_len h hkn
  obtain ⟨R, hR⟩ : ∃ R, R = l.take k := ⟨_, rfl⟩
  rw [← hR] at hrow
  obtain ⟨L, hL⟩ : ∃ f, f = l0 % 61 := ⟨_, rfl⟩
  have hL60 : L ≤ 60 := by have := Nat.mod_lt l0 (show 0 < 61 by decide); omega
  have r1 : (l0 : Int).tmod 61 = (L : Int) := by have := tmod_nat l0 61; rw [← hL] at this; exact this
  have r1b : (l0 : Int) % 61 = (L : Int) := by rw [hL]; exact (Int.natCast_emod l0 61).symm
  obtain ⟨q, hq⟩ : ∃ f, f = p0 % (L + 1) := ⟨_, rfl⟩
  have hqL : q ≤ L := by have := Nat.mod_lt p0 (show 0 < L + 1 by omega); omega
  have r2 : (p0 : Int).tmod ((L : Int) + 1) = (q : Int) := by have := tmod_nat p0 (L + 1); rw [← hq] at this; exact this
  have r2b : (p0 : Int) % ((L : Int) + 1) = (q : Int) := by rw [hq]; exact (Int.natCast_emod p0 (L + 1)).symm
  obtain ⟨q2, hq2⟩ : ∃ z : Nat, z = L - q := ⟨_, rfl⟩
  have hsub : (L : Int) - (q : Int) = (q2 : Int) := by omega
  have HROW := Lib.hid hrow
  have HN1 := fun w => Lib.hid (newM_own (L : Int) w (by omega))
  have HWA := fun w => Lib.hid (awakeM w)
  clear hrow hR hk hle hcap h hL hq hq2
  go_enter Try.func4, Try.ntmps4
  go_wp2_with fail
  refine (HN1 _).out.mono ?_
  rintro e w1 ⟨p1, b1, rfl, h1, hb1⟩
  have hB0 := below_box W (.cells #[.int .u8 (l0 : Int), .int .u8 (p0 : Int), .int .u8 (a0 : Int)] 42)
  have hP0 : (W.alloc (.cells #[.int .u8 (l0 : Int), .int .u8 (p0 : Int), .int .u8 (a0 : Int)] 42)).heap[W.heap.size]? = some (.cells #[.int .u8 (l0 : Int), .int .u8 (p0 : Int), .int .u8 (a0 : Int)] 42) := heap_new rfl
  obtain ⟨V, hV⟩ : ∃ V, V = W.alloc (.cells #[.int .u8 (l0 : Int), .int .u8 (p0 : Int), .int .u8 (a0 : Int)] 42) := ⟨_, rfl⟩
  rw [← hV] at h1 hb1 hB0 hP0
  have HBX := Lib.hid (show ∀ w, Below V.heap.size V w → w.cell? ⟨W.heap.size, 2, none⟩ = some (.int .u8 (a0 : Int)) from fun w hb => cell2 (r := []) (below_old hb hP0 (lt_of_block hP0)))
  have HB0 := Lib.hid hB0
  have HV := Lib.hid (Rws.then_ HROW.out hB0)
  have H1 := Lib.hid h1
  have HB1 := Lib.hid hb1
  clear h1 hb1 hB0 hP0 hV
  go_wp2_with fail
  refine (HN1 _).out.mono ?_
  rintro e w2 ⟨p2, b2, rfl, h2, hb2⟩
  have HT2 := Lib.hid (show TwoM V w2 p1 b1 (L : Int) [] p2 b2 (L : Int) [] from ⟨H1.out.then_ hb2, ⟨Nat.le_trans HB1.out.size h2.p_, Nat.le_trans HB1.out.size h2.b_, h2.at_⟩, fun i hi hj => by
    have := H1.out.at_.lt
    have := H1.out.at_.own.lt
    have := h2.p_
    have := h2.b_
    omega, below_then HB1.out hb2⟩)
  clear h2 hb2 HN1 H1 HB1
  go_wp2_with fail
  refine (HWA _).out.mono ?_
  rintro e w3 ⟨rfl, hb3⟩
  have HT3 := Lib.hid (HT2.out.then_ hb3)
  have HS3 := Lib.hid (setM_any HT3.out.one.at_ (c := 1) (v := (q : Int)) (by decide) (by omega))
  clear hb3 HT2 HWA
  go_wp2_with fail
  refine HS3.out.mono ?_
  rintro e w4 ⟨rfl, h4, ht4⟩
  have HT4 := Lib.hid (HT3.out.left (M' := [(1, (q : Int))]) h4 (.inl rfl) (ht4.more fun _ _ e => .inl e))
  have HS4 := Lib.hid (setM_any HT4.out.two.at_ (c := 1) (v := (q : Int)) (by decide) (by omega))
  clear h4 ht4 HT3 HS3
  go_wp2_with fail
  refine HS4.out.mono ?_
  rintro e w5 ⟨rfl, h5, ht5⟩
  have HT5 := Lib.hid (HT4.out.right (M' := [(1, (q : Int))]) h5 (.inl rfl) (ht5.more fun _ _ e => .inl e))
  have HS5 := Lib.hid (setM_any HT5.out.two.at_ (c := 2) (v := (q2 : Int)) (by decide) (by omega))
  clear h5 ht5 HT4 HS4
  go_wp2_with fail
  refine HS5.out.mono ?_
  rintro e w6 ⟨rfl, h6, ht6⟩
  have HT6 := Lib.hid (HT5.out.right (M' := [(1, (q : Int)), (2, (q2 : Int))]) h6 (.inl rfl) (ht6.more fun _ _ e => .inl e))
  clear h6 ht6 HT5 HS5
  have HRW := Lib.hid (show ∀ w, Below V.heap.size V w → Uns w w.heap.size A k c R from fun w hb => Rws.then_ HV.out hb)
  have HLO := Lib.hid (long_any A k c R (L : Int) w6 (HRW.out w6 HT6.out.below) (by omega) (by omega))
  obtain ⟨N1, E, hlo⟩ : ∃ N1 E, Pl.longL R (L : Int) = (N1, E) := ⟨_, _, rfl⟩
  rw [hlo] at HLO
  simp only at HLO
  by_cases hE : E = 0
  · subst hE
    obtain ⟨i, hi⟩ : ∃ i, i = a0 % (k + 1) := ⟨_, rfl⟩
    have hik : i ≤ k := by have := Nat.mod_lt a0 (show 0 < k + 1 by omega); omega
    have r3 : (a0 : Int).tmod ((k : Int) + 1) = (i : Int) := by have := tmod_nat a0 (k + 1); rw [← hi] at this; exact this
    have r3b : (a0 : Int) % ((k : Int) + 1) = (i : Int) := by rw [hi]; exact (Int.natCast_emod a0 (k + 1)).symm
    have hRl : R.length = k := HROW.out.len
    have hkc := HROW.out.le
    have hkm := HROW.out.cap
    unfold maxLen at hkm
    have hlo2 := hlo
    rw [← List.take_append_drop i R] at hlo2
    obtain ⟨K1, hK1, hK2, hK0⟩ := Pl.longR_parts hlo2
    have hb1 := longR_ok hK1
    have hb2 := longR_ok hlo
    have hb3 : ((R.take i).length : Int) ≤ 40 := by rw [List.length_take]; omega
    have hb4 : (R.length : Int) ≤ 40 := by omega
    obtain ⟨X, hX⟩ : ∃ X, X = R.take i := ⟨_, rfl⟩
    obtain ⟨Y, hY⟩ : ∃ Y, Y = R.drop i := ⟨_, rfl⟩
    have hpa := Pl.place_append Y X (q : Int)
    rw [hX, hY, List.take_append_drop] at hpa
    rw [← hX] at hpa hK1 hb1 hb3
    rw [← hY] at hpa hK2
    have HPA := Lib.hid hpa
    have st := slice_toU A k c i (by omega)
    have sf := slice_fromU A k c i hik
    have HRX := Lib.hid (show ∀ w, Below V.heap.size V w → Uns w w.heap.size A i c X from fun w hb => by rw [hX]; exact Rws.upto encU_len (HRW.out w hb) hik)
    have HRY := Lib.hid (show ∀ w, Below V.heap.size V w → Uns w w.heap.size (if c = i then A else A.map (·.add (i * 5))) (k - i) (c - i) Y from fun w hb => by rw [hY]; exact Rws.from_ encU_len (HRW.out w hb) hik)
    obtain ⟨A2, hA2⟩ : ∃ A2, A2 = if c = i then A else A.map (·.add (i * 5)) := ⟨_, rfl⟩
    obtain ⟨m2, hm2⟩ : ∃ m2, m2 = k - i := ⟨_, rfl⟩
    obtain ⟨c2, hc2⟩ : ∃ c2, c2 = c - i := ⟨_, rfl⟩
    rw [← hA2, ← hm2, ← hc2] at HRY sf
    have HK1 := Lib.hid hK1
    have HK2 := Lib.hid hK2
    have HLE := Lib.hid hlo
    have hi40 : i ≤ 1000 := by omega
    have hm40 : m2 ≤ 1000 := by omega
    clear hlo hlo2 hX hY hpa hK1 hK2 hi hA2 hm2 hc2 r1 r1b r2 r2b hs hmin
    go_wp2_with fail
    refine HLO.out.mono ?_
    rintro e w7 ⟨rfl, hb7⟩
    have HT7 := Lib.hid (HT6.out.then_ hb7)
    have HG := Lib.hid (goM_ok HT7.out.one.at_ (HRX.out w7 HT7.out.below) hi40 (by omega) HK1.out (by omega))
    have hc8 := HBX.out w7 HT7.out.below
    clear hb7 HT6 HLO
    go_wp2_with fail
    refine HG.out.mono ?_
    rintro e w8 ⟨b3, rfl, hs8, h8, ht8⟩
    have HT8 := Lib.hid (HT7.out.left (M' := [(1, Pl.placeR (q : Int) X)]) h8 (.inr hs8) (ht8.more fun _ _ e => .inr e))
    have HG8 := Lib.hid (goM_ok HT8.out.one.at_ (HRY.out w8 HT8.out.below) hm40 (by omega) HK2.out (by omega))
    clear h8 hs8 ht8 HT7 HG
    go_wp2_with fail
    refine HG8.out.mono ?_
    rintro e w9 ⟨b4, rfl, hs9, h9, ht9⟩
    have HT9 := Lib.hid (HT8.out.left (M' := [(1, Pl.placeR (q : Int) R)]) (by rw [HPA.out]; exact h9) (.inr hs9) (ht9.more fun _ _ e => .inr e))
    have HG9 := Lib.hid (goM_ok HT9.out.two.at_ (HRW.out w9 HT9.out.below) (by omega) (by omega) HLE.out (by omega))
    clear h9 hs9 ht9 HT8 HG8
    go_wp2_with fail
    refine HG9.out.mono ?_
    rintro e w10 ⟨b5, rfl, hs10, h10, ht10⟩
    have HT10 := Lib.hid (HT9.out.right (M' := [(1, Pl.placeR (q : Int) R), (2, Pl.placeR (q2 : Int) R)]) h10 (.inr hs10) (ht10.more fun _ _ e => .inr e))
    obtain ⟨P1, hP1⟩ : ∃ P1, P1 = Pl.placeR (q : Int) R := ⟨_, rfl⟩
    obtain ⟨P2, hP2⟩ : ∃ P2, P2 = Pl.placeR (q2 : Int) R := ⟨_, rfl⟩
    have HX1 := fun w => Lib.hid (place_any (q : Int) A k c R w)
    have HX2 := fun w => Lib.hid (place_any (q2 : Int) A k c R w)
    rw [← hP1, ← hP2] at HT10
    rw [← hP1] at HX1
    rw [← hP2] at HX2
    have HGA := Lib.hid (getM_any HT10.out.one.at_ (c := 1) (by decide))
    have HGB := Lib.hid (getM_any HT10.out.two.at_ (c := 1) (by decide))
    have HGC := Lib.hid (getM_any HT10.out.two.at_ (c := 2) (by decide))
    clear h10 hs10 ht10 HT9 HG9 hP1 hP2
    go_wp2_with fail
    refine (show Calls Try.prog 12 #[.pointer (some ⟨p1, 0, none⟩), .int .u32 1] w10 _ from HGA.out).mono ?_
    rintro e w11 ⟨rfl, hw⟩
    rw [hw, show gotM [(1, P1)] 1 = .tuple #[.int .i64 P1, .bool true] from rfl]
    clear hw w11 HGA
    go_wp2_with fail
    refine (show Calls Try.prog 12 #[.pointer (some ⟨p2, 0, none⟩), .int .u32 1] w10 _ from HGB.out).mono ?_
    rintro e w11 ⟨rfl, hw⟩
    rw [hw, show gotM [(1, P1), (2, P2)] 1 = .tuple #[.int .i64 P1, .bool true] from rfl]
    clear hw w11 HGB
    go_wp2_with fail
    refine (show Calls Try.prog 12 #[.pointer (some ⟨p2, 0, none⟩), .int .u32 2] w10 _ from HGC.out).mono ?_
    rintro e w11 ⟨rfl, hw⟩
    rw [hw, show gotM [(1, P1), (2, P2)] 2 = .tuple #[.int .i64 P2, .bool true] from rfl]
    clear hw w11 HGC
    have z1 : (P1 == P1) = true := by simp
    have z2 : (P2 == P2) = true := by simp
    have z3 : (N1 == N1) = true := by simp
    have HX1w := Lib.hid ((HX1 w10).out (HRW.out w10 HT10.out.below))
    clear HX1
    go_wp2_with fail
    refine HX1w.out.mono ?_
    rintro e w11 ⟨rfl, hb11⟩
    have HT11 := Lib.hid (HT10.out.then_ hb11)
    have HX2w := Lib.hid ((HX2 w11).out (HRW.out w11 HT11.out.below))
    clear HX2 hb11 HX1w HT10
    go_wp2_with fail
    refine HX2w.out.mono ?_
    rintro e w12 ⟨rfl, hb12⟩
    have HT12 := Lib.hid (HT11.out.then_ hb12)
    have HL1 := Lib.hid (longM HT12.out.one.at_)
    have HL2 := Lib.hid (longM HT12.out.two.at_)
    clear hb12 HX2w HT11
    go_wp2_with fail
    refine HL1.out.mono ?_
    rintro e w13 ⟨rfl, hw⟩
    rw [hw]
    clear hw w13
    go_wp2_with fail
    refine HL2.out.mono ?_
    rintro e w13 ⟨rfl, hw⟩
    rw [hw]
    clear hw w13
    go_wp2_with fail
    go_ret
    exact ⟨rfl, below_then HB0.out HT12.out.below⟩
  · have hN0 := longR_err hlo hE
    subst hN0
    have hEb : (E == 0) = false := by simpa using hE
    have hEc : (E == E) = true := by simp
    have HLE := Lib.hid hlo
    clear hlo r1 r1b r2 r2b hsub hs hmin
    go_wp2_with fail
    refine HLO.out.mono ?_
    rintro e w7 ⟨rfl, hb7⟩
    have HT7 := Lib.hid (HT6.out.then_ hb7)
    have HG := Lib.hid (goM_bad HT7.out.one.at_ (HRW.out w7 HT7.out.below) (by omega) (by omega) HLE.out hE)
    clear hb7 HT6 HLO
    go_wp2_with fail
    refine HG.out.mono ?_
    rintro e w8 ⟨rfl, hb8⟩
    go_wp2_with fail
    go_ret
    exact ⟨rfl, below_then HB0.out (below_then HT7.out.below hb8)⟩
end Go.Proofs.Ytfjnliebgndemaa.markParts
