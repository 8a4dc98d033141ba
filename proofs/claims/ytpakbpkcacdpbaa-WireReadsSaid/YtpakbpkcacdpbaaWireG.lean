/-
  Contracts of the reader's Bytes, Str and Fail, in any state and of none, and of the laws' awake: it returns true and turns nothing that was there. Conditions: those that each states.
-/
import Derived.Test.YtpakbpkcacdpbaaWireF
namespace Go.Proofs.Ytpakbpkcacdpbaa
open Go.RowKit

namespace Pl
/-- Fail -/
def rf (r : List Nat) (e x : Int) : List Nat × Int := if e = 0 ∧ x ≠ 0 then ([], x) else (r, e)
theorem rn_len (r : List Nat) (e : Int) : (rn r e).2.1.length ≤ r.length := by
  unfold rn
  split
  · split
    · simp
    · simp
  · simp
theorem rb_len (r : List Nat) (e : Int) (m : Nat) (ab : Int) : (rb r e m ab).2.1.length ≤ r.length := by
  unfold rb
  split
  · simp
  · exact rn_len r e
theorem rt_len (r : List Nat) (e : Int) (k : Nat) : (rt r e k).1.length ≤ r.length := by
  unfold rt
  split
  · split
    · simp; omega
    · simp
  · simp
theorem rt_len2 (r : List Nat) (e : Int) (k : Nat) : (rt r e k).2.1.length ≤ r.length := by
  unfold rt
  split
  · split
    · simp
    · simp
  · simp
theorem rby_len (r : List Nat) (e : Int) (m : Nat) : (rby r e m).1.length ≤ r.length := Nat.le_trans (rt_len _ _ _) (rb_len _ _ _ _)
theorem rby_len2 (r : List Nat) (e : Int) (m : Nat) : (rby r e m).2.1.length ≤ r.length := Nat.le_trans (rt_len2 _ _ _) (rb_len _ _ _ _)
end Pl

set_option maxRecDepth 100000 in
set_option maxHeartbeats 400000 in
theorem rbytes_any (A : Option Addr) (F : Nat → Prop) (r : List Nat) (e m : Int) (w : World) (h : Rd w A F r e) (hm : Pl.I m) (hr : r.length ≤ 140737488355328) :
    Calls Try.prog 28 #[.pointer A, .int .i64 m] w fun en w' => ∃ A2 c2, en = .returned (.slice A2 (Pl.rby r e m.toNat).1.length c2) ∧ OwnV w' w.heap.size (.slice A2 (Pl.rby r e m.toNat).1.length c2) (Pl.rby r e m.toNat).1 ∧ RdTo w A F (Pl.rby r e m.toNat).2 w' := by
  have HC := Lib.hid (count_any A F r e m w h hm)
  have HL := Lib.hid (Pl.rby_len r e m.toNat)
  unfold Pl.rby at HL ⊢
  obtain ⟨x, r1, e1, hx⟩ : ∃ x r1 e1, Pl.rb r e m.toNat 3 = (x, r1, e1) := ⟨_, _, _, rfl⟩
  rw [hx] at HC HL ⊢
  clear hx
  go_enter Try.func28, Try.ntmps28
  go_wp2_with fail
  refine HC.out.mono ?_
  rintro en w1 ⟨rfl, hR1, hT1⟩
  have HT := Lib.hid (take_any A F r1 e1 x w1 hR1)
  go_wp2_with fail
  refine HT.out.mono ?_
  rintro en w2 ⟨A2, c2, rfl, hB, hR2, hT2⟩
  have HK := Lib.hid (clone_any A2 _ c2 _ w2 hB (Nat.le_trans HL.out hr))
  go_wp2_with fail
  refine HK.out.mono ?_
  rintro en w3 ⟨A3, c3, rfl, hV, hb⟩
  go_wp2_with fail
  go_ret
  refine ⟨A3, c3, rfl, hV.lower (Nat.le_trans hT1.size hT2.size), hR2.below hb, (hT1.trans hT2 (fun _ _ x => x)).trans (Tn.of (Pt A) hb) (fun _ _ x => x)⟩
set_option maxRecDepth 100000 in
set_option maxHeartbeats 400000 in
theorem rstr_any (A : Option Addr) (F : Nat → Prop) (r : List Nat) (e m : Int) (w : World) (h : Rd w A F r e) (hm : Pl.I m) :
    Calls Try.prog 30 #[.pointer A, .int .i64 m] w fun en w' => en = .returned (.string (strOfNums (ints (Pl.rby r e m.toNat).1))) ∧ RdTo w A F (Pl.rby r e m.toNat).2 w' := by
  have HC := Lib.hid (count_any A F r e m w h hm)
  unfold Pl.rby
  obtain ⟨x, r1, e1, hx⟩ : ∃ x r1 e1, Pl.rb r e m.toNat 3 = (x, r1, e1) := ⟨_, _, _, rfl⟩
  rw [hx] at HC ⊢
  clear hx
  go_enter Try.func30, Try.ntmps30
  go_wp2_with fail
  refine HC.out.mono ?_
  rintro en w1 ⟨rfl, hR1, hT1⟩
  have HT := Lib.hid (take_any A F r1 e1 x w1 hR1)
  go_wp2_with fail
  refine HT.out.mono ?_
  rintro en w2 ⟨A2, c2, rfl, hB, hR2, hT2⟩
  have hcv := hB.conv
  clear hB
  go_wp2_with fail
  go_ret
  exact ⟨rfl, hR2, hT1.trans hT2 (fun _ _ x => x)⟩
theorem rfail_any (A : Option Addr) (F : Nat → Prop) (r : List Nat) (e x : Int) (w : World) (h : Rd w A F r e) (hx : Pl.I x) :
    Calls Try.prog 35 #[.pointer A, .int .i64 x] w fun en w' => en = .returned (.tuple #[]) ∧ RdTo w A F (Pl.rf r e x) w' := by
  by_cases he : e = 0
  · subst he
    by_cases h0 : x = 0
    · subst h0
      refine (fail_ok0 A F r w h).mono ?_
      rintro en w' ⟨rfl, rfl⟩
      exact ⟨rfl, by simpa [Pl.rf] using RdTo.same h⟩
    · refine (fail_now A F r x w h h0 hx).mono ?_
      rintro en w' ⟨rfl, h1, h2⟩
      exact ⟨rfl, by rw [show Pl.rf r 0 x = ([], x) by simp [Pl.rf, h0]]; exact ⟨h1, h2⟩⟩
  · refine (fail_dead A F r e x w h he).mono ?_
    rintro en w' ⟨rfl, rfl⟩
    exact ⟨rfl, by simpa [Pl.rf, he] using RdTo.same h⟩

theorem wr_new (w : World) : Wr (w.alloc (.cells #[.pointer none, .int .i64 0] 25)) w.heap.size (fun b => b = w.heap.size) [] :=
  ⟨rfl, fun b hb => by simp [hb], Or.inl ⟨by rw [heap_alloc_new], rfl⟩⟩
theorem strab : strOfNums (ints [97, 98]) = ⟨#[97, 98]⟩ := by decide
theorem octab : Pl.Oct [97, 98] := oct_lit _ (by decide)
theorem enc300' : Pl.enc 300 = [172, 2] := by rw [Pl.enc_ge (by omega), Pl.enc_lt (by omega)]
theorem rn300 : Pl.rn [172, 2, 1, 2, 97, 98] 0 = (300, [1, 2, 97, 98], 0) := by decide
theorem rb1 : Pl.rb [1, 2, 97, 98] 0 1 5 = (1, [2, 97, 98], 0) := by decide
theorem rby1 : Pl.rby [2, 97, 98] 0 1 = ([], [], 3) := by decide

set_option maxRecDepth 100000 in
set_option maxHeartbeats 1000000 in
theorem awake_any (w : World) : Calls Try.prog 20 #[] w fun e w' => e = .returned (.bool true) ∧ Below w.heap.size w w' := by
  have hb0 : Below w.heap.size w (w.alloc (.cells #[.pointer none, .int .i64 0] 25)) := (Below.refl _ _).alloc (Nat.le_refl _) _
  have hW0 := wr_new w
  have HN := Lib.hid (wnum_any _ _ _ 300 _ hW0 (Pl.U.mk (by omega)) (by simp))
  go_enter Try.func20, Try.ntmps20
  go_wp2_with fail
  refine HN.out.mono ?_
  rintro en w1 ⟨rfl, F1, hW1, hT1, hF1, _⟩
  have hb1 : Below w.heap.size w w1 := hT1.below hb0 (by simp) (fun b hb => by omega)
  have hu1 : ∀ b, F1 b → w.heap.size ≤ b := fun b hb => (hF1 b hb).elim (fun h => Nat.le_of_eq (Eq.symm h)) (fun h => by simp at h; omega)
  clear HN hW0 hT1 hF1 hb0
  have HB := Lib.hid (wbool_any _ _ _ true _ hW1 (by rw [List.nil_append, enc300']; simp))
  go_wp2_with fail
  refine HB.out.mono ?_
  rintro en w2 ⟨rfl, F2, hW2, hT2, hF2, _⟩
  have hz1 := hb1.size
  have hb2 : Below w.heap.size w w2 := hT2.below hb1 hz1 hu1
  have hu2 : ∀ b, F2 b → w.heap.size ≤ b := fun b hb => (hF2 b hb).elim (hu1 b) (fun h => by omega)
  clear HB hT2 hF2 hW1
  have HS := Lib.hid (wstr_any _ _ _ _ [97, 98] _ hW2 strab.symm octab (by rw [List.nil_append, enc300']; simp))
  go_wp2_with fail
  refine HS.out.mono ?_
  rintro en w3 ⟨rfl, F3, hW3, hT3, hF3, _⟩
  have hz2 := hb2.size
  have hb3 : Below w.heap.size w w3 := hT3.below hb2 hz2 hu2
  have hu3 : ∀ b, F3 b → w.heap.size ≤ b := fun b hb => (hF3 b hb).elim (hu2 b) (fun h => by omega)
  clear HS hT3 hF3 hW2 hz1 hu1 hu2 hb1
  have eX : ([] ++ Pl.enc 300 ++ [true.toNat] ++ (Pl.enc [97, 98].length ++ [97, 98])) = [172, 2, 1, 2, 97, 98] := by
    rw [enc300']; show [] ++ [172, 2] ++ [1] ++ (Pl.enc 2 ++ [97, 98]) = _; rw [Pl.enc_lt (by omega)]; rfl
  rw [eX] at hW3
  clear eX
  have hz3 := hb3.size
  have HO := Lib.hid (out_any _ _ _ _ hW3 (by simp))
  go_wp2_with fail
  refine HO.out.mono ?_
  rintro en w4 ⟨A4, c4, rfl, hV4, hb4⟩
  have HNW := Lib.hid (new_any _ _ _ _ w4 hV4.bys.2 (by simp))
  have hz4 := hb4.size
  go_wp2_with fail
  refine HNW.out.mono ?_
  rintro en w5 ⟨p, F, rfl, hR5, hb5, hu5⟩
  have hz5 := hb5.size
  have hb5' : Below w.heap.size w w5 := (hb3.trans (hb4.mono hz3)).trans (hb5.mono (by omega))
  have hW5 := (hW3.below hb4).below hb5
  have hdis : ∀ b, F3 b → ¬ F b := fun b h1 h2 => by have := hu5 b h2; have := hW3.lt b h1; omega
  clear HO HNW hW3 hV4 hb4 hb5
  have HR1 := Lib.hid (rnum_any _ F _ 0 w5 hR5)
  rw [rn300] at HR1
  go_wp2_with fail
  refine HR1.out.mono ?_
  rintro en w6 ⟨rfl, hR6, hT6⟩
  have hpF := hR5.pt
  have hub : ∀ b, Pt (some ⟨p, 0, none⟩) b → w.heap.size ≤ b := fun b hb => by have := hu5 b (hpF b hb); omega
  have hb6 := hT6.below hb5' (by omega) hub
  have hW6 := hW5.keep hT6 (fun b h1 h2 => hdis b h1 (hpF b h2))
  have hz6 := hT6.size
  clear HR1 hW5 hT6
  have HR2 := Lib.hid (bool_any _ F _ 0 w6 hR6)
  simp only at HR2
  rw [rb1] at HR2
  go_wp2_with fail
  refine HR2.out.mono ?_
  rintro en w7 ⟨rfl, hR7, hT7⟩
  have hb7 := hT7.below hb6 (by omega) hub
  have hW7 := hW6.keep hT7 (fun b h1 h2 => hdis b h1 (hpF b h2))
  have hz7 := hT7.size
  clear HR2 hW6 hT7
  have HR3 := Lib.hid (rstr_any _ F _ 0 1 w7 hR7 (Pl.I.mk (by omega)))
  simp only [show (1 : Int).toNat = 1 from rfl] at HR3
  rw [rby1] at HR3
  go_wp2_with fail
  refine HR3.out.mono ?_
  rintro en w8 ⟨rfl, hR8, hT8⟩
  have hb8 := hT8.below hb7 (by omega) hub
  have hW8 := hW7.keep hT8 (fun b h1 h2 => hdis b h1 (hpF b h2))
  have hz8 := hT8.size
  clear HR3 hW7 hT8
  have HO2 := Lib.hid (out_any _ _ _ _ hW8 (by simp))
  go_wp2_with fail
  refine HO2.out.mono ?_
  rintro en w9 ⟨A9, c9, rfl, hV9, hb9⟩
  obtain ⟨g9, rfl, _, hO9⟩ := hV9.pos_ (by simp)
  have HEq := Lib.hid (eq_lit w9 _ g9 c9 _ [172, 2, 1, 2, 97, 98] hO9 (by decide) (by decide) rfl)
  go_wp2_with fail
  refine HEq.out.mono ?_
  rintro en w10 ⟨rfl, hb10⟩
  have hz9 := hb9.size
  have hR10 := (hR8.below hb9).below hb10
  have hb10' : Below w.heap.size w w10 := (hb8.trans (hb9.mono (by omega))).trans (hb10.mono (by omega))
  have HER := Lib.hid (err_any _ F _ _ w10 hR10)
  have hse : strOfNums (ints []) = ⟨#[]⟩ := by decide
  clear HEq HO2 hR8 hW8 hV9 hO9 hb9 hb10 hR10
  go_wp2_with fail
  refine HER.out.mono ?_
  rintro en w' ⟨rfl, rfl⟩
  go_wp2_with fail
  go_ret
  exact ⟨rfl, hb10'⟩
end Go.Proofs.Ytpakbpkcacdpbaa
