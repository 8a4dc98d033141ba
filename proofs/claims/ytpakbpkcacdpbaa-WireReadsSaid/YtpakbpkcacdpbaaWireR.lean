/-
  Contracts of the document's own reader (copybookref03.Reader), second part: Upto, Bool, Count, Bytes. Conditions: those that each states.
-/
import Derived.Test.YtpakbpkcacdpbaaWireQ
namespace Go.Proofs.Ytpakbpkcacdpbaa
open Go.RowKit

theorem rn_I {r : List Nat} {e : Int} (h : Pl.I e) : Pl.I (Pl.rn r e).2.2 := by
  unfold Pl.rn
  split
  · split
    · exact Pl.I.mk (by simp only; omega)
    · have := Pl.get_e5 r
      exact Pl.I.mk (by simp only; omega)
  · exact h

set_option maxRecDepth 100000 in
set_option maxHeartbeats 1000000 in
theorem qupto_any (p : Nat) (F : Nat → Prop) (r : List Nat) (e : Int) (most : Nat) (w : World) (h : Qd w p F r e) :
    Calls Try.prog 34 #[.pointer (some ⟨p, 0, none⟩), .int .u64 (most : Int)] w fun en w' => en = .returned (.int .u64 (((Pl.rb r e most 3).1 : Nat) : Int)) ∧ QdTo w p F (Pl.rb r e most 3).2 w' := by
  have HN := Lib.hid (qnum_any p F r e w h)
  have HP := Lib.hid (Pl.rn_pos (r := r) (e := e))
  have HZ := Lib.hid (show (Pl.rn r e).2.2 ≠ 0 → (Pl.rn r e).1 = 0 from fun h0 => by
    rcases Nat.eq_zero_or_pos (Pl.rn r e).1 with h1 | h1
    · exact h1
    · exact absurd (Pl.rn_pos h1) h0)
  unfold Pl.rb
  obtain ⟨x, r1, e1, hx⟩ : ∃ x r1 e1, Pl.rn r e = (x, r1, e1) := ⟨_, _, _, rfl⟩
  rw [hx] at HN HP HZ ⊢
  clear hx h
  by_cases he : e1 = 0
  · subst he
    by_cases hlt : most < x
    · go_enter Try.func34, Try.ntmps34
      go_wp2_with fail
      refine HN.out.mono ?_
      rintro en w1 ⟨rfl, hq⟩
      have c1 := hq.1.c1
      have f1 := hq.1.f1
      have hq2 := hq.1.err (x := 3) (by omega) I3
      have c2 := hq2.1.c1
      have HQ := Lib.hid (hq.trans hq2)
      clear hq hq2
      go_wp2_with fail
      go_ret
      exact ⟨rfl, HQ.out⟩
    · go_enter Try.func34, Try.ntmps34
      go_wp2_with fail
      refine HN.out.mono ?_
      rintro en w1 ⟨rfl, hq⟩
      have c1 := hq.1.c1
      have HQ := Lib.hid hq
      clear hq
      go_wp2_with fail
      go_ret
      exact ⟨rfl, HQ.out⟩
  · have hx0 : x = 0 := HZ.out he
    subst hx0
    have be : (e1 == 0) = false := by rw [beq_eq_false_iff_ne]; exact he
    have be2 : (e1 != 0) = true := by simpa using he
    clear he
    go_enter Try.func34, Try.ntmps34
    go_wp2_with fail
    refine HN.out.mono ?_
    rintro en w1 ⟨rfl, hq⟩
    have c1 := hq.1.c1
    have HQ := Lib.hid hq
    clear hq
    go_wp2_with fail
    go_ret
    exact ⟨rfl, HQ.out⟩

set_option maxRecDepth 100000 in
set_option maxHeartbeats 1000000 in
theorem qbool_any (p : Nat) (F : Nat → Prop) (r : List Nat) (e : Int) (w : World) (h : Qd w p F r e) :
    Calls Try.prog 27 #[.pointer (some ⟨p, 0, none⟩)] w fun en w' => en = .returned (.bool (decide ((Pl.rb r e 1 5).1 = 1))) ∧ QdTo w p F (Pl.rb r e 1 5).2 w' := by
  have HN := Lib.hid (qnum_any p F r e w h)
  have HP := Lib.hid (Pl.rn_pos (r := r) (e := e))
  unfold Pl.rb
  obtain ⟨x, r1, e1, hx⟩ : ∃ x r1 e1, Pl.rn r e = (x, r1, e1) := ⟨_, _, _, rfl⟩
  rw [hx] at HN HP ⊢
  clear hx h
  by_cases hlt : 1 < x
  · obtain rfl : e1 = 0 := HP.out (by show 0 < x; omega)
    go_enter Try.func27, Try.ntmps27
    go_wp2_with fail
    refine HN.out.mono ?_
    rintro en w1 ⟨rfl, hq⟩
    have HF := Lib.hid (qfail_any p F r1 0 5 w1 hq.1 I5)
    rw [show Pl.rf r1 0 5 = ([], 5) by simp [Pl.rf]] at HF
    have HQ1 := Lib.hid hq
    clear hq
    go_wp2_with fail
    refine HF.out.mono ?_
    rintro en w2 ⟨rfl, hq2⟩
    have c2 := hq2.1.c1
    have HQ := Lib.hid (HQ1.out.trans hq2)
    clear hq2
    go_wp2_with fail
    go_ret
    exact ⟨rfl, HQ.out⟩
  · by_cases he : e1 = 0
    · subst he
      go_enter Try.func27, Try.ntmps27
      go_wp2_with fail
      refine HN.out.mono ?_
      rintro en w1 ⟨rfl, hq⟩
      have c1 := hq.1.c1
      have HQ := Lib.hid hq
      clear hq
      go_wp2_with fail
      go_ret
      refine ⟨ret_bool ?_, HQ.out⟩
      rw [Bool.eq_iff_iff, beq_iff_eq, decide_eq_true_iff]
      omega
    · have hx0 : x = 0 := by
        rcases Nat.eq_zero_or_pos x with h1 | h1
        · exact h1
        · exact absurd (HP.out h1) he
      subst hx0
      have be : (e1 == 0) = false := by rw [beq_eq_false_iff_ne]; exact he
      clear he hlt
      go_enter Try.func27, Try.ntmps27
      go_wp2_with fail
      refine HN.out.mono ?_
      rintro en w1 ⟨rfl, hq⟩
      have c1 := hq.1.c1
      have HQ := Lib.hid hq
      clear hq
      go_wp2_with fail
      go_ret
      exact ⟨rfl, HQ.out⟩

set_option maxRecDepth 100000 in
set_option maxHeartbeats 400000 in
theorem qcount_any (p : Nat) (F : Nat → Prop) (r : List Nat) (e m : Int) (w : World) (h : Qd w p F r e) (hm : Pl.I m) :
    Calls Try.prog 32 #[.pointer (some ⟨p, 0, none⟩), .int .i64 m] w fun en w' => en = .returned (.int .i64 (((Pl.rb r e m.toNat 3).1 : Nat) : Int)) ∧ QdTo w p F (Pl.rb r e m.toNat 3).2 w' := by
  have HL := Lib.hid (Pl.rb_le (r := r) (e := e) (most := m.toNat) (ab := 3))
  have HN := Lib.hid (qupto_any p F r e m.toNat w h)
  obtain ⟨x, r1, e1, hx⟩ : ∃ x r1 e1, Pl.rb r e m.toNat 3 = (x, r1, e1) := ⟨_, _, _, rfl⟩
  rw [hx] at HN HL ⊢
  have hx63 : x ≤ 9223372036854775807 := by have := hm.out; have := HL.out; simp only at this; omega
  have hm' : m ≤ 9223372036854775807 := by have := hm.out; omega
  clear h hx hm
  by_cases h0 : m < 0
  · have HM := Lib.hid (show ((0 : Nat) : Int) = (m.toNat : Int) by omega)
    have HM2 := Lib.hid (show m.toNat = 0 by omega)
    rw [HM2.out] at HN
    go_enter Try.func32, Try.ntmps32
    go_wp2_with fail
    refine HN.out.mono ?_
    rintro en w1 ⟨rfl, hq⟩
    go_wp2_with fail
    go_ret
    exact ⟨rfl, hq⟩
  · obtain ⟨mm, hmm⟩ : ∃ mm : Nat, m = (mm : Int) := ⟨m.toNat, by omega⟩
    subst hmm
    rw [Int.toNat_natCast] at HN HL
    go_enter Try.func32, Try.ntmps32
    go_wp2_with fail
    refine HN.out.mono ?_
    rintro en w1 ⟨rfl, hq⟩
    go_wp2_with fail
    go_ret
    exact ⟨rfl, hq⟩

set_option maxRecDepth 100000 in
set_option maxHeartbeats 1000000 in
theorem qbytes_any (p : Nat) (F : Nat → Prop) (r : List Nat) (e m : Int) (w : World) (h : Qd w p F r e) (hm : Pl.I m) (hr : r.length ≤ 140737488351232) :
    Calls Try.prog 29 #[.pointer (some ⟨p, 0, none⟩), .int .i64 m] w fun en w' => ∃ A2 c2, en = .returned (.slice A2 (Pl.rby r e m.toNat).1.length c2) ∧ OwnV w' w.heap.size (.slice A2 (Pl.rby r e m.toNat).1.length c2) (Pl.rby r e m.toNat).1 ∧ QdTo w p F (Pl.rby r e m.toNat).2 w' := by
  have HC := Lib.hid (qcount_any p F r e m w h hm)
  have HLE := Lib.hid (Pl.rb_len r e m.toNat 3)
  have HLB := Lib.hid (Pl.rb_le (r := r) (e := e) (most := m.toNat) (ab := 3))
  unfold Pl.rby
  obtain ⟨x, r1, e1, hx⟩ : ∃ x r1 e1, Pl.rb r e m.toNat 3 = (x, r1, e1) := ⟨_, _, _, rfl⟩
  rw [hx] at HC HLE HLB ⊢
  have hx63 : x ≤ 9223372036854775807 := by have := hm.out; have := HLB.out; simp only at this; omega
  have hr1 : r1.length ≤ 140737488351232 := by have := HLE.out; simp only at this; omega
  clear hx h HLB HLE hm
  by_cases he : e1 = 0
  · subst he
    by_cases hlt : r1.length < x
    · have HV := Lib.hid (show Pl.rt r1 0 x = ([], [], 4) by simp [Pl.rt]; omega)
      go_enter Try.func29, Try.ntmps29
      go_wp2_with fail
      refine HC.out.mono ?_
      rintro en w1 ⟨rfl, hq⟩
      have c1 := hq.1.c1
      have f1 := hq.1.f1
      have hq2 := hq.1.err (x := 4) (by omega) (Pl.I.mk (by omega))
      have c2 := hq2.1.c1
      have HQ := Lib.hid (hq.trans hq2)
      obtain ⟨_, _, _, A, n, c, h1, _, h3⟩ := hq.1
      have c0 := cell0 h1
      have hln : r1.length = n := (h3 rfl).1.len
      have hlt' : n < x := by omega
      clear hq hq2 h1 h3 hln hlt
      go_wp2_with fail
      go_ret
      rw [HV.out]
      exact ⟨none, 0, rfl, OwnV.nil_ _ _, HQ.out⟩
    · have HV := Lib.hid (show Pl.rt r1 0 x = (r1.take x, r1.drop x, 0) by simp [Pl.rt]; omega)
      go_enter Try.func29, Try.ntmps29
      go_wp2_with fail
      refine HC.out.mono ?_
      rintro en w1 ⟨rfl, hq⟩
      have c1 := hq.1.c1
      obtain ⟨⟨hl, hi, hp, A, n, c, h1, h2, h3⟩, hT1⟩ := hq
      obtain ⟨hB, hF⟩ := h3 rfl
      have c0 := cell0 h1
      have hln : r1.length = n := hB.len
      have hlt' : x ≤ n := by omega
      have hle := hB.le
      have hcap := hB.cap
      unfold maxLen at hcap
      have hsl := slice_to A n c x (by omega)
      have HO := Lib.hid (refOwn_any A x c (r1.take x) w1 (hB.upto hlt') (by omega))
      obtain ⟨A2, hB2, hA2, hcut⟩ := hB.cut hlt'
      have HXL := Lib.hid (show (r1.take x).length = x by rw [List.length_take]; omega)
      have HH := Lib.hid (And.intro hl (And.intro hi (And.intro hp (And.intro h1 (And.intro hF (And.intro hB2 (And.intro hA2 hT1)))))))
      clear hl hi hp h1 h2 h3 hB hF hB2 hA2 hT1 hln hlt
      go_wp2_with fail
      refine HO.out.mono ?_
      rintro en w2 ⟨A5, c5, rfl, hV5, hb2⟩
      obtain ⟨hl, hi, hp, h1, hF, hB2, hA2, hT1⟩ := HH.out
      have hlp := hl p hp
      have k1 : w2.heap[p]? = some (.cells #[.slice A n c, .int .i64 0] 48 (0, 0)) := (hb2.block p hlp).trans h1
      have d0 := cell0 k1
      have g0 := frozen_of_row w2 p 0 _ _ k1
      have hT2 : Tn (fun b => b = p) w2 (w2.setCell ⟨p, 0, none⟩ (.slice A2 (n - x) (c - x))) := (Tn.refl (fun b => b = p) w2).set_ (p := ⟨p, 0, none⟩) (Or.inr rfl) _
      have hz2 := hb2.size
      have HQ : Hid (QdTo w p F (r1.drop x, 0) (w2.setCell ⟨p, 0, none⟩ (.slice A2 (n - x) (c - x)))) := Lib.hid ⟨⟨fun b hb => by have := hl b hb; simp [World.setCell]; omega, hi, hp, A2, n - x, c - x, by rw [blk_set k1]; rfl, (fun h => absurd rfl h), fun _ => ⟨hT2.bys ((hB2.below hb2 (Nat.le_refl _)).more hz2) (fun _ ad e2 hx => by
        obtain ⟨ad0, e0, e3⟩ := hA2 ad e2
        exact (hF ad0 e0).2 (by rw [← e3]; exact hx)), fun ad e2 => by
        obtain ⟨ad0, e0, e3⟩ := hA2 ad e2
        rw [e3]; exact hF ad0 e0⟩⟩, (hT1.trans (Tn.of (fun b => b = p) hb2) (fun _ _ x => x)).trans hT2 (fun _ _ x => x)⟩
      have HV5 : Hid (OwnV (w2.setCell ⟨p, 0, none⟩ (.slice A2 (n - x) (c - x))) w.heap.size (.slice A5 (r1.take x).length c5) (r1.take x)) := Lib.hid ((hT2.ownV hV5 (fun g hg e2 => by have := (hV5.lt g hg).1; omega)).lower hT1.size)
      clear hl hi hp h1 hF hB2 hA2 hT1 k1 hT2 hV5 hb2
      rw [HXL.out]
      go_wp2_with fail
      go_ret
      rw [HV.out]
      refine ⟨A5, c5, ?_, HV5.out, HQ.out⟩
      rw [HXL.out]; rfl
  · have HV := Lib.hid (show Pl.rt r1 e1 x = ([], [], e1) by simp [Pl.rt, he])
    have be : (e1 == 0) = false := by rw [beq_eq_false_iff_ne]; exact he
    have be2 : (e1 != 0) = true := by simpa using he
    have HE := Lib.hid he
    clear he
    go_enter Try.func29, Try.ntmps29
    go_wp2_with fail
    refine HC.out.mono ?_
    rintro en w1 ⟨rfl, hq⟩
    have c1 := hq.1.c1
    have hq' := hq
    rw [show r1 = [] from hq.1.dead HE.out] at hq'
    have HQ := Lib.hid hq'
    clear hq hq'
    go_wp2_with fail
    go_ret
    rw [HV.out]
    exact ⟨none, 0, rfl, OwnV.nil_ _ _, HQ.out⟩
end Go.Proofs.Ytpakbpkcacdpbaa
