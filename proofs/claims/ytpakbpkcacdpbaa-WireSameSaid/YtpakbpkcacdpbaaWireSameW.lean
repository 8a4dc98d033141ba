/-
  The walk of copybooklaw03.WireSame: it returns true for every row of bytes and every list of kinds, and turns nothing that was there.
-/
import Derived.Test.YtpakbpkcacdpbaaWireU
namespace Go.Proofs.Ytpakbpkcacdpbaa.wireSame
open Go.RowKit

/-! ### what was read is what is written -/
theorem rn_same {r r1 : List Nat} {x : Nat} (ho : Pl.Oct r) (h : Pl.rn r 0 = (x, r1, 0)) : r = Pl.enc x ++ r1 := by
  by_cases hg : (Pl.get r).2.2 = 0
  · rw [Pl.rn_ok hg] at h
    simp only [Prod.mk.injEq, and_true] at h
    have := (Pl.get_ok ho hg).2.2.2
    rw [← h.1, ← h.2, this, List.take_append_drop]
  · rw [Pl.rn_err hg] at h
    simp only [Prod.mk.injEq] at h
    have := h.2.2
    omega
theorem rb_same {r r1 : List Nat} {x m : Nat} {ab : Int} (ho : Pl.Oct r) (hab : ab ≠ 0) (h : Pl.rb r 0 m ab = (x, r1, 0)) : r = Pl.enc x ++ r1 ∧ x ≤ m := by
  unfold Pl.rb at h
  split at h
  · simp only [Prod.mk.injEq] at h
    exact absurd h.2.2 hab
  · rename_i hm
    refine ⟨rn_same ho h, ?_⟩
    rw [h] at hm
    simp only at hm
    omega
theorem rb_dead {r : List Nat} {e : Int} {m : Nat} {ab : Int} (he : e ≠ 0) : Pl.rb r e m ab = (0, [], e) := by
  unfold Pl.rb; rw [Pl.rn_dead he]; simp
theorem rby_same {r r1 ts : List Nat} {m : Nat} (ho : Pl.Oct r) (h : Pl.rby r 0 m = (ts, r1, 0)) : r = Pl.enc ts.length ++ ts ++ r1 := by
  obtain ⟨x, q, e1, hx⟩ : ∃ x q e1, Pl.rb r 0 m 3 = (x, q, e1) := ⟨_, _, _, rfl⟩
  unfold Pl.rby at h
  rw [hx] at h
  simp only at h
  unfold Pl.rt at h
  split at h
  · rename_i he
    subst he
    split at h
    · rename_i hk
      simp only [Prod.mk.injEq, and_true] at h
      have := (rb_same ho (by omega) hx).1
      rw [this, ← h.1, ← h.2, List.append_assoc, List.take_append_drop, List.length_take, Nat.min_eq_left hk]
    · simp only [Prod.mk.injEq] at h
      have := h.2.2
      omega
  · rename_i he
    simp only [Prod.mk.injEq] at h
    exact absurd h.2.2 he

set_option maxRecDepth 100000 in
theorem pre_yes (A A' : Option Addr) (n c m c' : Nat) (bs cs : List Nat) (w : World) (h1 : Bys w w.heap.size A n c bs) (h2 : Bys w w.heap.size A' m c' cs) (hm : m ≤ n) (h : bs.take m = cs) :
    Calls Try.prog 44 #[.slice A n c, .slice A' m c'] w fun e w' => e = .returned (.bool true) ∧ w = w' := by
  have hsl := slice_to A n c m (by have := h1.le; omega)
  have HE := Lib.hid (eq_yes A A' m c m c' (bs.take m) cs w (h1.upto hm) h2 h)
  have hcap := h1.cap
  have hle := h1.le
  unfold maxLen at hcap
  clear h1 h2 h
  go_enter Try.func44, Try.ntmps44
  go_wp2_with fail
  refine HE.out.mono ?_
  rintro e w' ⟨rfl, rfl⟩
  go_wp2_with fail
  go_ret
  exact ⟨rfl, rfl⟩

/-- ahead of the round j: X was read and written again, r is left -/
def Rel (w : World) (n p pw : Nat) (Fr : Nat → Prop) (D : List Nat) (i : Value) (wr : World) : Prop :=
  ∃ (j : Nat) (X r : List Nat) (Fw : Nat → Prop), i = .int .i64 (j : Int) ∧ j ≤ n ∧ j ≤ 60 ∧ Rd wr (some ⟨p, 0, none⟩) Fr r 0 ∧ Wr wr pw Fw X ∧ X ++ r = D ∧ (∀ b, Fr b → ¬ Fw b) ∧ (∀ b, Fw b → w.heap.size ≤ b) ∧ Below w.heap.size w wr
/-- on to the next round -/
theorem next {w w1 w2 : World} {n p pw j : Nat} {Fr Fw : Nat → Prop} {D X r1 Y : List Nat} (hj : j + 1 ≤ n) (h6 : j + 1 ≤ 60) (hR : Rd w1 (some ⟨p, 0, none⟩) Fr r1 0) (hw : Wrote w1 pw Fw (X ++ Y) w2) (hD : X ++ Y ++ r1 = D)
    (hdis : ∀ b, Fr b → ¬ Fw b) (hF : ∀ b, Fw b → w.heap.size ≤ b) (hb : Below w.heap.size w w1) :
    Rd w2 (some ⟨p, 0, none⟩) Fr r1 0 ∧ (∀ v, v = Value.int .i64 ((j : Int) + 1) → Rel w n p pw Fr D v w2) := by
  obtain ⟨F2, h1, h2, h3, _⟩ := hw
  have z := hb.size
  have hR2 := hR.keep h2 hdis
  refine ⟨hR2, fun v hv => ⟨j + 1, X ++ Y, r1, F2, by rw [hv]; rfl, hj, h6, hR2, h1, hD, fun b hb hf => ?_, fun b hf => ?_, h2.below hb z hF⟩⟩
  · rcases h3 b hf with h | h
    · exact hdis b hb h
    · have := hR.lt b hb; omega
  · rcases h3 b hf with h | h
    · exact hF b h
    · omega

set_option maxRecDepth 100000 in
set_option maxHeartbeats 8000000 in
theorem walk (w : World) (A : Option Addr) (nb cb : Nat) (bs : List Nat) (hB : Bys w w.heap.size A nb cb bs) (_ : nb ≤ 140737488351232) (L : Option Addr) (n cl : Nat) (ls : List Nat) (hL : Bys w w.heap.size L n cl ls) (_ : n ≤ 140737488351232) :
    Calls Try.prog 6 #[.slice A nb cb, .slice L n cl] w fun e w' => e = .returned (.bool true) ∧ Below w.heap.size w w' := by
  obtain ⟨M, hM1, hM2, _, hmin0⟩ := min_run nb 500
  have hmin : ∀ (w' : World) (ts : Array TypeId) (t : TypeId), (Builtin.min_ ts t #[.int .i64 (nb : Int), .int .i64 500]).run Try.prog w' = .ok (.int .i64 (M : Int)) w' := hmin0
  clear hmin0
  have hsl := slice_to A nb cb M (by have := hB.le; omega)
  obtain ⟨D, hD⟩ : ∃ D, D = bs.take M := ⟨_, rfl⟩
  have hBD : Bys w w.heap.size A M cb D := by rw [hD]; exact hB.upto hM1
  have HD := Lib.hid hBD.len
  have HN := Lib.hid (new_any A M cb D w hBD (by omega))
  have HBD := Lib.hid hBD
  have HL := Lib.hid hL
  have hno := Pl.oct_getD hL.oct
  clear hB hD hBD hL
  go_enter Try.func6, Try.ntmps6
  go_wp2_with fail
  refine HN.out.mono ?_
  rintro e w1 ⟨p, Fr, rfl, hR1, hb1, hF1⟩
  have z1 := hb1.size
  have hb2 : Below w1.heap.size w1 (w1.alloc (.cells #[.pointer none, .int .i64 0] 25)) := (Below.refl _ _).alloc (Nat.le_refl _) _
  have H0 := Lib.hid (And.intro (hR1.below hb2) (And.intro (wr_new w1) (And.intro hF1 (And.intro (hb1.trans (hb2.mono z1)) (fun b hb => hR1.lt b hb)))))
  obtain ⟨pw, hpw⟩ : ∃ pw, pw = w1.heap.size := ⟨_, rfl⟩
  clear hR1 hb1 hb2 HN hmin hsl
  go_wp2_with fail
  go_loopw [24] (fun i wr => Rel w n p w1.heap.size Fr D i wr) (fun i _ => n - (intOf i).toNat)
  case atStart =>
    obtain ⟨h1, h2, h3, h4, h5⟩ := H0.out
    exact ⟨0, [], D, _, rfl, by omega, by omega, h1, h2, rfl, fun b hb e => by have a1 := h5 b hb; have e2 : b = w1.heap.size := e; omega, fun b hb => by have e2 : b = w1.heap.size := hb; omega, h4⟩
  case round =>
    obtain ⟨j, X, r, Fw, rfl, hj, h60, hR, hW, hXD, hdis, hFw, hb⟩ := hrel
    have hXl : X.length + r.length = M := by rw [← HD.out, ← hXD, List.length_append]
    have HXD := Lib.hid hXD
    have ho : Pl.Oct r := by
      obtain ⟨_, _, _, _, _, _, _, _, _, h4, _, _, h7⟩ := hR.ok
      rw [h7]; exact Pl.oct_drop h4.oct _
    have z := hb.size
    clear hXD
    by_cases hlt : j < n ∧ j < 60
    · obtain ⟨hlt, hlt6⟩ := hlt
      obtain ⟨g, o, rfl, hg, hcl⟩ := (HL.out.below hb (Nat.le_refl _)).at_ hlt
      have hk := hcl j hlt
      have hk256 := hno j
      obtain ⟨k, hkd⟩ : ∃ k, k = ls.getD j 0 := ⟨_, rfl⟩
      rw [← hkd] at hk hk256
      have b60 : ((j : Int) == 60) = false := by rw [beq_eq_false_iff_ne]; omega
      clear hcl hkd
      have hpF := hR.pt
      have hk5 : k % 5 = 0 ∨ k % 5 = 1 ∨ k % 5 = 2 ∨ k % 5 = 3 ∨ k % 5 = 4 := by omega
      rcases hk5 with hk5 | hk5 | hk5 | hk5 | hk5
      · have hk5 : (k : Int) % 5 = 0 := by omega
        obtain ⟨x, r1, e1, hx⟩ : ∃ x r1 e1, Pl.rn r 0 = (x, r1, e1) := ⟨_, _, _, rfl⟩
        have HC := Lib.hid (rnum_any _ Fr r 0 wr hR)
        rw [hx] at HC
        have H1 := Lib.hid (And.intro hR (And.intro hW (And.intro hdis (And.intro hFw (And.intro hb (And.intro hpF (And.intro ho hx)))))))
        clear hR hW hdis hFw hb hpF ho hx
        go_wp2_with fail
        refine HC.out.mono ?_
        rintro e w2 ⟨rfl, hR2, hT2⟩
        obtain ⟨hR, hW, hdis, hFw, hb, hpF, ho, hx⟩ := H1.out
        have z2 := hT2.size
        have hW2 := hW.keep hT2 (fun b h1 h2 => hdis b (hpF b h2) h1)
        have hb2 : Below w.heap.size w w2 := hT2.below hb z (fun b hb => by have := hF1 b (hpF b hb); omega)
        have HE := Lib.hid (err_any _ Fr r1 e1 w2 hR2)
        by_cases he : e1 = 0
        · subst he
          have hsame := (rn_same ho hx).symm
          have hux : Pl.U x := by have := Pl.rn_U r 0; rw [hx] at this; exact this
          have HW := Lib.hid (wnum_any _ Fw X x w2 hW2 hux (by omega))
          have H2 := Lib.hid (And.intro hR2 (And.intro hdis (And.intro hFw (And.intro hb2 hsame))))
          clear hR hW hdis hFw hb hpF ho hx hR2 hT2 hW2 hb2 H1 HC hsame 
          go_wp2_with fail
          refine HE.out.mono ?_
          rintro e w' ⟨rfl, rfl⟩
          go_wp2_with fail
          refine HW.out.mono ?_
          rintro e w3 ⟨rfl, hw3⟩
          obtain ⟨hR2, hdis, hFw, hb2, hsame⟩ := H2.out
          have HNX := Lib.hid (next (n := n) (j := j) (D := D) (by omega) (by omega) hR2 hw3 (by rw [← HXD.out, List.append_assoc, hsame]) hdis hFw hb2)
          have HE3 := Lib.hid (err_any _ Fr r1 0 w3 HNX.out.1)
          clear hR2 hdis hFw hb2 hsame hw3
          go_wp2_with fail
          refine HE3.out.mono ?_
          rintro e w' ⟨rfl, rfl⟩
          go_wp2_with fail
          go_roundw
          case rel => exact HNX.out.2 _ (by go_num)
          case measure => simp [intOf]; omega
        · have be : (e1 == 0) = false := by rw [beq_eq_false_iff_ne]; exact he
          have be2 : (e1 != 0) = true := by simpa using he
          have H2 := Lib.hid (And.intro hW2 hb2)
          clear hR hW hdis hFw hb hpF ho hx hR2 hT2 hW2 hb2 H1 HC he 
          go_wp2_with fail
          refine HE.out.mono ?_
          rintro e w' ⟨rfl, rfl⟩
          go_wp2_with fail
          refine HE.out.mono ?_
          rintro e w' ⟨rfl, rfl⟩
          go_wp2_with fail
          refine (awake_any w2).mono ?_
          rintro e wa ⟨rfl, hba⟩
          obtain ⟨hW2, hb2⟩ := H2.out
          have za := hba.size
          have zb := hb2.size
          have hba' : Below w.heap.size w wa := hb2.trans (hba.mono (by omega))
          have HO := Lib.hid (out_any _ Fw X wa (hW2.below hba) (by omega))
          clear hW2 hb2 hba
          go_wp2_with fail
          refine HO.out.mono ?_
          rintro e wo ⟨A5, c5, rfl, hV5, hb5⟩
          have z5 := hb5.size
          have hbo : Below w.heap.size w wo := hba'.trans (hb5.mono (by omega))
          have HP := Lib.hid (pre_yes A A5 M cb X.length c5 D X wo ((HBD.out.below hbo (Nat.le_refl _)).more (by omega)) hV5.bys.2 (by omega) (by rw [← HXD.out, List.take_append_of_le_length (Nat.le_refl _), List.take_of_length_le (Nat.le_refl _)]))
          clear hV5 hb5 hba'
          go_wp2_with fail
          refine HP.out.mono ?_
          rintro e w' ⟨rfl, rfl⟩
          go_wp2_with fail
          go_ret
          exact ⟨rfl, hbo⟩
      · have hk5 : (k : Int) % 5 = 1 := by omega
        obtain ⟨x, r1, e1, hx⟩ : ∃ x r1 e1, Pl.rn r 0 = (x, r1, e1) := ⟨_, _, _, rfl⟩
        have HC := Lib.hid (rint_any _ Fr r 0 wr hR)
        rw [hx] at HC
        have H1 := Lib.hid (And.intro hR (And.intro hW (And.intro hdis (And.intro hFw (And.intro hb (And.intro hpF (And.intro ho hx)))))))
        clear hR hW hdis hFw hb hpF ho hx
        go_wp2_with fail
        refine HC.out.mono ?_
        rintro e w2 ⟨rfl, hR2, hT2⟩
        obtain ⟨hR, hW, hdis, hFw, hb, hpF, ho, hx⟩ := H1.out
        have z2 := hT2.size
        have hW2 := hW.keep hT2 (fun b h1 h2 => hdis b (hpF b h2) h1)
        have hb2 : Below w.heap.size w w2 := hT2.below hb z (fun b hb => by have := hF1 b (hpF b hb); omega)
        have HE := Lib.hid (err_any _ Fr r1 e1 w2 hR2)
        by_cases he : e1 = 0
        · subst he
          have hsame := (rn_same ho hx).symm
          have hux : Pl.U x := by have := Pl.rn_U r 0; rw [hx] at this; exact this
          have hfu := Pl.fold_unfold x
          have HW := Lib.hid (by have h := wint_any _ Fw X (Pl.unfold x) w2 hW2 (Pl.unfold_I hux) (by omega); rw [hfu] at h; exact h)
          have H2 := Lib.hid (And.intro hR2 (And.intro hdis (And.intro hFw (And.intro hb2 hsame))))
          clear hR hW hdis hFw hb hpF ho hx hR2 hT2 hW2 hb2 H1 HC hsame hfu
          go_wp2_with fail
          refine HE.out.mono ?_
          rintro e w' ⟨rfl, rfl⟩
          go_wp2_with fail
          refine HW.out.mono ?_
          rintro e w3 ⟨rfl, hw3⟩
          obtain ⟨hR2, hdis, hFw, hb2, hsame⟩ := H2.out
          have HNX := Lib.hid (next (n := n) (j := j) (D := D) (by omega) (by omega) hR2 hw3 (by rw [← HXD.out, List.append_assoc, hsame]) hdis hFw hb2)
          have HE3 := Lib.hid (err_any _ Fr r1 0 w3 HNX.out.1)
          clear hR2 hdis hFw hb2 hsame hw3
          go_wp2_with fail
          refine HE3.out.mono ?_
          rintro e w' ⟨rfl, rfl⟩
          go_wp2_with fail
          go_roundw
          case rel => exact HNX.out.2 _ (by go_num)
          case measure => simp [intOf]; omega
        · have be : (e1 == 0) = false := by rw [beq_eq_false_iff_ne]; exact he
          have be2 : (e1 != 0) = true := by simpa using he
          have H2 := Lib.hid (And.intro hW2 hb2)
          clear hR hW hdis hFw hb hpF ho hx hR2 hT2 hW2 hb2 H1 HC he
          go_wp2_with fail
          refine HE.out.mono ?_
          rintro e w' ⟨rfl, rfl⟩
          go_wp2_with fail
          refine HE.out.mono ?_
          rintro e w' ⟨rfl, rfl⟩
          go_wp2_with fail
          refine (awake_any w2).mono ?_
          rintro e wa ⟨rfl, hba⟩
          obtain ⟨hW2, hb2⟩ := H2.out
          have za := hba.size
          have zb := hb2.size
          have hba' : Below w.heap.size w wa := hb2.trans (hba.mono (by omega))
          have HO := Lib.hid (out_any _ Fw X wa (hW2.below hba) (by omega))
          clear hW2 hb2 hba
          go_wp2_with fail
          refine HO.out.mono ?_
          rintro e wo ⟨A5, c5, rfl, hV5, hb5⟩
          have z5 := hb5.size
          have hbo : Below w.heap.size w wo := hba'.trans (hb5.mono (by omega))
          have HP := Lib.hid (pre_yes A A5 M cb X.length c5 D X wo ((HBD.out.below hbo (Nat.le_refl _)).more (by omega)) hV5.bys.2 (by omega) (by rw [← HXD.out, List.take_append_of_le_length (Nat.le_refl _), List.take_of_length_le (Nat.le_refl _)]))
          clear hV5 hb5 hba'
          go_wp2_with fail
          refine HP.out.mono ?_
          rintro e w' ⟨rfl, rfl⟩
          go_wp2_with fail
          go_ret
          exact ⟨rfl, hbo⟩
      · have hk5 : (k : Int) % 5 = 2 := by omega
        obtain ⟨x, r1, e1, hx⟩ : ∃ x r1 e1, Pl.rb r 0 1 5 = (x, r1, e1) := ⟨_, _, _, rfl⟩
        have HC := Lib.hid (bool_any _ Fr r 0 wr hR)
        rw [hx] at HC
        have H1 := Lib.hid (And.intro hR (And.intro hW (And.intro hdis (And.intro hFw (And.intro hb (And.intro hpF (And.intro ho hx)))))))
        clear hR hW hdis hFw hb hpF ho hx
        go_wp2_with fail
        refine HC.out.mono ?_
        rintro e w2 ⟨rfl, hR2, hT2⟩
        obtain ⟨hR, hW, hdis, hFw, hb, hpF, ho, hx⟩ := H1.out
        have z2 := hT2.size
        have hW2 := hW.keep hT2 (fun b h1 h2 => hdis b (hpF b h2) h1)
        have hb2 : Below w.heap.size w w2 := hT2.below hb z (fun b hb => by have := hF1 b (hpF b hb); omega)
        have HE := Lib.hid (err_any _ Fr r1 e1 w2 hR2)
        by_cases he : e1 = 0
        · subst he
          have hx1 := (rb_same ho (by omega) hx).2
          have hsame : [(decide (x = 1)).toNat] ++ r1 = r := by
            rw [(rb_same ho (by omega) hx).1, Pl.enc_lt (by omega)]
            have : (decide (x = 1)).toNat = x := by
              rcases (show x = 0 ∨ x = 1 by omega) with rfl | rfl <;> rfl
            rw [this]
          have HW := Lib.hid (wbool_any _ Fw X (decide (x = 1)) w2 hW2 (by omega))
          have H2 := Lib.hid (And.intro hR2 (And.intro hdis (And.intro hFw (And.intro hb2 hsame))))
          clear hR hW hdis hFw hb hpF ho hx hR2 hT2 hW2 hb2 H1 HC hsame 
          go_wp2_with fail
          refine HE.out.mono ?_
          rintro e w' ⟨rfl, rfl⟩
          go_wp2_with fail
          refine HW.out.mono ?_
          rintro e w3 ⟨rfl, hw3⟩
          obtain ⟨hR2, hdis, hFw, hb2, hsame⟩ := H2.out
          have HNX := Lib.hid (next (n := n) (j := j) (D := D) (by omega) (by omega) hR2 hw3 (by rw [← HXD.out, List.append_assoc, hsame]) hdis hFw hb2)
          have HE3 := Lib.hid (err_any _ Fr r1 0 w3 HNX.out.1)
          clear hR2 hdis hFw hb2 hsame hw3
          go_wp2_with fail
          refine HE3.out.mono ?_
          rintro e w' ⟨rfl, rfl⟩
          go_wp2_with fail
          go_roundw
          case rel => exact HNX.out.2 _ (by go_num)
          case measure => simp [intOf]; omega
        · have be : (e1 == 0) = false := by rw [beq_eq_false_iff_ne]; exact he
          have be2 : (e1 != 0) = true := by simpa using he
          have H2 := Lib.hid (And.intro hW2 hb2)
          clear hR hW hdis hFw hb hpF ho hx hR2 hT2 hW2 hb2 H1 HC he 
          go_wp2_with fail
          refine HE.out.mono ?_
          rintro e w' ⟨rfl, rfl⟩
          go_wp2_with fail
          refine HE.out.mono ?_
          rintro e w' ⟨rfl, rfl⟩
          go_wp2_with fail
          refine (awake_any w2).mono ?_
          rintro e wa ⟨rfl, hba⟩
          obtain ⟨hW2, hb2⟩ := H2.out
          have za := hba.size
          have zb := hb2.size
          have hba' : Below w.heap.size w wa := hb2.trans (hba.mono (by omega))
          have HO := Lib.hid (out_any _ Fw X wa (hW2.below hba) (by omega))
          clear hW2 hb2 hba
          go_wp2_with fail
          refine HO.out.mono ?_
          rintro e wo ⟨A5, c5, rfl, hV5, hb5⟩
          have z5 := hb5.size
          have hbo : Below w.heap.size w wo := hba'.trans (hb5.mono (by omega))
          have HP := Lib.hid (pre_yes A A5 M cb X.length c5 D X wo ((HBD.out.below hbo (Nat.le_refl _)).more (by omega)) hV5.bys.2 (by omega) (by rw [← HXD.out, List.take_append_of_le_length (Nat.le_refl _), List.take_of_length_le (Nat.le_refl _)]))
          clear hV5 hb5 hba'
          go_wp2_with fail
          refine HP.out.mono ?_
          rintro e w' ⟨rfl, rfl⟩
          go_wp2_with fail
          go_ret
          exact ⟨rfl, hbo⟩
      · have hk5 : (k : Int) % 5 = 3 := by omega
        obtain ⟨x, r1, e1, hx⟩ : ∃ x r1 e1, Pl.rby r 0 1000 = (x, r1, e1) := ⟨_, _, _, rfl⟩
        have HC := Lib.hid (rbytes_any _ Fr r 0 1000 wr hR (Pl.I.mk (by omega)) (by omega))
        simp only [show (1000 : Int).toNat = 1000 from rfl] at HC
        rw [hx] at HC
        have H1 := Lib.hid (And.intro hR (And.intro hW (And.intro hdis (And.intro hFw (And.intro hb (And.intro hpF (And.intro ho hx)))))))
        clear hR hW hdis hFw hb hpF ho hx
        go_wp2_with fail
        refine HC.out.mono ?_
        rintro e w2 ⟨A2, c2, rfl, hV2, hR2, hT2⟩
        obtain ⟨hR, hW, hdis, hFw, hb, hpF, ho, hx⟩ := H1.out
        have z2 := hT2.size
        have hW2 := hW.keep hT2 (fun b h1 h2 => hdis b (hpF b h2) h1)
        have hb2 : Below w.heap.size w w2 := hT2.below hb z (fun b hb => by have := hF1 b (hpF b hb); omega)
        have HE := Lib.hid (err_any _ Fr r1 e1 w2 hR2)
        by_cases he : e1 = 0
        · subst he
          have hsame : (Pl.enc x.length ++ x) ++ r1 = r := (rby_same ho hx).symm
          have hxl : x.length ≤ r.length := by have := Pl.rby_len r 0 1000; rw [hx] at this; exact this
          have HW := Lib.hid (wbytes_any _ Fw X A2 x.length c2 x w2 hW2 hV2.bys.2 (fun _ ad e hf => by
            subst e
            obtain ⟨g', e', _, hO⟩ := hV2.some_ (by simp)
            cases e'
            have a1 := hO.form.1
            have a2 := hW.lt _ hf
            simp at a2
            omega) (by omega))
          have H2 := Lib.hid (And.intro hR2 (And.intro hdis (And.intro hFw (And.intro hb2 hsame))))
          clear hR hW hdis hFw hb hpF ho hx hR2 hT2 hW2 hb2 H1 HC hsame hV2
          go_wp2_with fail
          refine HE.out.mono ?_
          rintro e w' ⟨rfl, rfl⟩
          go_wp2_with fail
          refine HW.out.mono ?_
          rintro e w3 ⟨rfl, hw3⟩
          obtain ⟨hR2, hdis, hFw, hb2, hsame⟩ := H2.out
          have HNX := Lib.hid (next (n := n) (j := j) (D := D) (by omega) (by omega) hR2 hw3 (by rw [← HXD.out, List.append_assoc, hsame]) hdis hFw hb2)
          have HE3 := Lib.hid (err_any _ Fr r1 0 w3 HNX.out.1)
          clear hR2 hdis hFw hb2 hsame hw3
          go_wp2_with fail
          refine HE3.out.mono ?_
          rintro e w' ⟨rfl, rfl⟩
          go_wp2_with fail
          go_roundw
          case rel => exact HNX.out.2 _ (by go_num)
          case measure => simp [intOf]; omega
        · have be : (e1 == 0) = false := by rw [beq_eq_false_iff_ne]; exact he
          have be2 : (e1 != 0) = true := by simpa using he
          have H2 := Lib.hid (And.intro hW2 hb2)
          clear hR hW hdis hFw hb hpF ho hx hR2 hT2 hW2 hb2 H1 HC he hV2
          go_wp2_with fail
          refine HE.out.mono ?_
          rintro e w' ⟨rfl, rfl⟩
          go_wp2_with fail
          refine HE.out.mono ?_
          rintro e w' ⟨rfl, rfl⟩
          go_wp2_with fail
          refine (awake_any w2).mono ?_
          rintro e wa ⟨rfl, hba⟩
          obtain ⟨hW2, hb2⟩ := H2.out
          have za := hba.size
          have zb := hb2.size
          have hba' : Below w.heap.size w wa := hb2.trans (hba.mono (by omega))
          have HO := Lib.hid (out_any _ Fw X wa (hW2.below hba) (by omega))
          clear hW2 hb2 hba
          go_wp2_with fail
          refine HO.out.mono ?_
          rintro e wo ⟨A5, c5, rfl, hV5, hb5⟩
          have z5 := hb5.size
          have hbo : Below w.heap.size w wo := hba'.trans (hb5.mono (by omega))
          have HP := Lib.hid (pre_yes A A5 M cb X.length c5 D X wo ((HBD.out.below hbo (Nat.le_refl _)).more (by omega)) hV5.bys.2 (by omega) (by rw [← HXD.out, List.take_append_of_le_length (Nat.le_refl _), List.take_of_length_le (Nat.le_refl _)]))
          clear hV5 hb5 hba'
          go_wp2_with fail
          refine HP.out.mono ?_
          rintro e w' ⟨rfl, rfl⟩
          go_wp2_with fail
          go_ret
          exact ⟨rfl, hbo⟩
      · have hk5 : (k : Int) % 5 = 4 := by omega
        obtain ⟨x, r1, e1, hx⟩ : ∃ x r1 e1, Pl.rby r 0 1000 = (x, r1, e1) := ⟨_, _, _, rfl⟩
        have HC := Lib.hid (rstr_any _ Fr r 0 1000 wr hR (Pl.I.mk (by omega)))
        simp only [show (1000 : Int).toNat = 1000 from rfl] at HC
        rw [hx] at HC
        obtain ⟨sv, hsv⟩ : ∃ sv, sv = strOfNums (ints x) := ⟨_, rfl⟩
        simp only at HC
        rw [← hsv] at HC
        have HSV := Lib.hid hsv
        clear hsv
        have H1 := Lib.hid (And.intro hR (And.intro hW (And.intro hdis (And.intro hFw (And.intro hb (And.intro hpF (And.intro ho hx)))))))
        clear hR hW hdis hFw hb hpF ho hx
        go_wp2_with fail
        refine HC.out.mono ?_
        rintro e w2 ⟨rfl, hR2, hT2⟩
        obtain ⟨hR, hW, hdis, hFw, hb, hpF, ho, hx⟩ := H1.out
        have z2 := hT2.size
        have hW2 := hW.keep hT2 (fun b h1 h2 => hdis b (hpF b h2) h1)
        have hb2 : Below w.heap.size w w2 := hT2.below hb z (fun b hb => by have := hF1 b (hpF b hb); omega)
        have HE := Lib.hid (err_any _ Fr r1 e1 w2 hR2)
        by_cases he : e1 = 0
        · subst he
          have hsame : (Pl.enc x.length ++ x) ++ r1 = r := (rby_same ho hx).symm
          have hxl : x.length ≤ r.length := by have := Pl.rby_len r 0 1000; rw [hx] at this; exact this
          have hxo : Pl.Oct x := by
            have h := hsame
            intro y hy
            refine ho y ?_
            rw [← h]
            simp [hy]
          have HW := Lib.hid (wstr_any _ Fw X sv x w2 hW2 HSV.out hxo (by omega))
          have H2 := Lib.hid (And.intro hR2 (And.intro hdis (And.intro hFw (And.intro hb2 hsame))))
          clear hR hW hdis hFw hb hpF ho hx hR2 hT2 hW2 hb2 H1 HC hsame hxo
          go_wp2_with fail
          refine HE.out.mono ?_
          rintro e w' ⟨rfl, rfl⟩
          go_wp2_with fail
          refine HW.out.mono ?_
          rintro e w3 ⟨rfl, hw3⟩
          obtain ⟨hR2, hdis, hFw, hb2, hsame⟩ := H2.out
          have HNX := Lib.hid (next (n := n) (j := j) (D := D) (by omega) (by omega) hR2 hw3 (by rw [← HXD.out, List.append_assoc, hsame]) hdis hFw hb2)
          have HE3 := Lib.hid (err_any _ Fr r1 0 w3 HNX.out.1)
          clear hR2 hdis hFw hb2 hsame hw3
          go_wp2_with fail
          refine HE3.out.mono ?_
          rintro e w' ⟨rfl, rfl⟩
          go_wp2_with fail
          go_roundw
          case rel => exact HNX.out.2 _ (by go_num)
          case measure => simp [intOf]; omega
        · have be : (e1 == 0) = false := by rw [beq_eq_false_iff_ne]; exact he
          have be2 : (e1 != 0) = true := by simpa using he
          have H2 := Lib.hid (And.intro hW2 hb2)
          clear hR hW hdis hFw hb hpF ho hx hR2 hT2 hW2 hb2 H1 HC he
          go_wp2_with fail
          refine HE.out.mono ?_
          rintro e w' ⟨rfl, rfl⟩
          go_wp2_with fail
          refine HE.out.mono ?_
          rintro e w' ⟨rfl, rfl⟩
          go_wp2_with fail
          refine (awake_any w2).mono ?_
          rintro e wa ⟨rfl, hba⟩
          obtain ⟨hW2, hb2⟩ := H2.out
          have za := hba.size
          have zb := hb2.size
          have hba' : Below w.heap.size w wa := hb2.trans (hba.mono (by omega))
          have HO := Lib.hid (out_any _ Fw X wa (hW2.below hba) (by omega))
          clear hW2 hb2 hba
          go_wp2_with fail
          refine HO.out.mono ?_
          rintro e wo ⟨A5, c5, rfl, hV5, hb5⟩
          have z5 := hb5.size
          have hbo : Below w.heap.size w wo := hba'.trans (hb5.mono (by omega))
          have HP := Lib.hid (pre_yes A A5 M cb X.length c5 D X wo ((HBD.out.below hbo (Nat.le_refl _)).more (by omega)) hV5.bys.2 (by omega) (by rw [← HXD.out, List.take_append_of_le_length (Nat.le_refl _), List.take_of_length_le (Nat.le_refl _)]))
          clear hV5 hb5 hba'
          go_wp2_with fail
          refine HP.out.mono ?_
          rintro e w' ⟨rfl, rfl⟩
          go_wp2_with fail
          go_ret
          exact ⟨rfl, hbo⟩
    · have HAW := Lib.hid (out_any _ Fw X wr hW (by omega))
      have H9 := Lib.hid (And.intro hR (And.intro hW hb))
      clear hR hW hb hdis hFw ho
      by_cases h6 : j = n
      · subst h6
        go_wp2_with fail
        refine HAW.out.mono ?_
        rintro e wo ⟨A5, c5, rfl, hV5, hb5⟩
        obtain ⟨hR, hW, hb⟩ := H9.out
        have z5 := hb5.size
        have hR5 := hR.below hb5
        have hbo : Below w.heap.size w wo := hb.trans (hb5.mono (by omega))
        have HA := Lib.hid (awake_any wo)
        have HF := Lib.hid (And.intro hR5 (And.intro hbo hV5))
        clear hR hW hb hb5 hR5 hV5 hbo H9 HAW
        go_wp2_with fail
        refine HA.out.mono ?_
        rintro e wa ⟨rfl, hba⟩
        obtain ⟨hR5, hbo, hV5⟩ := HF.out
        have za := hba.size
        have zo := hbo.size
        have hba' : Below w.heap.size w wa := hbo.trans (hba.mono (by omega))
        have HP := Lib.hid (pre_yes A A5 M cb X.length c5 D X wa ((HBD.out.below hba' (Nat.le_refl _)).more (by omega)) ((hV5.bys.2.below hba (Nat.le_refl _)).more za) (by omega) (by rw [← HXD.out, List.take_append_of_le_length (Nat.le_refl _), List.take_of_length_le (Nat.le_refl _)]))
        have HLF := Lib.hid (left_any _ Fr r 0 wa (hR5.below hba))
        have hM9 : M ≤ 500 := hM2
        clear hR5 hbo hV5 hba
        go_wp2_with fail
        refine HP.out.mono ?_
        rintro e w' ⟨rfl, rfl⟩
        go_wp2_with fail
        refine HLF.out.mono ?_
        rintro e w' ⟨rfl, nd, rfl⟩
        have hsub : (M : Int) - (X.length : Int) = (r.length : Int) := by omega
        go_wp2_with fail
        go_ret
        refine ⟨?_, ⟨hba'.os, hba'.tape, hba'.output, hba'.size, hba'.block⟩⟩
        first | rfl | (simp; done)
      · have hj6 : j = 60 := by omega
        subst hj6
        obtain ⟨g, o, rfl, hg, hcl⟩ := (HL.out.below H9.out.2.2 (Nat.le_refl _)).at_ (i := 60) (by omega)
        have hk := hcl 60 (by omega)
        clear hcl
        go_wp2_with fail
        refine HAW.out.mono ?_
        rintro e wo ⟨A5, c5, rfl, hV5, hb5⟩
        obtain ⟨hR, hW, hb⟩ := H9.out
        have z5 := hb5.size
        have hR5 := hR.below hb5
        have hbo : Below w.heap.size w wo := hb.trans (hb5.mono (by omega))
        have HA := Lib.hid (awake_any wo)
        have HF := Lib.hid (And.intro hR5 (And.intro hbo hV5))
        clear hR hW hb hb5 hR5 hV5 hbo H9 HAW
        go_wp2_with fail
        refine HA.out.mono ?_
        rintro e wa ⟨rfl, hba⟩
        obtain ⟨hR5, hbo, hV5⟩ := HF.out
        have za := hba.size
        have zo := hbo.size
        have hba' : Below w.heap.size w wa := hbo.trans (hba.mono (by omega))
        have HP := Lib.hid (pre_yes A A5 M cb X.length c5 D X wa ((HBD.out.below hba' (Nat.le_refl _)).more (by omega)) ((hV5.bys.2.below hba (Nat.le_refl _)).more za) (by omega) (by rw [← HXD.out, List.take_append_of_le_length (Nat.le_refl _), List.take_of_length_le (Nat.le_refl _)]))
        have HLF := Lib.hid (left_any _ Fr r 0 wa (hR5.below hba))
        have hM9 : M ≤ 500 := hM2
        clear hR5 hbo hV5 hba
        go_wp2_with fail
        refine HP.out.mono ?_
        rintro e w' ⟨rfl, rfl⟩
        go_wp2_with fail
        refine HLF.out.mono ?_
        rintro e w' ⟨rfl, nd, rfl⟩
        have hsub : (M : Int) - (X.length : Int) = (r.length : Int) := by omega
        go_wp2_with fail
        go_ret
        refine ⟨?_, ⟨hba'.os, hba'.tape, hba'.output, hba'.size, hba'.block⟩⟩
        first | rfl | (simp; done)
end Go.Proofs.Ytpakbpkcacdpbaa.wireSame
