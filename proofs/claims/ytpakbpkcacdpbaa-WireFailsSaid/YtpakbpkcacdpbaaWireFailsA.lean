/-
  The walk of copybooklaw03.WireFails: it returns true for every row of bytes, every list of asks and every number, and turns nothing that was there.
-/
import Derived.Test.YtpakbpkcacdpbaaWireU
namespace Go.Proofs.Ytpakbpkcacdpbaa.wireFails
open Go.RowKit

theorem re_len (r : List Nat) (e : Int) : (Pl.re_ r e).1.length ≤ r.length := by
  unfold Pl.re_; split <;> simp
theorem rb_dead {r : List Nat} {e : Int} {m : Nat} {ab : Int} (he : e ≠ 0) : Pl.rb r e m ab = (0, [], e) := by
  unfold Pl.rb; rw [Pl.rn_dead he]; simp
theorem rby_dead {r : List Nat} {e : Int} {m : Nat} (he : e ≠ 0) : Pl.rby r e m = ([], [], e) := by
  unfold Pl.rby; rw [rb_dead he]; simp [Pl.rt, he]
theorem re_dead {r : List Nat} {e : Int} (he : e ≠ 0) : Pl.re_ r e = (r, e) := by simp [Pl.re_, he]
/-- what an ask leaves -/
def Asked (w : World) (A : Option Addr) (F : Nat → Prop) (r : List Nat) (w' : World) : Prop := ∃ r' e', Rd w' A F r' e' ∧ r'.length ≤ r.length ∧ Tn (Pt A) w w'
theorem Asked.of {w w1 : World} {A : Option Addr} {F : Nat → Prop} {r : List Nat} {s : List Nat × Int} (h : RdTo w A F s w1) (hl : s.1.length ≤ r.length) : Asked w A F r w1 := ⟨_, _, h.1, hl, h.2⟩
theorem drew_rdto {o0 : Obj} {w w1 : World} {A : Option Addr} {F : Nat → Prop} {s : List Nat × Int} {nd : Nat} (h : RdTo ((w.drewN nd).alloc o0) A F s w1) (hb : Below w.heap.size w ((w.drewN nd).alloc o0)) : RdTo w A F s w1 := ⟨h.1, (Tn.of (Pt A) hb).trans h.2 (fun _ _ x => x)⟩

set_option maxRecDepth 100000 in
set_option maxHeartbeats 4000000 in
theorem ask_ok (p q : Nat) (F : Nat → Prop) (r : List Nat) (what most : Int) (N : Nat) (w : World) (hR : Rd w (some ⟨p, 0, none⟩) F r 0) (hq : w.heap[q]? = some (.cells #[.pointer (some ⟨p, 0, none⟩)] 44 (0, 0))) (hqF : ¬ F q) (hmost : Pl.I most) (hr : r.length ≤ 140737488355328) :
    Calls Try.prog 45 #[.agg #[.int .i64 what, .int .i64 most, .int .u64 (N : Int)], .pointer (some ⟨q, 0, none⟩)] w fun en w' => en = .returned (.bool true) ∧ Asked w (some ⟨p, 0, none⟩) F r w' := by
  have hz := lt_of_block hq
  have hpF := hR.pt
  obtain ⟨W, hW⟩ : ∃ W, W = w.alloc (.cells #[.int .i64 what, .int .i64 most, .int .u64 (N : Int)] 50) := ⟨_, rfl⟩
  have hb : Below w.heap.size w W := by rw [hW]; exact (Below.refl _ _).alloc (Nat.le_refl _) _
  have hRW := hR.below hb
  have hqW : W.heap[q]? = some (.cells #[.pointer (some ⟨p, 0, none⟩)] 44 (0, 0)) := (hb.block q hz).trans hq
  have ha : W.heap[w.heap.size]? = some (.cells #[.int .i64 what, .int .i64 most, .int .u64 (N : Int)] 50 (0, 0)) := by rw [hW, heap_alloc_new]
  have HL := Lib.hid (left_any _ F r 0 W hRW)
  have HW := Lib.hid hW
  have H0 := Lib.hid (And.intro hRW (And.intro hqW (And.intro ha (And.intro hb hpF))))
  have c0 := cell_of_one hqW
  rw [hW] at c0
  clear hR hq hRW hqW ha hb hpF hW
  go_enter Try.func45, Try.ntmps45
  go_wp2_with fail
  rw [← HW.out]
  clear c0
  refine HL.out.mono ?_
  rintro en w' ⟨rfl, nd, rfl⟩
  obtain ⟨hRW, hqW, ha, hb, hpF⟩ := H0.out
  have c0 : (W.drewN nd).cell? ⟨q, 0, none⟩ = some (.pointer (some ⟨p, 0, none⟩)) := cell_of_one hqW
  have a0 : (W.drewN nd).cell? ⟨w.heap.size, 0, none⟩ = some (.int .i64 what) := cell0 (w := W.drewN nd) ha
  have a1 : (W.drewN nd).cell? ⟨w.heap.size, 1, none⟩ = some (.int .i64 most) := cell1 (w := W.drewN nd) ha
  replace hRW : Rd (W.drewN nd) (some ⟨p, 0, none⟩) F r 0 := hRW
  replace hqW : (W.drewN nd).heap[q]? = some (.cells #[.pointer (some ⟨p, 0, none⟩)] 44 (0, 0)) := hqW
  replace hb : Below w.heap.size w (W.drewN nd) := ⟨hb.os, hb.tape, hb.output, hb.size, hb.block⟩
  clear ha H0 HL HW
  obtain ⟨V, hV⟩ : ∃ V, V = W.drewN nd := ⟨_, rfl⟩
  rw [← hV] at c0 a0 a1 hRW hqW hb
  rw [← hV]
  clear hV
  have hqV := lt_of_block hqW
  have HE := Lib.hid (err_any _ F r 0 V hRW)
  have H1 := Lib.hid (And.intro hRW (And.intro hqW (And.intro hb hpF)))
  clear hRW hqW hb hpF
  go_wp2_with fail
  refine HE.out.mono ?_
  rintro en w' ⟨rfl, rfl⟩
  by_cases k0 : what = 0
  · subst k0
    obtain ⟨hRV, hqV2, hb, hpF⟩ := H1.out
    have HC := Lib.hid (rnum_any _ F r 0 V hRV)
    have hlen := Pl.rn_len r 0
    obtain ⟨x, r1, e1, hx⟩ : ∃ x r1 e1, Pl.rn r 0 = (x, r1, e1) := ⟨_, _, _, rfl⟩
    rw [hx] at HC hlen
    simp only at hlen
    have HLN := Lib.hid hlen
    clear hx hlen
    clear hRV hqV2 hb hpF
    go_wp2_with fail
    refine HC.out.mono ?_
    rintro en V2 ⟨rfl, hR2, hT2⟩
    obtain ⟨hRV, hqV2, hb, hpF⟩ := H1.out
    have cq : V2.cell? ⟨q, 0, none⟩ = some (.pointer (some ⟨p, 0, none⟩)) := cell_of_one ((hT2.block q hqV (fun hp => hqF (hpF q hp))).trans hqV2)
    have hend : Asked w (some ⟨p, 0, none⟩) F r V2 := ⟨r1, e1, hR2, HLN.out, (Tn.of (Pt (some ⟨p, 0, none⟩)) hb).trans hT2 (fun _ _ x => x)⟩
    clear hRV hqV2 hb hpF hR2 hT2 HC H1
    go_wp2_with fail
    go_ret
    exact ⟨rfl, hend⟩
  by_cases k1 : what = 1
  · subst k1
    obtain ⟨hRV, hqV2, hb, hpF⟩ := H1.out
    have HC := Lib.hid (rint_any _ F r 0 V hRV)
    have hlen := Pl.rn_len r 0
    obtain ⟨x, r1, e1, hx⟩ : ∃ x r1 e1, Pl.rn r 0 = (x, r1, e1) := ⟨_, _, _, rfl⟩
    rw [hx] at HC hlen
    simp only at hlen
    obtain ⟨uv, huv⟩ : ∃ uv, uv = Pl.unfold x := ⟨_, rfl⟩
    simp only at HC
    rw [← huv] at HC
    clear huv
    have HLN := Lib.hid hlen
    clear hx hlen
    clear hRV hqV2 hb hpF
    go_wp2_with fail
    refine HC.out.mono ?_
    rintro en V2 ⟨rfl, hR2, hT2⟩
    obtain ⟨hRV, hqV2, hb, hpF⟩ := H1.out
    have cq : V2.cell? ⟨q, 0, none⟩ = some (.pointer (some ⟨p, 0, none⟩)) := cell_of_one ((hT2.block q hqV (fun hp => hqF (hpF q hp))).trans hqV2)
    have hend : Asked w (some ⟨p, 0, none⟩) F r V2 := ⟨r1, e1, hR2, HLN.out, (Tn.of (Pt (some ⟨p, 0, none⟩)) hb).trans hT2 (fun _ _ x => x)⟩
    clear hRV hqV2 hb hpF hR2 hT2 HC H1
    go_wp2_with fail
    go_ret
    exact ⟨rfl, hend⟩
  by_cases k2 : what = 2
  · subst k2
    obtain ⟨hRV, hqV2, hb, hpF⟩ := H1.out
    have HC := Lib.hid (bool_any _ F r 0 V hRV)
    have hlen := Pl.rb_len r 0 1 5
    obtain ⟨x, r1, e1, hx⟩ : ∃ x r1 e1, Pl.rb r 0 1 5 = (x, r1, e1) := ⟨_, _, _, rfl⟩
    rw [hx] at HC hlen
    simp only at hlen
    have HLN := Lib.hid hlen
    clear hx hlen
    clear hRV hqV2 hb hpF
    go_wp2_with fail
    refine HC.out.mono ?_
    rintro en V2 ⟨rfl, hR2, hT2⟩
    obtain ⟨hRV, hqV2, hb, hpF⟩ := H1.out
    have cq : V2.cell? ⟨q, 0, none⟩ = some (.pointer (some ⟨p, 0, none⟩)) := cell_of_one ((hT2.block q hqV (fun hp => hqF (hpF q hp))).trans hqV2)
    have hend : Asked w (some ⟨p, 0, none⟩) F r V2 := ⟨r1, e1, hR2, HLN.out, (Tn.of (Pt (some ⟨p, 0, none⟩)) hb).trans hT2 (fun _ _ x => x)⟩
    clear hRV hqV2 hb hpF hR2 hT2 HC H1
    go_wp2_with fail
    go_ret
    exact ⟨rfl, hend⟩
  by_cases k3 : what = 3
  · subst k3
    obtain ⟨hRV, hqV2, hb, hpF⟩ := H1.out
    have HC := Lib.hid (rbytes_any _ F r 0 most V hRV hmost (by omega))
    have hlen := Pl.rby_len2 r 0 most.toNat
    obtain ⟨x, r1, e1, hx⟩ : ∃ x r1 e1, Pl.rby r 0 most.toNat = (x, r1, e1) := ⟨_, _, _, rfl⟩
    rw [hx] at HC hlen
    simp only at hlen
    have HLN := Lib.hid hlen
    clear hx hlen
    clear hRV hqV2 hb hpF
    go_wp2_with fail
    refine HC.out.mono ?_
    rintro en V2 ⟨A2, c2, rfl, _, hR2, hT2⟩
    obtain ⟨hRV, hqV2, hb, hpF⟩ := H1.out
    have cq : V2.cell? ⟨q, 0, none⟩ = some (.pointer (some ⟨p, 0, none⟩)) := cell_of_one ((hT2.block q hqV (fun hp => hqF (hpF q hp))).trans hqV2)
    have hend : Asked w (some ⟨p, 0, none⟩) F r V2 := ⟨r1, e1, hR2, HLN.out, (Tn.of (Pt (some ⟨p, 0, none⟩)) hb).trans hT2 (fun _ _ x => x)⟩
    clear hRV hqV2 hb hpF hR2 hT2 HC H1
    go_wp2_with fail
    go_ret
    exact ⟨rfl, hend⟩
  by_cases k4 : what = 4
  · subst k4
    obtain ⟨hRV, hqV2, hb, hpF⟩ := H1.out
    have HC := Lib.hid (rstr_any _ F r 0 most V hRV hmost)
    have hlen := Pl.rby_len2 r 0 most.toNat
    obtain ⟨x, r1, e1, hx⟩ : ∃ x r1 e1, Pl.rby r 0 most.toNat = (x, r1, e1) := ⟨_, _, _, rfl⟩
    rw [hx] at HC hlen
    simp only at hlen
    obtain ⟨sv, hsv⟩ : ∃ sv, sv = strOfNums (ints x) := ⟨_, rfl⟩
    simp only at HC
    rw [← hsv] at HC
    clear hsv
    have HLN := Lib.hid hlen
    clear hx hlen
    clear hRV hqV2 hb hpF
    go_wp2_with fail
    refine HC.out.mono ?_
    rintro en V2 ⟨rfl, hR2, hT2⟩
    obtain ⟨hRV, hqV2, hb, hpF⟩ := H1.out
    have cq : V2.cell? ⟨q, 0, none⟩ = some (.pointer (some ⟨p, 0, none⟩)) := cell_of_one ((hT2.block q hqV (fun hp => hqF (hpF q hp))).trans hqV2)
    have hend : Asked w (some ⟨p, 0, none⟩) F r V2 := ⟨r1, e1, hR2, HLN.out, (Tn.of (Pt (some ⟨p, 0, none⟩)) hb).trans hT2 (fun _ _ x => x)⟩
    clear hRV hqV2 hb hpF hR2 hT2 HC H1
    go_wp2_with fail
    go_ret
    exact ⟨rfl, hend⟩
  by_cases k5 : what = 5
  · subst k5
    obtain ⟨hRV, hqV2, hb, hpF⟩ := H1.out
    have HC := Lib.hid (count_any _ F r 0 most V hRV hmost)
    have hlen := Pl.rb_len r 0 most.toNat 3
    obtain ⟨x, r1, e1, hx⟩ : ∃ x r1 e1, Pl.rb r 0 most.toNat 3 = (x, r1, e1) := ⟨_, _, _, rfl⟩
    rw [hx] at HC hlen
    simp only at hlen
    have HLN := Lib.hid hlen
    clear hx hlen
    clear hRV hqV2 hb hpF
    go_wp2_with fail
    refine HC.out.mono ?_
    rintro en V2 ⟨rfl, hR2, hT2⟩
    obtain ⟨hRV, hqV2, hb, hpF⟩ := H1.out
    have cq : V2.cell? ⟨q, 0, none⟩ = some (.pointer (some ⟨p, 0, none⟩)) := cell_of_one ((hT2.block q hqV (fun hp => hqF (hpF q hp))).trans hqV2)
    have hend : Asked w (some ⟨p, 0, none⟩) F r V2 := ⟨r1, e1, hR2, HLN.out, (Tn.of (Pt (some ⟨p, 0, none⟩)) hb).trans hT2 (fun _ _ x => x)⟩
    clear hRV hqV2 hb hpF hR2 hT2 HC H1
    go_wp2_with fail
    go_ret
    exact ⟨rfl, hend⟩
  by_cases k8 : what = 8
  · subst k8
    obtain ⟨hRV, hqV2, hb, hpF⟩ := H1.out
    have HC := Lib.hid (end_any _ F r 0 V hRV)
    have hlen := re_len r 0
    obtain ⟨r1, e1, hx⟩ : ∃ r1 e1, Pl.re_ r 0 = (r1, e1) := ⟨_, _, rfl⟩
    rw [hx] at HC hlen
    simp only at hlen
    have HLN := Lib.hid hlen
    clear hx hlen
    clear hRV hqV2 hb hpF
    go_wp2_with fail
    refine HC.out.mono ?_
    rintro en V2 ⟨rfl, hR2, hT2⟩
    obtain ⟨hRV, hqV2, hb, hpF⟩ := H1.out
    have cq : V2.cell? ⟨q, 0, none⟩ = some (.pointer (some ⟨p, 0, none⟩)) := cell_of_one ((hT2.block q hqV (fun hp => hqF (hpF q hp))).trans hqV2)
    have hend : Asked w (some ⟨p, 0, none⟩) F r V2 := ⟨r1, e1, hR2, HLN.out, (Tn.of (Pt (some ⟨p, 0, none⟩)) hb).trans hT2 (fun _ _ x => x)⟩
    clear hRV hqV2 hb hpF hR2 hT2 HC H1
    go_wp2_with fail
    go_ret
    exact ⟨rfl, hend⟩
  obtain ⟨hRV, hqV2, hb, hpF⟩ := H1.out
  have b0 : (what == 0) = false := by rw [beq_eq_false_iff_ne]; exact k0
  have b1 : (what == 1) = false := by rw [beq_eq_false_iff_ne]; exact k1
  have b2 : (what == 2) = false := by rw [beq_eq_false_iff_ne]; exact k2
  have b3 : (what == 3) = false := by rw [beq_eq_false_iff_ne]; exact k3
  have b4 : (what == 4) = false := by rw [beq_eq_false_iff_ne]; exact k4
  have b5 : (what == 5) = false := by rw [beq_eq_false_iff_ne]; exact k5
  have b8 : (what == 8) = false := by rw [beq_eq_false_iff_ne]; exact k8
  obtain ⟨V2, hV2⟩ : ∃ V2, V2 = V := ⟨_, rfl⟩
  rw [← hV2] at hRV hb a0 c0
  rw [← hV2]
  have hend : Asked w (some ⟨p, 0, none⟩) F r V2 := ⟨r, 0, hRV, Nat.le_refl _, Tn.of _ hb⟩
  clear hRV hqV2 hb hpF H1 HE hV2 k0 k1 k2 k3 k4 k5 k8
  go_wp2_with fail
  go_ret
  exact ⟨rfl, hend⟩
set_option maxRecDepth 100000 in
set_option maxHeartbeats 4000000 in
theorem ask_dead (p q : Nat) (F : Nat → Prop) (r : List Nat) (e : Int) (he : e ≠ 0) (what most : Int) (N : Nat) (w : World) (hR : Rd w (some ⟨p, 0, none⟩) F r e) (hq : w.heap[q]? = some (.cells #[.pointer (some ⟨p, 0, none⟩)] 44 (0, 0))) (hqF : ¬ F q) (hmost : Pl.I most) (hr : r.length ≤ 140737488355328) :
    Calls Try.prog 45 #[.agg #[.int .i64 what, .int .i64 most, .int .u64 (N : Int)], .pointer (some ⟨q, 0, none⟩)] w fun en w' => en = .returned (.bool true) ∧ Rd w' (some ⟨p, 0, none⟩) F r e ∧ Tn (Pt (some ⟨p, 0, none⟩)) w w' := by
  have hz := lt_of_block hq
  have hpF := hR.pt
  obtain ⟨W, hW⟩ : ∃ W, W = w.alloc (.cells #[.int .i64 what, .int .i64 most, .int .u64 (N : Int)] 50) := ⟨_, rfl⟩
  have hb : Below w.heap.size w W := by rw [hW]; exact (Below.refl _ _).alloc (Nat.le_refl _) _
  have hRW := hR.below hb
  have hqW : W.heap[q]? = some (.cells #[.pointer (some ⟨p, 0, none⟩)] 44 (0, 0)) := (hb.block q hz).trans hq
  have ha : W.heap[w.heap.size]? = some (.cells #[.int .i64 what, .int .i64 most, .int .u64 (N : Int)] 50 (0, 0)) := by rw [hW, heap_alloc_new]
  have HL := Lib.hid (left_any _ F r e W hRW)
  have HW := Lib.hid hW
  have H0 := Lib.hid (And.intro hRW (And.intro hqW (And.intro ha (And.intro hb hpF))))
  have c0 := cell_of_one hqW
  rw [hW] at c0
  clear hR hq hRW hqW ha hb hpF hW
  go_enter Try.func45, Try.ntmps45
  go_wp2_with fail
  rw [← HW.out]
  clear c0
  refine HL.out.mono ?_
  rintro en w' ⟨rfl, nd, rfl⟩
  obtain ⟨hRW, hqW, ha, hb, hpF⟩ := H0.out
  have c0 : (W.drewN nd).cell? ⟨q, 0, none⟩ = some (.pointer (some ⟨p, 0, none⟩)) := cell_of_one hqW
  have a0 : (W.drewN nd).cell? ⟨w.heap.size, 0, none⟩ = some (.int .i64 what) := cell0 (w := W.drewN nd) ha
  have a1 : (W.drewN nd).cell? ⟨w.heap.size, 1, none⟩ = some (.int .i64 most) := cell1 (w := W.drewN nd) ha
  replace hRW : Rd (W.drewN nd) (some ⟨p, 0, none⟩) F r e := hRW
  replace hqW : (W.drewN nd).heap[q]? = some (.cells #[.pointer (some ⟨p, 0, none⟩)] 44 (0, 0)) := hqW
  replace hb : Below w.heap.size w (W.drewN nd) := ⟨hb.os, hb.tape, hb.output, hb.size, hb.block⟩
  clear ha H0 HL HW
  obtain ⟨V, hV⟩ : ∃ V, V = W.drewN nd := ⟨_, rfl⟩
  rw [← hV] at c0 a0 a1 hRW hqW hb
  rw [← hV]
  clear hV
  have hqV := lt_of_block hqW
  have HE := Lib.hid (err_any _ F r e V hRW)
  have H1 := Lib.hid (And.intro hRW (And.intro hqW (And.intro hb hpF)))
  clear hRW hqW hb hpF
  go_wp2_with fail
  refine HE.out.mono ?_
  rintro en w' ⟨rfl, rfl⟩
  have be : (e == 0) = false := by rw [beq_eq_false_iff_ne]; exact he
  have hr0 : r = [] := H1.out.1.dead he
  subst hr0
  by_cases k0 : what = 0
  · subst k0
    obtain ⟨hRV, hqV2, hb, hpF⟩ := H1.out
    have HC := Lib.hid (rnum_any _ F [] e V hRV)
    rw [Pl.rn_dead he] at HC
    clear hRV hqV2 hb hpF
    go_wp2_with fail
    refine HC.out.mono ?_
    rintro en V2 ⟨rfl, hR2, hT2⟩
    obtain ⟨hRV, hqV2, hb, hpF⟩ := H1.out
    have cq : V2.cell? ⟨q, 0, none⟩ = some (.pointer (some ⟨p, 0, none⟩)) := cell_of_one ((hT2.block q hqV (fun hp => hqF (hpF q hp))).trans hqV2)
    have hend : Rd V2 (some ⟨p, 0, none⟩) F [] e ∧ Tn (Pt (some ⟨p, 0, none⟩)) w V2 := ⟨hR2, (Tn.of (Pt (some ⟨p, 0, none⟩)) hb).trans hT2 (fun _ _ x => x)⟩
    clear hRV hqV2 hb hpF hR2 hT2 HC H1
    have HE2 := Lib.hid (err_any _ F [] e V2 hend.1)
    have HL2 := Lib.hid (left_any _ F [] e V2 hend.1)
    have HEN := Lib.hid hend
    clear hend
    go_wp2_with fail
    refine HE2.out.mono ?_
    rintro en w' ⟨rfl, rfl⟩
    go_wp2_with fail
    refine HL2.out.mono ?_
    rintro en w' ⟨rfl, nd2, rfl⟩
    go_wp2_with fail
    go_ret
    obtain ⟨h1, h2⟩ := HEN.out
    exact ⟨rfl, h1, ⟨h2.os, h2.tape, h2.output, h2.size, h2.block⟩⟩
  by_cases k1 : what = 1
  · subst k1
    obtain ⟨hRV, hqV2, hb, hpF⟩ := H1.out
    have HC := Lib.hid (rint_any _ F [] e V hRV)
    rw [Pl.rn_dead he] at HC
    rw [show Pl.unfold ((0, [], e) : Nat × List Nat × Int).1 = 0 from (by show Pl.unfold 0 = 0; decide)] at HC
    clear hRV hqV2 hb hpF
    go_wp2_with fail
    refine HC.out.mono ?_
    rintro en V2 ⟨rfl, hR2, hT2⟩
    obtain ⟨hRV, hqV2, hb, hpF⟩ := H1.out
    have cq : V2.cell? ⟨q, 0, none⟩ = some (.pointer (some ⟨p, 0, none⟩)) := cell_of_one ((hT2.block q hqV (fun hp => hqF (hpF q hp))).trans hqV2)
    have hend : Rd V2 (some ⟨p, 0, none⟩) F [] e ∧ Tn (Pt (some ⟨p, 0, none⟩)) w V2 := ⟨hR2, (Tn.of (Pt (some ⟨p, 0, none⟩)) hb).trans hT2 (fun _ _ x => x)⟩
    clear hRV hqV2 hb hpF hR2 hT2 HC H1
    have HE2 := Lib.hid (err_any _ F [] e V2 hend.1)
    have HL2 := Lib.hid (left_any _ F [] e V2 hend.1)
    have HEN := Lib.hid hend
    clear hend
    go_wp2_with fail
    refine HE2.out.mono ?_
    rintro en w' ⟨rfl, rfl⟩
    go_wp2_with fail
    refine HL2.out.mono ?_
    rintro en w' ⟨rfl, nd2, rfl⟩
    go_wp2_with fail
    go_ret
    obtain ⟨h1, h2⟩ := HEN.out
    exact ⟨rfl, h1, ⟨h2.os, h2.tape, h2.output, h2.size, h2.block⟩⟩
  by_cases k2 : what = 2
  · subst k2
    obtain ⟨hRV, hqV2, hb, hpF⟩ := H1.out
    have HC := Lib.hid (bool_any _ F [] e V hRV)
    rw [rb_dead he] at HC
    clear hRV hqV2 hb hpF
    go_wp2_with fail
    refine HC.out.mono ?_
    rintro en V2 ⟨rfl, hR2, hT2⟩
    obtain ⟨hRV, hqV2, hb, hpF⟩ := H1.out
    have cq : V2.cell? ⟨q, 0, none⟩ = some (.pointer (some ⟨p, 0, none⟩)) := cell_of_one ((hT2.block q hqV (fun hp => hqF (hpF q hp))).trans hqV2)
    have hend : Rd V2 (some ⟨p, 0, none⟩) F [] e ∧ Tn (Pt (some ⟨p, 0, none⟩)) w V2 := ⟨hR2, (Tn.of (Pt (some ⟨p, 0, none⟩)) hb).trans hT2 (fun _ _ x => x)⟩
    clear hRV hqV2 hb hpF hR2 hT2 HC H1
    have HE2 := Lib.hid (err_any _ F [] e V2 hend.1)
    have HL2 := Lib.hid (left_any _ F [] e V2 hend.1)
    have HEN := Lib.hid hend
    clear hend
    go_wp2_with fail
    refine HE2.out.mono ?_
    rintro en w' ⟨rfl, rfl⟩
    go_wp2_with fail
    refine HL2.out.mono ?_
    rintro en w' ⟨rfl, nd2, rfl⟩
    go_wp2_with fail
    go_ret
    obtain ⟨h1, h2⟩ := HEN.out
    exact ⟨rfl, h1, ⟨h2.os, h2.tape, h2.output, h2.size, h2.block⟩⟩
  by_cases k3 : what = 3
  · subst k3
    obtain ⟨hRV, hqV2, hb, hpF⟩ := H1.out
    have HC := Lib.hid (rbytes_any _ F [] e most V hRV hmost (by omega))
    rw [rby_dead he] at HC
    clear hRV hqV2 hb hpF
    go_wp2_with fail
    refine HC.out.mono ?_
    rintro en V2 ⟨A2, c2, rfl, _, hR2, hT2⟩
    obtain ⟨hRV, hqV2, hb, hpF⟩ := H1.out
    have cq : V2.cell? ⟨q, 0, none⟩ = some (.pointer (some ⟨p, 0, none⟩)) := cell_of_one ((hT2.block q hqV (fun hp => hqF (hpF q hp))).trans hqV2)
    have hend : Rd V2 (some ⟨p, 0, none⟩) F [] e ∧ Tn (Pt (some ⟨p, 0, none⟩)) w V2 := ⟨hR2, (Tn.of (Pt (some ⟨p, 0, none⟩)) hb).trans hT2 (fun _ _ x => x)⟩
    clear hRV hqV2 hb hpF hR2 hT2 HC H1
    have HE2 := Lib.hid (err_any _ F [] e V2 hend.1)
    have HL2 := Lib.hid (left_any _ F [] e V2 hend.1)
    have HEN := Lib.hid hend
    clear hend
    go_wp2_with fail
    refine HE2.out.mono ?_
    rintro en w' ⟨rfl, rfl⟩
    go_wp2_with fail
    refine HL2.out.mono ?_
    rintro en w' ⟨rfl, nd2, rfl⟩
    go_wp2_with fail
    go_ret
    obtain ⟨h1, h2⟩ := HEN.out
    exact ⟨rfl, h1, ⟨h2.os, h2.tape, h2.output, h2.size, h2.block⟩⟩
  by_cases k4 : what = 4
  · subst k4
    obtain ⟨hRV, hqV2, hb, hpF⟩ := H1.out
    have HC := Lib.hid (rstr_any _ F [] e most V hRV hmost)
    rw [rby_dead he] at HC
    rw [show strOfNums (ints (([], [], e) : List Nat × List Nat × Int).1) = ⟨#[]⟩ from rfl] at HC
    clear hRV hqV2 hb hpF
    go_wp2_with fail
    refine HC.out.mono ?_
    rintro en V2 ⟨rfl, hR2, hT2⟩
    obtain ⟨hRV, hqV2, hb, hpF⟩ := H1.out
    have cq : V2.cell? ⟨q, 0, none⟩ = some (.pointer (some ⟨p, 0, none⟩)) := cell_of_one ((hT2.block q hqV (fun hp => hqF (hpF q hp))).trans hqV2)
    have hend : Rd V2 (some ⟨p, 0, none⟩) F [] e ∧ Tn (Pt (some ⟨p, 0, none⟩)) w V2 := ⟨hR2, (Tn.of (Pt (some ⟨p, 0, none⟩)) hb).trans hT2 (fun _ _ x => x)⟩
    clear hRV hqV2 hb hpF hR2 hT2 HC H1
    have HE2 := Lib.hid (err_any _ F [] e V2 hend.1)
    have HL2 := Lib.hid (left_any _ F [] e V2 hend.1)
    have HEN := Lib.hid hend
    clear hend
    go_wp2_with fail
    refine HE2.out.mono ?_
    rintro en w' ⟨rfl, rfl⟩
    go_wp2_with fail
    refine HL2.out.mono ?_
    rintro en w' ⟨rfl, nd2, rfl⟩
    go_wp2_with fail
    go_ret
    obtain ⟨h1, h2⟩ := HEN.out
    exact ⟨rfl, h1, ⟨h2.os, h2.tape, h2.output, h2.size, h2.block⟩⟩
  by_cases k5 : what = 5
  · subst k5
    obtain ⟨hRV, hqV2, hb, hpF⟩ := H1.out
    have HC := Lib.hid (count_any _ F [] e most V hRV hmost)
    rw [rb_dead he] at HC
    clear hRV hqV2 hb hpF
    go_wp2_with fail
    refine HC.out.mono ?_
    rintro en V2 ⟨rfl, hR2, hT2⟩
    obtain ⟨hRV, hqV2, hb, hpF⟩ := H1.out
    have cq : V2.cell? ⟨q, 0, none⟩ = some (.pointer (some ⟨p, 0, none⟩)) := cell_of_one ((hT2.block q hqV (fun hp => hqF (hpF q hp))).trans hqV2)
    have hend : Rd V2 (some ⟨p, 0, none⟩) F [] e ∧ Tn (Pt (some ⟨p, 0, none⟩)) w V2 := ⟨hR2, (Tn.of (Pt (some ⟨p, 0, none⟩)) hb).trans hT2 (fun _ _ x => x)⟩
    clear hRV hqV2 hb hpF hR2 hT2 HC H1
    have HE2 := Lib.hid (err_any _ F [] e V2 hend.1)
    have HL2 := Lib.hid (left_any _ F [] e V2 hend.1)
    have HEN := Lib.hid hend
    clear hend
    go_wp2_with fail
    refine HE2.out.mono ?_
    rintro en w' ⟨rfl, rfl⟩
    go_wp2_with fail
    refine HL2.out.mono ?_
    rintro en w' ⟨rfl, nd2, rfl⟩
    go_wp2_with fail
    go_ret
    obtain ⟨h1, h2⟩ := HEN.out
    exact ⟨rfl, h1, ⟨h2.os, h2.tape, h2.output, h2.size, h2.block⟩⟩
  by_cases k8 : what = 8
  · subst k8
    obtain ⟨hRV, hqV2, hb, hpF⟩ := H1.out
    have HC := Lib.hid (end_any _ F [] e V hRV)
    rw [re_dead he] at HC
    clear hRV hqV2 hb hpF
    go_wp2_with fail
    refine HC.out.mono ?_
    rintro en V2 ⟨rfl, hR2, hT2⟩
    obtain ⟨hRV, hqV2, hb, hpF⟩ := H1.out
    have cq : V2.cell? ⟨q, 0, none⟩ = some (.pointer (some ⟨p, 0, none⟩)) := cell_of_one ((hT2.block q hqV (fun hp => hqF (hpF q hp))).trans hqV2)
    have hend : Rd V2 (some ⟨p, 0, none⟩) F [] e ∧ Tn (Pt (some ⟨p, 0, none⟩)) w V2 := ⟨hR2, (Tn.of (Pt (some ⟨p, 0, none⟩)) hb).trans hT2 (fun _ _ x => x)⟩
    clear hRV hqV2 hb hpF hR2 hT2 HC H1
    have HE2 := Lib.hid (err_any _ F [] e V2 hend.1)
    have HL2 := Lib.hid (left_any _ F [] e V2 hend.1)
    have HEN := Lib.hid hend
    clear hend
    go_wp2_with fail
    refine HE2.out.mono ?_
    rintro en w' ⟨rfl, rfl⟩
    go_wp2_with fail
    refine HL2.out.mono ?_
    rintro en w' ⟨rfl, nd2, rfl⟩
    go_wp2_with fail
    go_ret
    obtain ⟨h1, h2⟩ := HEN.out
    exact ⟨rfl, h1, ⟨h2.os, h2.tape, h2.output, h2.size, h2.block⟩⟩
  obtain ⟨hRV, hqV2, hb, hpF⟩ := H1.out
  have b0 : (what == 0) = false := by rw [beq_eq_false_iff_ne]; exact k0
  have b1 : (what == 1) = false := by rw [beq_eq_false_iff_ne]; exact k1
  have b2 : (what == 2) = false := by rw [beq_eq_false_iff_ne]; exact k2
  have b3 : (what == 3) = false := by rw [beq_eq_false_iff_ne]; exact k3
  have b4 : (what == 4) = false := by rw [beq_eq_false_iff_ne]; exact k4
  have b5 : (what == 5) = false := by rw [beq_eq_false_iff_ne]; exact k5
  have b8 : (what == 8) = false := by rw [beq_eq_false_iff_ne]; exact k8
  obtain ⟨V2, hV2⟩ : ∃ V2, V2 = V := ⟨_, rfl⟩
  rw [← hV2] at hRV hb a0 c0
  rw [← hV2]
  have hend : Rd V2 (some ⟨p, 0, none⟩) F [] e ∧ Tn (Pt (some ⟨p, 0, none⟩)) w V2 := ⟨hRV, Tn.of _ hb⟩
  clear hRV hqV2 hb hpF H1 HE hV2 k0 k1 k2 k3 k4 k5 k8
  have HE2 := Lib.hid (err_any _ F [] e V2 hend.1)
  have HL2 := Lib.hid (left_any _ F [] e V2 hend.1)
  have HEN := Lib.hid hend
  clear hend
  go_wp2_with fail
  refine HE2.out.mono ?_
  rintro en w' ⟨rfl, rfl⟩
  go_wp2_with fail
  refine HL2.out.mono ?_
  rintro en w' ⟨rfl, nd2, rfl⟩
  go_wp2_with fail
  go_ret
  obtain ⟨h1, h2⟩ := HEN.out
  exact ⟨rfl, h1, ⟨h2.os, h2.tape, h2.output, h2.size, h2.block⟩⟩
theorem ask_any (p q : Nat) (F : Nat → Prop) (r : List Nat) (e what most : Int) (N : Nat) (w : World) (hR : Rd w (some ⟨p, 0, none⟩) F r e) (hq : w.heap[q]? = some (.cells #[.pointer (some ⟨p, 0, none⟩)] 44 (0, 0))) (hqF : ¬ F q) (hmost : Pl.I most) (hr : r.length ≤ 140737488355328) :
    Calls Try.prog 45 #[.agg #[.int .i64 what, .int .i64 most, .int .u64 (N : Int)], .pointer (some ⟨q, 0, none⟩)] w fun en w' => en = .returned (.bool true) ∧ Asked w (some ⟨p, 0, none⟩) F r w' := by
  by_cases he : e = 0
  · subst he; exact ask_ok p q F r what most N w hR hq hqF hmost hr
  · exact (ask_dead p q F r e he what most N w hR hq hqF hmost hr).mono fun _ _ ⟨h1, h2, h3⟩ => ⟨h1, r, e, h2, Nat.le_refl _, h3⟩
end Go.Proofs.Ytpakbpkcacdpbaa.wireFails
