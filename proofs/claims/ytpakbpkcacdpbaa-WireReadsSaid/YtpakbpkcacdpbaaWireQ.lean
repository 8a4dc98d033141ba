/-
  Contracts of the document's own reader (copybookref03.Reader): the same plain functions as wire's. Conditions: those that each states.
-/
import Derived.Test.YtpakbpkcacdpbaaWireU
namespace Go.Proofs.Ytpakbpkcacdpbaa
open Go.RowKit

/-- the document's reader at block p: r is left, e is its error's number; F: its own blocks -/
def Qd (w : World) (p : Nat) (F : Nat → Prop) (r : List Nat) (e : Int) : Prop :=
  (∀ b, F b → b < w.heap.size) ∧ Pl.I e ∧ F p ∧ ∃ A n c, w.heap[p]? = some (.cells #[.slice A n c, .int .i64 e] 48 (0, 0)) ∧ (e ≠ 0 → r = []) ∧
    (e = 0 → Bys w w.heap.size A n c r ∧ ∀ ad, A = some ad → F ad.block ∧ ad.block ≠ p)
/-- what a call of it leaves -/
def QdTo (w : World) (p : Nat) (F : Nat → Prop) (s : List Nat × Int) (w' : World) : Prop := Qd w' p F s.1 s.2 ∧ Tn (fun b => b = p) w w'
section
variable {T F : Nat → Prop} {w w' w1 w2 : World} {p : Nat} {r : List Nat} {e : Int}
theorem Qd.lt (h : Qd w p F r e) : ∀ b, F b → b < w.heap.size := h.1
theorem Qd.dead (h : Qd w p F r e) (he : e ≠ 0) : r = [] := by obtain ⟨_, _, _, A, n, c, _, h2, _⟩ := h; exact h2 he
theorem Qd.c1 (h : Qd w p F r e) : w.cell? ⟨p, 1, none⟩ = some (.int .i64 e) := by obtain ⟨_, _, _, A, n, c, h1, _⟩ := h; exact cell1 h1
theorem Qd.f1 (h : Qd w p F r e) : w.frozen? ⟨p, 1, none⟩ = false := by obtain ⟨_, _, _, A, n, c, h1, _⟩ := h; exact frozen_of_row w p 1 _ _ h1
theorem Qd.keep (h : Qd w p F r e) (ht : Tn T w w') (hT : ∀ b, F b → ¬ T b) : Qd w' p F r e := by
  obtain ⟨hl, hi, hp, A, n, c, h1, h2, h3⟩ := h
  exact ⟨fun b hb => Nat.lt_of_lt_of_le (hl b hb) ht.size, hi, hp, A, n, c, (ht.block p (hl p hp) (hT p hp)).trans h1, h2, fun he => ⟨ht.bys (h3 he).1 (fun _ ad ha => hT _ ((h3 he).2 ad ha).1), (h3 he).2⟩⟩
theorem Qd.below (h : Qd w p F r e) (hb : Below w.heap.size w w') : Qd w' p F r e := h.keep (Tn.of (fun _ => False) hb) (fun _ _ x => x)
/-- an error is laid -/
theorem Qd.err (h : Qd w p F r e) {x : Int} (hx : x ≠ 0) (hI : Pl.I x) : QdTo w p F ([], x) (w.setCell ⟨p, 1, none⟩ (.int .i64 x)) := by
  obtain ⟨hl, hi, hp, A, n, c, h1, h2, h3⟩ := h
  refine ⟨⟨fun b hb => by simpa [World.setCell] using hl b hb, hI, hp, A, n, c, ?_, fun _ => rfl, fun h0 => absurd h0 hx⟩, (Tn.refl (fun b => b = p) w).set_ (p := ⟨p, 1, none⟩) (Or.inr rfl) _⟩
  rw [blk_set h1]; rfl
theorem QdTo.same (h : Qd w p F r e) : QdTo w p F (r, e) w := ⟨h, Tn.refl _ _⟩
theorem QdTo.trans {s t : List Nat × Int} (h : QdTo w p F s w1) (k : QdTo w1 p F t w2) : QdTo w p F t w2 := ⟨k.1, h.2.trans k.2 (fun _ _ x => x)⟩
end

set_option maxRecDepth 100000 in
set_option maxHeartbeats 400000 in
theorem qnum_any (p : Nat) (F : Nat → Prop) (r : List Nat) (e : Int) (w : World) (h : Qd w p F r e) :
    Calls Try.prog 23 #[.pointer (some ⟨p, 0, none⟩)] w fun en w' => en = .returned (.int .u64 (((Pl.rn r e).1 : Nat) : Int)) ∧ QdTo w p F (Pl.rn r e).2 w' := by
  have h0 := h
  obtain ⟨hl, hi, hp, A, n, c, h1, h2, h3⟩ := h
  have c0 := cell0 h1
  have c1 := cell1 h1
  by_cases he : e = 0
  · subst he
    obtain ⟨hB, hF⟩ := h3 rfl
    obtain ⟨x, k, e1, hg⟩ : ∃ x k e1, Pl.get r = (x, k, e1) := ⟨_, _, _, rfl⟩
    have HG := Lib.hid (refGet_at A n c r w hB x k e1 hg)
    by_cases he1 : e1 = 0
    · subst he1
      have hk := (Pl.get_ok hB.oct (by rw [hg])).2.2.1
      rw [hg, hB.len] at hk
      obtain ⟨A2, hB2, hA2, hcut⟩ := hB.cut hk
      have f0 := frozen_of_row w p 0 _ _ h1
      have HV := Lib.hid (Pl.rn_ok (r := r) (by rw [hg]))
      rw [hg] at HV
      have hT : Tn (fun b => b = p) w (w.setCell ⟨p, 0, none⟩ (.slice A2 (n - k) (c - k))) := (Tn.refl (fun b => b = p) w).set_ (p := ⟨p, 0, none⟩) (Or.inr rfl) _
      have HQ : Hid (QdTo w p F (r.drop k, 0) (w.setCell ⟨p, 0, none⟩ (.slice A2 (n - k) (c - k)))) := Lib.hid ⟨⟨fun b hb => by simpa [World.setCell] using hl b hb, hi, hp, A2, n - k, c - k, by rw [blk_set h1]; rfl, (fun h => absurd rfl h), fun _ => ⟨hT.bys hB2 (fun _ ad e2 hx => by
        obtain ⟨ad0, e0, e3⟩ := hA2 ad e2
        exact (hF ad0 e0).2 (by rw [← e3]; exact hx)), fun ad e2 => by
        obtain ⟨ad0, e0, e3⟩ := hA2 ad e2
        rw [e3]; exact hF ad0 e0⟩⟩, hT⟩
      clear h0 h1 h2 h3 hB hF hg hk hB2 hA2 hT
      go_enter Try.func23, Try.ntmps23
      go_wp2_with fail
      refine HG.out.mono ?_
      rintro en w' ⟨rfl, rfl⟩
      go_wp2_with fail
      go_ret
      rw [HV.out]
      exact ⟨rfl, HQ.out⟩
    · have f1 := frozen_of_row w p 1 _ _ h1
      have HV := Lib.hid (Pl.rn_err (r := r) (by rw [hg]; exact he1))
      rw [hg] at HV
      have h5 := Pl.get_e5 r
      rw [hg] at h5
      have hq := h0.err (x := (e1 : Int)) (by omega) (Pl.I.mk (by simp only at h5; omega))
      have HQ := Lib.hid hq
      have be : ((e1 : Int) != 0) = true := by simp; omega
      clear h0 h1 h2 h3 hB hF hg h5 hq
      go_enter Try.func23, Try.ntmps23
      go_wp2_with fail
      refine HG.out.mono ?_
      rintro en w' ⟨rfl, rfl⟩
      go_wp2_with fail
      go_ret
      rw [HV.out]
      exact ⟨rfl, HQ.out⟩
  · have be : (e != 0) = true := by simpa using he
    have HV := Lib.hid (Pl.rn_dead (r := r) he)
    have hq := QdTo.same h0
    rw [h0.dead he] at hq
    have HQ := Lib.hid hq
    clear h0 h1 h2 h3 hq
    go_enter Try.func23, Try.ntmps23
    go_wp2_with fail
    go_ret
    rw [HV.out]
    exact ⟨rfl, HQ.out⟩

set_option maxRecDepth 100000 in
set_option maxHeartbeats 400000 in
theorem qfail_any (p : Nat) (F : Nat → Prop) (r : List Nat) (e x : Int) (w : World) (h : Qd w p F r e) (hx : Pl.I x) :
    Calls Try.prog 36 #[.pointer (some ⟨p, 0, none⟩), .int .i64 x] w fun en w' => en = .returned (.tuple #[]) ∧ QdTo w p F (Pl.rf r e x) w' := by
  have c1 := h.c1
  have f1 := h.f1
  by_cases he : e = 0
  · subst he
    by_cases h0 : x = 0
    · subst h0
      have HQ : Hid (QdTo w p F (r, 0) (w.setCell ⟨p, 1, none⟩ (.int .i64 0))) := Lib.hid (by
        obtain ⟨hl, hi, hp, A, n, c, h1, h2, h3⟩ := h
        have hT : Tn (fun b => b = p) w (w.setCell ⟨p, 1, none⟩ (.int .i64 0)) := (Tn.refl (fun b => b = p) w).set_ (p := ⟨p, 1, none⟩) (Or.inr rfl) _
        exact ⟨⟨fun b hb => by simpa [World.setCell] using hl b hb, hi, hp, A, n, c, by rw [blk_set h1]; rfl, h2, fun h0 => ⟨hT.bys (h3 h0).1 (fun _ ad e2 hx => ((h3 h0).2 ad e2).2 hx), (h3 h0).2⟩⟩, hT⟩)
      clear h
      go_enter Try.func36, Try.ntmps36
      go_wp2_with fail
      exact ⟨rfl, _, results_none (by kernel_rfl), rfl, by simpa [Pl.rf] using HQ.out⟩
    · have HQ := Lib.hid (h.err h0 hx)
      have HR := Lib.hid (show Pl.rf r 0 x = ([], x) by simp [Pl.rf, h0])
      clear h h0
      go_enter Try.func36, Try.ntmps36
      go_wp2_with fail
      exact ⟨rfl, _, results_none (by kernel_rfl), rfl, by rw [HR.out]; exact HQ.out⟩
  · have be : (e == 0) = false := by rw [beq_eq_false_iff_ne]; exact he
    have HQ := Lib.hid (QdTo.same h)
    have HR := Lib.hid (show Pl.rf r e x = (r, e) by simp [Pl.rf, he])
    clear h
    go_enter Try.func36, Try.ntmps36
    go_wp2_with fail
    exact ⟨rfl, _, results_none (by kernel_rfl), rfl, by rw [HR.out]; exact HQ.out⟩

set_option maxRecDepth 100000 in
set_option maxHeartbeats 400000 in
theorem qleft_any (p : Nat) (F : Nat → Prop) (r : List Nat) (e : Int) (w : World) (h : Qd w p F r e) :
    Calls Try.prog 41 #[.pointer (some ⟨p, 0, none⟩)] w fun en w' => en = .returned (.int .i64 (r.length : Int)) ∧ w = w' := by
  have hd := h.dead
  obtain ⟨hl, hi, hp, A, n, c, h1, h2, h3⟩ := h
  have c0 := cell0 h1
  have c1 := cell1 h1
  by_cases he : e = 0
  · subst he
    have HL := Lib.hid (h3 rfl).1.len
    clear h1 h2 h3 hd
    go_enter Try.func41, Try.ntmps41
    go_wp2_with fail
    go_ret
    exact ⟨by rw [HL.out]; rfl, rfl⟩
  · have be : (e != 0) = true := by simpa using he
    have HD := Lib.hid (hd he)
    clear h1 h2 h3 hd
    go_enter Try.func41, Try.ntmps41
    go_wp2_with fail
    go_ret
    exact ⟨by rw [HD.out]; rfl, rfl⟩

set_option maxRecDepth 100000 in
set_option maxHeartbeats 400000 in
theorem qend_any (p : Nat) (F : Nat → Prop) (r : List Nat) (e : Int) (w : World) (h : Qd w p F r e) (hr : r.length ≤ 140737488355328) :
    Calls Try.prog 38 #[.pointer (some ⟨p, 0, none⟩)] w fun en w' => en = .returned (.int .i64 (Pl.re_ r e).2) ∧ QdTo w p F (Pl.re_ r e) w' := by
  have HL := Lib.hid (qleft_any p F r e w h)
  have c1 := h.c1
  have f1 := h.f1
  by_cases hp : 0 < r.length
  · have he : e = 0 := by
      by_cases he : e = 0
      · exact he
      · rw [h.dead he] at hp; simp at hp
    subst he
    have hq := h.err (x := 3) (by omega) I3
    have c2 := hq.1.c1
    have HQ := Lib.hid hq
    have HV := Lib.hid (show Pl.re_ r 0 = ([], 3) by
      have : r ≠ [] := by intro e; rw [e] at hp; simp at hp
      simp [Pl.re_, this])
    clear h hq
    go_enter Try.func38, Try.ntmps38
    go_wp2_with fail
    refine HL.out.mono ?_
    rintro en w' ⟨rfl, rfl⟩
    go_wp2_with fail
    go_ret
    rw [HV.out]
    exact ⟨rfl, HQ.out⟩
  · have h0 : r.length = 0 := by omega
    have HV := Lib.hid (show Pl.re_ r e = (r, e) by
      have : r = [] := List.eq_nil_of_length_eq_zero h0
      simp [Pl.re_, this])
    have HQ := Lib.hid (QdTo.same h)
    rw [h0] at HL
    clear h hp h0 hr
    go_enter Try.func38, Try.ntmps38
    go_wp2_with fail
    refine HL.out.mono ?_
    rintro en w' ⟨rfl, rfl⟩
    go_wp2_with fail
    go_ret
    rw [HV.out]
    exact ⟨rfl, HQ.out⟩
end Go.Proofs.Ytpakbpkcacdpbaa
