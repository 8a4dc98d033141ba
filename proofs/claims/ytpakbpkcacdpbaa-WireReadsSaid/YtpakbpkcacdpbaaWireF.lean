/-
  Contracts of the reader of wire, the second part (bounded, Upto, Bool, Count, take, Bytes, Str, End), in any state and of none: what each answers and leaves. Conditions: those that each states.
-/
import Derived.Test.YtpakbpkcacdpbaaWireE
import Derived.Test.YtpakbpkcacdpbaaWireB
namespace Go.Proofs.Ytpakbpkcacdpbaa
open Go.RowKit

set_option maxRecDepth 100000 in
set_option maxHeartbeats 400000 in
theorem bounded_any (A : Option Addr) (F : Nat → Prop) (r : List Nat) (e : Int) (most : Nat) (ab : Int) (w : World) (h : Rd w A F r e) (hab : ab ≠ 0) (hI : Pl.I ab) :
    Calls Try.prog 56 #[.pointer A, .int .u64 (most : Int), .int .i64 ab] w fun en w' => en = .returned (.int .u64 (((Pl.rb r e most ab).1 : Nat) : Int)) ∧ RdTo w A F (Pl.rb r e most ab).2 w' := by
  have HN := Lib.hid (rnum_any A F r e w h)
  have HP := Lib.hid (Pl.rn_pos (r := r) (e := e))
  unfold Pl.rb
  obtain ⟨x, r1, e1, hx⟩ : ∃ x r1 e1, Pl.rn r e = (x, r1, e1) := ⟨_, _, _, rfl⟩
  rw [hx] at HN HP ⊢
  clear hx h
  by_cases hlt : most < x
  · go_enter Try.func56, Try.ntmps56
    go_wp2_with fail
    refine HN.out.mono ?_
    rintro en w1 ⟨rfl, hR, hT⟩
    obtain rfl : e1 = 0 := HP.out (by show 0 < x; omega)
    have HF := Lib.hid (fail_now A F r1 ab w1 hR hab hI)
    clear hab
    go_wp2_with fail
    refine HF.out.mono ?_
    rintro en w2 ⟨rfl, hR2, hT2⟩
    go_wp2_with fail
    go_ret
    exact ⟨rfl, hR2, hT.trans hT2 (fun _ _ x => x)⟩
  · go_enter Try.func56, Try.ntmps56
    go_wp2_with fail
    refine HN.out.mono ?_
    rintro en w1 ⟨rfl, hR, hT⟩
    go_wp2_with fail
    go_ret
    exact ⟨rfl, hR, hT⟩

theorem I3 : Pl.I 3 := Pl.I.mk (by omega)
theorem I5 : Pl.I 5 := Pl.I.mk (by omega)
set_option maxRecDepth 100000 in
theorem upto_any (A : Option Addr) (F : Nat → Prop) (r : List Nat) (e : Int) (most : Nat) (w : World) (h : Rd w A F r e) :
    Calls Try.prog 33 #[.pointer A, .int .u64 (most : Int)] w fun en w' => en = .returned (.int .u64 (((Pl.rb r e most 3).1 : Nat) : Int)) ∧ RdTo w A F (Pl.rb r e most 3).2 w' := by
  have HN := Lib.hid (bounded_any A F r e most 3 w h (by omega) I3)
  clear h
  go_enter Try.func33, Try.ntmps33
  go_wp2_with fail
  refine HN.out.mono ?_
  rintro en w1 ⟨rfl, hR⟩
  go_wp2_with fail
  go_ret
  exact ⟨rfl, hR⟩
set_option maxRecDepth 100000 in
theorem bool_any (A : Option Addr) (F : Nat → Prop) (r : List Nat) (e : Int) (w : World) (h : Rd w A F r e) :
    Calls Try.prog 26 #[.pointer A] w fun en w' => en = .returned (.bool (decide ((Pl.rb r e 1 5).1 = 1))) ∧ RdTo w A F (Pl.rb r e 1 5).2 w' := by
  have HN := Lib.hid (bounded_any A F r e 1 5 w h (by omega) I5)
  obtain ⟨x, r1, e1, hx⟩ : ∃ x r1 e1, Pl.rb r e 1 5 = (x, r1, e1) := ⟨_, _, _, rfl⟩
  rw [hx] at HN ⊢
  clear h hx
  go_enter Try.func26, Try.ntmps26
  go_wp2_with fail
  refine HN.out.mono ?_
  rintro en w1 ⟨rfl, hR⟩
  go_wp2_with fail
  go_ret
  refine ⟨ret_bool ?_, hR⟩
  rw [Bool.eq_iff_iff, beq_iff_eq, decide_eq_true_iff]
  omega

set_option maxRecDepth 100000 in
theorem count_any (A : Option Addr) (F : Nat → Prop) (r : List Nat) (e m : Int) (w : World) (h : Rd w A F r e) (hm : Pl.I m) :
    Calls Try.prog 31 #[.pointer A, .int .i64 m] w fun en w' => en = .returned (.int .i64 (((Pl.rb r e m.toNat 3).1 : Nat) : Int)) ∧ RdTo w A F (Pl.rb r e m.toNat 3).2 w' := by
  have HN := Lib.hid (upto_any A F r e m.toNat w h)
  have HL := Lib.hid (Pl.rb_le (r := r) (e := e) (most := m.toNat) (ab := 3))
  obtain ⟨x, r1, e1, hx⟩ : ∃ x r1 e1, Pl.rb r e m.toNat 3 = (x, r1, e1) := ⟨_, _, _, rfl⟩
  rw [hx] at HN HL ⊢
  have hx63 : x ≤ 9223372036854775807 := by have := hm.out; have := HL.out; simp only at this; omega
  have hm' : m ≤ 9223372036854775807 := by have := hm.out; omega
  have HM := Lib.hid (show max m 0 = (m.toNat : Int) by omega)
  clear h hx hm
  go_enter Try.func31, Try.ntmps31
  go_wp2_with fail
  rw [HM.out]
  refine HN.out.mono ?_
  rintro en w1 ⟨rfl, hR⟩
  go_wp2_with fail
  go_ret
  exact ⟨rfl, hR⟩

set_option maxRecDepth 100000 in
set_option maxHeartbeats 400000 in
theorem take1_no (A : Option Addr) (n c k gs : Nat) (v : Value) (W : World) (hs : W.heap[gs]? = some (.cells #[.int .i64 (k : Int)] 3 (0, 0))) (hk : n < k) :
    Calls Try.prog 64 #[.slice A n c, .pointer (some ⟨gs, 0, none⟩), v] W fun en w' => en = .returned (.tuple #[.int .i64 0, .int .i64 4]) ∧ w' = W := by
  have c0 := cell_of_one hs
  clear hs
  go_enter Try.func64, Try.ntmps64
  go_wp2_with fail
  go_ret2
  exact ⟨rfl, rfl⟩
set_option maxRecDepth 100000 in
set_option maxHeartbeats 400000 in
theorem take1_yes (A : Option Addr) (n c k gs go : Nat) (v : Value) (W : World) (hs : W.heap[gs]? = some (.cells #[.int .i64 (k : Int)] 3 (0, 0))) (ho : W.heap[go]? = some (.cells #[v] 26 (0, 0))) (hne : gs ≠ go) (hk : k ≤ n) (hn : n ≤ c) :
    Calls Try.prog 64 #[.slice A n c, .pointer (some ⟨gs, 0, none⟩), .pointer (some ⟨go, 0, none⟩)] W fun en w' => en = .returned (.tuple #[.int .i64 (k : Int), .int .i64 0]) ∧ w' = W.setCell ⟨go, 0, none⟩ (.slice A k k) := by
  have c0 := cell_of_one hs
  have d0 := cell_of_one ho
  have f0 := free_of_one ho
  have c1 : ∀ u, (W.setCell ⟨go, 0, none⟩ u).cell? ⟨gs, 0, none⟩ = some (.int .i64 (k : Int)) := fun u => cell_of_one ((blk_keep u hne).trans hs)
  have hsl := slice_cap A n c k (by omega)
  clear hs ho
  go_enter Try.func64, Try.ntmps64
  go_wp2_with fail
  go_ret2
  exact ⟨rfl, rfl⟩

/-- what take answers and leaves -/
def Took (w : World) (A : Option Addr) (F : Nat → Prop) (t : List Nat × List Nat × Int) (en : Ending) (w' : World) : Prop :=
  ∃ A2 c2, en = .returned (.slice A2 t.1.length c2) ∧ Bys w' w'.heap.size A2 t.1.length c2 t.1 ∧ RdTo w A F t.2 w'

set_option maxRecDepth 100000 in
set_option maxHeartbeats 400000 in
theorem take_any (A : Option Addr) (F : Nat → Prop) (r : List Nat) (e : Int) (k : Nat) (w : World) (h : Rd w A F r e) :
    Calls Try.prog 57 #[.pointer A, .int .i64 (k : Int)] w (Took w A F (Pl.rt r e k)) := by
  obtain ⟨W, hW⟩ : ∃ W, W = (w.alloc (.cells #[.int .i64 (k : Int)] 3)).alloc (.cells #[.slice none 0 0] 26) := ⟨_, rfl⟩
  have hb : Below w.heap.size w W := by rw [hW]; exact ((Below.refl _ _).alloc (Nat.le_refl _) _).alloc (by simp) _
  have hs : W.heap[w.heap.size]? = some (.cells #[.int .i64 (k : Int)] 3 (0, 0)) := by
    rw [hW, Below.heap_alloc _ _ _ (by simp), heap_alloc_new]
  have ho : W.heap[w.heap.size + 1]? = some (.cells #[.slice none 0 0] 26 (0, 0)) := by
    rw [hW]; have := heap_alloc_new (w.alloc (.cells #[.int .i64 (k : Int)] 3)) (.cells #[.slice none 0 0] 26); simpa using this
  have hRW := h.below hb
  have hlt := h.lt
  have hpt : ∀ b, Pt A b → b < w.heap.size := fun b => h.lt_pt
  have HG : Calls Try.prog 50 #[.pointer A, .func (.func 64) #[] #[.pointer (some ⟨w.heap.size, 0, none⟩), .pointer (some ⟨w.heap.size + 1, 0, none⟩)]] W fun en w' =>
      en = .returned (.tuple #[]) ∧ ∃ A2 c2, w'.heap[w.heap.size + 1]? = some (.cells #[.slice A2 (Pl.rt r e k).1.length c2] 26 (0, 0)) ∧ Bys w' w'.heap.size A2 (Pl.rt r e k).1.length c2 (Pl.rt r e k).1 ∧ RdTo w A F (Pl.rt r e k).2 w' := by
    by_cases he : e = 0
    · subst he
      by_cases hk : k ≤ r.length
      · have ert : Pl.rt r 0 k = (r.take k, r.drop k, 0) := by simp [Pl.rt, hk]
        have hlk : (r.take k).length = k := by rw [List.length_take]; omega
        rw [ert]
        refine (goOn_ok A F r W hRW 64 #[.pointer (some ⟨w.heap.size, 0, none⟩), .pointer (some ⟨w.heap.size + 1, 0, none⟩)] k 0 (fun b => b = w.heap.size + 1)
          (fun w' => ∃ A2, w'.heap[w.heap.size + 1]? = some (.cells #[.slice A2 k k] 26 (0, 0)) ∧ Bys w' w'.heap.size A2 k k (r.take k) ∧ ∀ ad, A2 = some ad → ¬ Pt A ad.block) (fun b hb e => by have := hlt b hb; omega) (Or.inl ⟨rfl, hk⟩) (Pl.I.mk (by omega)) callTake (fun A2 c hB hA2 => ?_) (fun w1 w2 hK ht => ?_)).mono ?_
        · refine (take1_yes A2 r.length c k w.heap.size (w.heap.size + 1) _ W.drew hs ho (by omega) hk hB.le).mono ?_
          rintro en w' ⟨rfl, rfl⟩
          have hT : Tn (fun b => b = w.heap.size + 1) W (W.drew.setCell ⟨w.heap.size + 1, 0, none⟩ (.slice A2 k k)) := ⟨rfl, rfl, rfl, by simp [World.setCell], fun b hb1 hn => (blk_keep _ hn)⟩
          exact ⟨rfl, hT, A2, one_setCell (w := W.drew) ho, hT.bys (hB.upcap hk) (fun _ ad e hx => by have := hlt _ (hA2 ad e).1; omega), fun ad e => (hA2 ad e).2⟩
        · obtain ⟨A2, h1, h2, h3⟩ := hK
          exact ⟨A2, (ht.block _ (lt_of_block h1) (fun hp => by have := hpt _ hp; omega)).trans h1, ht.bys h2 (fun _ ad e => h3 ad e), h3⟩
        · rintro en w' ⟨rfl, h1, h2, A2, h3, h4, _⟩
          refine ⟨rfl, A2, k, by rw [hlk]; exact h3, by rw [hlk]; exact h4, by simpa using h1, (Tn.of (Pt A) hb).trans h2 (fun b hb1 hp => hp.resolve_right (by omega))⟩
      · have ert : Pl.rt r 0 k = ([], [], 4) := by simp [Pl.rt, hk]
        rw [ert]
        refine (goOn_ok A F r W hRW 64 #[.pointer (some ⟨w.heap.size, 0, none⟩), .pointer (some ⟨w.heap.size + 1, 0, none⟩)] 0 4 (fun b => b = w.heap.size + 1)
          (fun w' => w'.heap[w.heap.size + 1]? = some (.cells #[.slice none 0 0] 26 (0, 0))) (fun b hb e => by have := hlt b hb; omega) (Or.inr ⟨by omega, rfl⟩) (Pl.I.mk (by omega)) callTake (fun A2 c hB hA2 => ?_) (fun w1 w2 hK ht => ?_)).mono ?_
        · refine (take1_no A2 r.length c k w.heap.size _ W.drew hs (by omega)).mono ?_
          rintro en w' ⟨rfl, rfl⟩
          exact ⟨rfl, ⟨rfl, rfl, rfl, Nat.le_refl _, fun _ _ _ => rfl⟩, ho⟩
        · exact (ht.block _ (lt_of_block hK) (fun hp => by have := hpt _ hp; omega)).trans hK
        · rintro en w' ⟨rfl, h1, h2, h3⟩
          exact ⟨rfl, none, 0, h3, Bys.none_ _ _, by simpa using h1, (Tn.of (Pt A) hb).trans h2 (fun b hb1 hp => hp.resolve_right (by omega))⟩
    · have ert : Pl.rt r e k = ([], [], e) := by simp [Pl.rt, he]
      rw [ert]
      refine (goOn_dead A F r e _ W hRW he).mono ?_
      rintro en w' ⟨rfl, rfl⟩
      have hR2 := RdTo.below h hb
      rw [h.dead he] at hR2
      exact ⟨rfl, none, 0, ho, Bys.none_ _ _, hR2⟩
  rw [hW] at HG
  have HH := Lib.hid HG
  clear HG hW hb hs ho hRW hlt hpt h
  go_enter Try.func57, Try.ntmps57
  go_wp2_with fail
  refine HH.out.mono ?_
  rintro en w' ⟨rfl, A2, c2, h1, h2, h3⟩
  have c0 := cell_of_one h1
  go_wp2_with fail
  go_ret
  exact ⟨A2, c2, rfl, h2, h3⟩

set_option maxRecDepth 100000 in
set_option maxHeartbeats 400000 in
theorem end_any (A : Option Addr) (F : Nat → Prop) (r : List Nat) (e : Int) (w : World) (h : Rd w A F r e) :
    Calls Try.prog 37 #[.pointer A] w fun en w' => en = .returned (.int .i64 (Pl.re_ r e).2) ∧ RdTo w A F (Pl.re_ r e) w' := by
  have HL := Lib.hid (left_any A F r e w h)
  have hlen : r.length ≤ 9223372036854775807 := by
    by_cases he : e = 0
    · subst he
      obtain ⟨p, A', n, c, k0, bs, _, _, _, h4, _, _, h7⟩ := h.ok
      have h1 := h4.cap
      have h2 := h4.le
      have h3 := h4.len
      rw [h7, List.length_drop, h3]
      unfold maxLen at h1
      omega
    · rw [h.dead he]; simp
  by_cases hp : 0 < r.length
  · obtain rfl : e = 0 := by
      by_cases he : e = 0
      · exact he
      · rw [h.dead he] at hp; simp at hp
    have HV := Lib.hid (show Pl.re_ r 0 = ([], 3) by
      have : r ≠ [] := by intro e; rw [e] at hp; simp at hp
      simp [Pl.re_, this])
    go_enter Try.func37, Try.ntmps37
    go_wp2_with fail
    refine HL.out.mono ?_
    rintro en w' ⟨rfl, nd, rfl⟩
    have HF := Lib.hid (fail_now A F r 3 (w.drewN nd) h (by omega) I3)
    go_wp2_with fail
    refine HF.out.mono ?_
    rintro en w1 ⟨rfl, hR, hT⟩
    go_wp2_with fail
    refine (err_any A F [] 3 w1 hR).mono ?_
    rintro en w' ⟨rfl, rfl⟩
    go_wp2_with fail
    go_ret
    rw [HV.out]
    exact ⟨rfl, hR, ⟨hT.os, hT.tape, hT.output, hT.size, hT.block⟩⟩
  · have h0 : r.length = 0 := by omega
    have HV := Lib.hid (show Pl.re_ r e = (r, e) by
      have : r = [] := List.eq_nil_of_length_eq_zero h0
      simp [Pl.re_, this])
    rw [h0] at HL
    clear hp h0 hlen
    go_enter Try.func37, Try.ntmps37
    go_wp2_with fail
    refine HL.out.mono ?_
    rintro en w' ⟨rfl, nd, rfl⟩
    have HE := Lib.hid (err_any A F r e (w.drewN nd) h)
    go_wp2_with fail
    refine HE.out.mono ?_
    rintro en w' ⟨rfl, rfl⟩
    go_wp2_with fail
    go_ret
    rw [HV.out]
    exact ⟨rfl, h, ⟨rfl, rfl, rfl, Nat.le_refl _, fun _ _ _ => rfl⟩⟩
end Go.Proofs.Ytpakbpkcacdpbaa
