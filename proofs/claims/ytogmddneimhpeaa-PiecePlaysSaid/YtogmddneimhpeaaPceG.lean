/-
  Contract of piece's renew: the list of pieces is made anew, of those that a closure lays; for any closure whose own contract is known. Conditions: the table is one; the buffers have at most 2^30 code points.
-/
import Derived.Test.YtogmddneimhpeaaPceF
namespace Go.Proofs.Ytogmddneimhpeaa
open Go.RowKit
open Pl (Pc Plc Tab)

/-- what renew leaves, world by world -/
theorem renew_did {w w3 : World} {F G : Nat → Prop} {p q N : Nat} {t : Tab} {m : Nat} {L' : List Plc} {A1 A2 A3 A : Option Addr} {c1 c2 c3 c : Nat} (hlt : ∀ b, F b → b < w.heap.size) (hok : (⟨t.fst, t.snd, L'⟩ : Tab).Ok m) (hm : m ≤ 1073741824) (hp : F p)
    (h1 : w.heap[p]? = some (.cells #[.slice A1 t.fst.length c1, .pointer (some ⟨q, 0, none⟩), .int .i64 ((t.snd.length : Nat) : Int), .slice A3 (Pl.group t.L).length c3] 81 (0, 0)))
    (h2 : w.heap[q]? = some (.cells #[.slice A2 t.snd.length c2] 79 (0, 0)))
    (h3 : OwnC w 0 (.slice A1 t.fst.length c1) t.fst) (h4 : OwnC w 0 (.slice A2 t.snd.length c2) t.snd) (h6 : F q) (h7 : p ≠ q)
    (h8 : ∀ g, Value.ownBlock (.slice A1 t.fst.length c1) = some g → F g ∧ g ≠ p ∧ g ≠ q ∧ some g ≠ Value.ownBlock (.slice A2 t.snd.length c2))
    (h9 : ∀ g, Value.ownBlock (.slice A2 t.snd.length c2) = some g → F g ∧ g ≠ p ∧ g ≠ q)
    (hb : Below w.heap.size w w3) (hJ : JL w.heap.size N G (Pl.group L') w3)
    (hN : w3.heap[N]? = some (.cells #[.slice A (Pl.group L').length c] 50 (0, 0))) :
    Did w F p ⟨t.fst, t.snd, L'⟩ m (w3.setCell ⟨p, 3, none⟩ (.slice A (Pl.group L').length c)) := by
  obtain ⟨A', c', j1, j2, j3, j4, j5⟩ := hJ
  rw [hN] at j1
  simp only [Option.some.injEq, Obj.cells.injEq, Array.mk.injEq, List.cons.injEq, Value.slice.injEq, and_true, true_and] at j1
  obtain ⟨rfl, rfl⟩ := j1
  have lp := hlt p hp
  have lq := hlt q h6
  have hT : Tn F w (w3.setCell ⟨p, 3, none⟩ (.slice A (Pl.group L').length c)) := (Tn.of F hb).set_ (p := ⟨p, 3, none⟩) (Or.inr hp) _
  have hfar : ∀ b, b ≠ p → (w3.setCell ⟨p, 3, none⟩ (.slice A (Pl.group L').length c)).heap[b]? = w3.heap[b]? := fun b e => blk_keep _ e
  have hpz : (w3.setCell ⟨p, 3, none⟩ (.slice A (Pl.group L').length c)).heap[p]? = some (.cells #[.slice A1 t.fst.length c1, .pointer (some ⟨q, 0, none⟩), .int .i64 ((t.snd.length : Nat) : Int), .slice A (Pl.group L').length c] 81 (0, 0)) := by
    rw [blk_set (below_old hb h1 lp)]; rfl
  revert hT hfar hpz
  generalize w3.setCell ⟨p, 3, none⟩ (.slice A (Pl.group L').length c) = Z
  intro hT hfar hpz
  have hl3 := OwnR.lt j2
  refine did_of (t := ⟨t.fst, t.snd, L'⟩) (A1 := A1) (A2 := A2) (A3 := A) (c1 := c1) (c2 := c2) (c3 := c) (q := q) hlt hok hm hp hT hpz ?_ ?_ ?_ ?_ (Or.inl h6) h7 ?_ ?_ ?_
  · exact (hfar q h7.symm).trans (below_old hb h2 lq)
  · exact h3.same fun g _ h1 hg => (hfar g (h8 g hg).2.1).trans (hb.block g h1)
  · exact h4.same fun g _ h1 hg => (hfar g (h9 g hg).2.1).trans (hb.block g h1)
  · exact OwnR.lower (OwnR.same j2 fun g h1 _ hg => hfar g (by omega)) (Nat.zero_le _)
  · exact fun g hg => ⟨Or.inl (h8 g hg).1, (h8 g hg).2⟩
  · exact fun g hg => ⟨Or.inl (h9 g hg).1, (h9 g hg).2⟩
  · intro g hg
    have h := (hl3 g hg).1
    exact ⟨Or.inr h, by omega, by omega, fun e => by have := hlt g (h9 g e.symm).1; omega⟩

theorem callLay (args : Array Value) (w : World) : (callFunc 61 args).run Try.prog w = .ok (.enter 61 args) w := by simp [go_sem]
set_option maxRecDepth 100000 in
set_option maxHeartbeats 1000000 in
theorem renew_any {w : World} {F : Nat → Prop} {p : Nat} {t : Tab} {m : Nat} (h : Tb w F p t m) (f : FuncId) (caps : Array Value) (L' : List Plc) (hL' : (⟨t.fst, t.snd, L'⟩ : Tab).Ok m)
    (hf : ∀ args w, (callFunc f args).run Try.prog w = .ok (.enter f args) w)
    (hC : ∀ N G w1, Below w.heap.size w w1 → JL w.heap.size N G [] w1 → Calls Try.prog f (#[.func (.func 61) #[] #[.pointer (some ⟨N, 0, none⟩)]] ++ caps) w1 (Left (fun G out w2 => JL w.heap.size N G out w2) G (Pl.group L') w1)) :
    Calls Try.prog 44 #[.pointer (some ⟨p, 0, none⟩), .func (.func f) #[] caps] w fun e w' => e = .returned (.tuple #[]) ∧ Did w F p ⟨t.fst, t.snd, L'⟩ m w' := by
  have hok := h.ok
  have hlt := h.lt
  obtain ⟨_, _, hm, hp, A1, c1, q, A2, c2, A3, c3, h1, h2, h3, h4, h5, h6, h7, h8, h9, h10⟩ := h
  have hps := Pl.group_len t.L
  have hlen := hok.len
  have p3 := cell3 h1
  obtain ⟨k, hk⟩ : ∃ k, k = (Pl.group t.L).length := ⟨_, rfl⟩
  rw [← hk] at p3 hps
  have hkb : k ≤ 1073741824 := by omega
  have HALL := Lib.hid (fun w3 N G A c => renew_did (w := w) (w3 := w3) (N := N) (G := G) (A := A) (c := c) (L' := L') hlt hL' hm hp h1 h2 h3 h4 h6 h7 h8 h9)
  have HP := Lib.hid (And.intro h1 (hlt p hp))
  have HC := Lib.hid hC
  obtain ⟨i0, hi, hz0, hz1, hz2⟩ := info_parts infoPc
  have HI := Lib.hid (And.intro hi (And.intro hz0 (And.intro hz1 (show i0.bytes * (k + 2) ≤ 281474976710656 by rw [hz2]; omega))))
  clear h1 h2 h3 h4 h5 h6 h7 h8 h9 h10 hok hlt hp hps hlen hC hk hi hz0 hz1 hz2 hL'
  go_enter Try.func44, Try.ntmps44
  go_wp2_with (at_make; refine wpList_make_own w rfl (.const (.int .i64 0)) (.tmp 11) 50 rfl w.heap.size 59 i0 _ 3 Try.underlying50 HI.out.1 HI.out.2.1 HI.out.2.2.1 .i64 .i64 _ (k + 2) (by rfl) (by rfl) (by omega) HI.out.2.2.2 (by unfold maxLen; omega) (Nat.le_refl _) ?_)
  intro w1 ho1 hg1
  have hb1 : Below w.heap.size w w1 := (Below.refl _ w).grown hg1 (Nat.le_refl _) (fun k e => by cases e)
  obtain ⟨W, hW⟩ : ∃ W, W = w1.alloc (.cells #[.slice (some ⟨w.heap.size, 0, none⟩) 0 (k + 2)] 50) := ⟨_, rfl⟩
  have hbW : Below w.heap.size w W := by rw [hW]; exact below_alloc hb1 _
  have hJ0 : JL w.heap.size w1.heap.size (fun b => b = w.heap.size ∨ b = w1.heap.size) [] W := by
    have hz := hb1.size
    have hl := (World.ownsRow.lt ho1 w.heap.size rfl).2
    have hzW : W.heap.size = w1.heap.size + 1 := by rw [hW]; simp
    refine ⟨some ⟨w.heap.size, 0, none⟩, k + 2, by rw [hW]; exact heap_alloc_new w1 _, by rw [hW]; exact OwnR.alloc (show OwnR encP 3 59 w1 w.heap.size (.slice (some ⟨w.heap.size, 0, none⟩) 0 (k + 2)) [] from ho1) _, fun g hg => ?_, ⟨Or.inr rfl, fun b hb => ?_⟩, fun x hx => by cases hx⟩
    · have e : g = w.heap.size := by cases hg; rfl
      subst e
      exact ⟨Or.inl rfl, by omega⟩
    · rcases hb with rfl | rfl <;> omega
  have HCC := Lib.hid (HC.out w1.heap.size _ W hbW hJ0)
  have HW := Lib.hid (And.intro hW (And.intro hbW hb1))
  clear ho1 hg1 hb1 hbW hJ0 hW HC
  go_wp2_with fail
  rw [← HW.out.1]
  refine HCC.out.mono ?_
  rintro e w3 ⟨rfl, ht3, G3, hJ3, hG3⟩
  have hb3 : Below w.heap.size w w3 := ht3.below HW.out.2.1 HW.out.2.1.size (fun b hb => by have := HW.out.2.2.size; rcases hb with rfl | rfl <;> omega)
  have hJ3' := hJ3
  obtain ⟨A, c, j1, j2, j3, j4, j5⟩ := hJ3
  have n0 := cell0 j1
  have p3' := below_old hb3 HP.out.1 HP.out.2
  have f3 := frozen_of_row w3 p 3 _ _ p3'
  have e3 := cell3 p3'
  have HD := Lib.hid (HALL.out w3 w1.heap.size G3 A c hb3 hJ3' j1)
  clear j1 j2 j3 j4 j5 hJ3' hb3 p3' ht3 hG3 HCC p3
  go_wp2_with fail
  refine ⟨rfl, _, results_none (by kernel_rfl) _ _ _, rfl, ?_⟩
  exact HD.out
end Go.Proofs.Ytogmddneimhpeaa
