/-
  Contracts of the reader of wire (Num, Int, Upto, Bool, Count, Bytes, Str, End), in any state and of none: what each answers and leaves. Conditions: those that each states.
-/
import Derived.Test.YtaboamkfpolpbaaWireD
namespace Go.Proofs.Ytaboamkfpolpbaa.Wi
open Go.RowKit

namespace Pl
/-- Num: the number, what is left, the error -/
def rn (r : List Nat) (e : Int) : Nat × List Nat × Int :=
  if e = 0 then (if (get r).2.2 = 0 then ((get r).1, r.drop (get r).2.1, 0) else (0, [], ((get r).2.2 : Int))) else (0, [], e)
/-- a number with a bound -/
def rb (r : List Nat) (e : Int) (most : Nat) (ab : Int) : Nat × List Nat × Int := if most < (rn r e).1 then (0, [], ab) else rn r e
/-- bytes that are taken -/
def rt (r : List Nat) (e : Int) (k : Nat) : List Nat × List Nat × Int :=
  if e = 0 then (if k ≤ r.length then (r.take k, r.drop k, 0) else ([], [], 4)) else ([], [], e)
/-- Bytes, Str -/
def rby (r : List Nat) (e : Int) (most : Nat) : List Nat × List Nat × Int := rt (rb r e most 3).2.1 (rb r e most 3).2.2 (rb r e most 3).1
/-- End -/
def re_ (r : List Nat) (e : Int) : List Nat × Int := if e = 0 ∧ r ≠ [] then ([], 3) else (r, e)
set_option maxRecDepth 100000 in
theorem rn_dead {r : List Nat} {e : Int} (h : e ≠ 0) : rn r e = (0, [], e) := by simp [rn, h]
set_option maxRecDepth 100000 in
theorem rn_err {r : List Nat} (h : (get r).2.2 ≠ 0) : rn r 0 = (0, [], ((get r).2.2 : Int)) := by simp [rn, h]
set_option maxRecDepth 100000 in
theorem rn_ok {r : List Nat} (h : (get r).2.2 = 0) : rn r 0 = ((get r).1, r.drop (get r).2.1, 0) := by simp [rn, h]
set_option maxRecDepth 100000 in
theorem rn_pos {r : List Nat} {e : Int} (h : 0 < (rn r e).1) : (rn r e).2.2 = 0 := by
  unfold rn at h ⊢
  split at h
  · split at h
    · rename_i h1 h2; simp [h1, h2]
    · simp at h
  · simp at h
set_option maxRecDepth 100000 in
theorem rn_U (r : List Nat) (e : Int) : U (rn r e).1 := by
  unfold rn
  split
  · split
    · exact U.mk (get_lt r)
    · exact U.mk (by simp)
  · exact U.mk (by simp)
set_option maxRecDepth 100000 in
theorem get_e5 (r : List Nat) : (get r).2.2 ≤ 5 := by
  unfold get
  split
  · split <;> simp
  · split <;> simp
set_option maxRecDepth 100000 in
theorem rb_le {r : List Nat} {e : Int} {most : Nat} {ab : Int} : (rb r e most ab).1 ≤ most := by
  unfold rb; split
  · simp
  · omega
set_option maxRecDepth 100000 in
theorem rb_U (r : List Nat) (e : Int) (most : Nat) (ab : Int) : U (rb r e most ab).1 := by
  unfold rb; split
  · exact U.mk (by simp)
  · exact rn_U r e
end Pl

/-- what a call of a reader leaves -/
def RdTo (w : World) (A : Option Addr) (F : Nat → Prop) (s : List Nat × Int) (w' : World) : Prop := Rd w' A F s.1 s.2 ∧ Tn (Pt A) w w'

section
variable {w w1 w2 : World} {A : Option Addr} {F : Nat → Prop}
set_option maxRecDepth 100000 in
theorem Rd.lt_pt {r : List Nat} {e : Int} (h : Rd w A F r e) {b : Nat} (hb : Pt A b) : b < w.heap.size := h.lt b (h.pt b hb)
set_option maxRecDepth 100000 in
theorem RdTo.same {r : List Nat} {e : Int} (h : Rd w A F r e) : RdTo w A F (r, e) w := ⟨h, Tn.refl _ _⟩
set_option maxRecDepth 100000 in
theorem RdTo.below {r : List Nat} {e : Int} (h : Rd w A F r e) (hb : Below w.heap.size w w1) : RdTo w A F (r, e) w1 := ⟨h.below hb, Tn.of _ hb⟩
set_option maxRecDepth 100000 in
theorem RdTo.trans {s t : List Nat × Int} (h : RdTo w A F s w1) (k : RdTo w1 A F t w2) : RdTo w A F t w2 := ⟨k.1, h.2.trans k.2 (fun _ _ x => x)⟩
end
set_option maxRecDepth 100000 in
theorem new_one {w : World} {F : Nat → Prop} {b : Nat} (hF : F b → b < w.heap.size) : F b → ¬ b = w.heap.size := fun h e => by have := hF h; omega

set_option maxRecDepth 100000 in
set_option maxHeartbeats 400000 in
theorem num1_any (A : Option Addr) (n c : Nat) (r : List Nat) (g : Nat) (v : Value) (W : World) (x k e : Nat) (hB : Bys W W.heap.size A n c r) (hg : W.heap[g]? = some (.cells #[v] 32 (0, 0))) (h : Pl.get r = (x, k, e)) :
    Calls Try.prog 71 #[.slice A n c, .pointer (some ⟨g, 0, none⟩)] W fun en w' => en = .returned (.tuple #[.int .i64 (k : Int), .int .i64 (e : Int)]) ∧ w' = W.setCell ⟨g, 0, none⟩ (.int .u64 (x : Int)) := by
  have HG := Lib.hid (get_at A n c r W hB x k e h)
  have c0 := cell_of_one hg
  have f0 := free_of_one hg
  clear hB h hg
  go_enter Try.func71, Try.ntmps71
  go_wp2_with fail
  refine HG.out.mono ?_
  rintro en w' ⟨rfl, rfl⟩
  go_wp2_with fail
  go_ret2
  exact ⟨rfl, rfl⟩
set_option maxRecDepth 100000 in
/-- what goOn leaves of Num, Int: the captured cell, and the reader -/
theorem goOn_num (A : Option Addr) (F : Nat → Prop) (r : List Nat) (w : World) (h : Rd w A F r 0) (f : FuncId) (t : TypeId) (v0 v1 : Value) (x k e : Nat) (hg : Pl.get r = (x, k, e)) (hf : ∀ args w, (callFunc f args).run Try.prog w = .ok (.enter f args) w)
    (hc : ∀ (A2 : Option Addr) (n c : Nat) (W : World) (g : Nat), Bys W W.heap.size A2 n c r → W.heap[g]? = some (.cells #[v0] t (0, 0)) →
      Calls Try.prog f #[.slice A2 n c, .pointer (some ⟨g, 0, none⟩)] W fun en w' => en = .returned (.tuple #[.int .i64 (k : Int), .int .i64 (e : Int)]) ∧ w' = W.setCell ⟨g, 0, none⟩ v1) :
    Calls Try.prog 70 #[.pointer A, .func (.func f) #[] #[.pointer (some ⟨w.heap.size, 0, none⟩)]] (w.alloc (.cells #[v0] t)) fun en w' =>
      en = .returned (.tuple #[]) ∧ RdTo w A F (Pl.rn r 0).2 w' ∧ w'.heap[w.heap.size]? = some (.cells #[v1] t (0, 0)) := by
  have hb : Below w.heap.size w (w.alloc (.cells #[v0] t)) := (Below.refl _ _).alloc (Nat.le_refl _) _
  have hlt := h.lt
  have hpt : ∀ b, Pt A b → b < w.heap.size := fun b => h.lt_pt
  have hk : e = 0 → k ≤ r.length := fun he => by
    have ho : Pl.Oct r := by
      obtain ⟨p, A', n, c, k0, bs, _, _, _, h4, _, _, h7⟩ := h.ok
      rw [h7]; exact Pl.oct_drop h4.oct _
    have := (Pl.get_ok ho (by rw [hg]; exact he)).2.2.1
    rw [hg] at this
    exact this
  have hx : ((e : Int) = 0 ∧ k ≤ r.length ∨ (e : Int) ≠ 0 ∧ k = 0) := by
    by_cases he : e = 0
    · exact Or.inl ⟨by omega, hk he⟩
    · refine Or.inr ⟨by omega, ?_⟩
      have := Pl.get_err (bs := r) (by rw [hg]; exact he)
      rw [hg] at this
      simp at this
      exact this.2
  have he5 : e ≤ 5 := by have := Pl.get_e5 r; rw [hg] at this; exact this
  have hbl : (w.alloc (.cells #[v0] t)).drew.heap[w.heap.size]? = some (.cells #[v0] t (0, 0)) := by
    show (w.alloc (.cells #[v0] t)).heap[w.heap.size]? = _
    rw [heap_alloc_new]
  refine (goOn_ok A F r (w.alloc (.cells #[v0] t)) (h.below hb) f #[.pointer (some ⟨w.heap.size, 0, none⟩)] k (e : Int) (fun b => b = w.heap.size) (fun w' => w'.heap[w.heap.size]? = some (.cells #[v1] t (0, 0))) (fun b => new_one (hlt b)) hx (Pl.I.mk (by omega)) hf (fun A2 c hB _ => ?_) (fun w1 w2 hk ht => ?_)).mono ?_
  · refine (hc A2 r.length c (w.alloc (.cells #[v0] t)).drew w.heap.size hB hbl).mono ?_
    rintro en w' ⟨rfl, rfl⟩
    refine ⟨rfl, ⟨rfl, rfl, rfl, by simp [World.setCell], fun b hb1 hn => (blk_keep _ hn)⟩, one_setCell hbl⟩
  · exact (ht.block _ (lt_of_block hk) (fun hp => by have := hpt _ hp; omega)).trans hk
  · rintro en w' ⟨rfl, h1, h2, h3⟩
    refine ⟨rfl, ⟨?_, (Tn.of (Pt A) hb).trans h2 (fun b hb1 hp => hp.resolve_right (by omega))⟩, h3⟩
    by_cases he : e = 0
    · subst he
      rw [Pl.rn_ok (by rw [hg])]
      rw [hg]
      simpa using h1
    · rw [Pl.rn_err (by rw [hg]; exact he), hg]
      have h0 : ¬ ((e : Int) = 0) := by omega
      rw [if_neg h0] at h1
      exact h1

set_option maxRecDepth 100000 in
set_option maxHeartbeats 400000 in
theorem rnum_any (A : Option Addr) (F : Nat → Prop) (r : List Nat) (e : Int) (w : World) (h : Rd w A F r e) :
    Calls Try.prog 58 #[.pointer A] w fun en w' => en = .returned (.int .u64 (((Pl.rn r e).1 : Nat) : Int)) ∧ RdTo w A F (Pl.rn r e).2 w' := by
  by_cases he : e = 0
  · subst he
    obtain ⟨x, k, e1, hg⟩ : ∃ x k e1, Pl.get r = (x, k, e1) := ⟨_, _, _, rfl⟩
    have HG := Lib.hid (goOn_num A F r w h 71 32 (.int .u64 0) (.int .u64 (x : Int)) x k e1 hg callNum (fun A2 n c W g hB hc => num1_any A2 n c r g _ W x k e1 hB hc hg))
    have HV := Lib.hid (show (Pl.rn r 0).1 = x by
      by_cases h1 : e1 = 0
      · rw [Pl.rn_ok (by rw [hg]; exact h1), hg]
      · rw [Pl.rn_err (by rw [hg]; exact h1)]
        have := Pl.get_err (bs := r) (by rw [hg]; exact h1)
        rw [hg] at this
        simp at this
        exact this.1.symm)
    clear h hg
    go_enter Try.func58, Try.ntmps58
    go_wp2_with fail
    refine HG.out.mono ?_
    rintro en w' ⟨rfl, hr, hb⟩
    have c0 := cell_of_one hb
    go_wp2_with fail
    go_ret
    exact ⟨by rw [HV.out]; rfl, hr⟩
  · have HD := Lib.hid (fun w' (h' : Rd w' A F r e) => goOn_dead A F r e (.func (.func 71) #[] #[.pointer (some ⟨w.heap.size, 0, none⟩)]) w' h' he)
    have hb : Below w.heap.size w (w.alloc (.cells #[.int .u64 0] 32)) := (Below.refl _ _).alloc (Nat.le_refl _) _
    have HR := Lib.hid (h.below hb)
    have HX := Lib.hid (RdTo.below h hb)
    have HV := Lib.hid (Pl.rn_dead (r := r) he)
    have HZ := Lib.hid (h.dead he)
    clear h hb
    go_enter Try.func58, Try.ntmps58
    go_wp2_with fail
    refine (HD.out _ HR.out).mono ?_
    rintro en w' ⟨rfl, rfl⟩
    go_wp2_with fail
    go_ret
    rw [HV.out]
    refine ⟨rfl, ?_⟩
    have := HX.out
    rw [HZ.out] at this
    exact this
end Go.Proofs.Ytaboamkfpolpbaa.Wi
