/-
  Contracts of the reader of wire that all others use (Err, Left, Fail, New): what each answers and leaves, of a reader in any state, and of none. Conditions: those that each states.
-/
import Derived.Test.YtaboamkfpolpbaaWireA
namespace Go.Proofs.Ytaboamkfpolpbaa.Wi
open Go.RowKit

/-- the reader's own block -/
def Pt (A : Option Addr) (b : Nat) : Prop := A = some ⟨b, 0, none⟩
set_option maxRecDepth 100000 in
theorem Rd.pt {w : World} {A : Option Addr} {F : Nat → Prop} {r : List Nat} {e : Int} (h : Rd w A F r e) : ∀ b, Pt A b → F b := by
  intro b hb
  unfold Pt at hb
  rcases h.2.2 with h | ⟨p, x, y, z, h1, h2, h3, h4⟩ | ⟨p, x, y, h1, h2, h3, h4⟩ | ⟨p, A', n, c, k, bs, h1, h2, h3, h4, h5, h6⟩
  · rw [h.1] at hb; cases hb
  all_goals
    rw [h1] at hb
    cases hb
    exact h2
set_option maxRecDepth 100000 in
theorem cell2 {w : World} {p : Nat} {a b d : Value} {r : List Value} {t : TypeId} (h : w.heap[p]? = some (.cells (a :: b :: d :: r).toArray t (0, 0))) : w.cell? ⟨p, 2, none⟩ = some d := by
  rw [cell_of_row w p 2 _ _ _ h]; simp
set_option maxRecDepth 100000 in
theorem cell3 {w : World} {p : Nat} {a b d f : Value} {r : List Value} {t : TypeId} (h : w.heap[p]? = some (.cells (a :: b :: d :: f :: r).toArray t (0, 0))) : w.cell? ⟨p, 3, none⟩ = some f := by
  rw [cell_of_row w p 3 _ _ _ h]; simp

set_option maxRecDepth 100000 in
set_option maxHeartbeats 400000 in
theorem err_any (A : Option Addr) (F : Nat → Prop) (r : List Nat) (e : Int) (w : World) (h : Rd w A F r e) :
    Calls Try.prog 29 #[.pointer A] w fun en w' => en = .returned (.int .i64 e) ∧ w = w' := by
  rcases h.2.2 with ⟨rfl, rfl, _⟩ | ⟨p, x, y, z, rfl, h2, h3, rfl, _⟩ | ⟨p, x, y, rfl, h2, h3, h4⟩ | ⟨p, A', n, c, k, bs, rfl, h2, h3, h4, h5, h6, h7, rfl⟩
  · clear h
    go_enter Try.func29, Try.ntmps29
    go_wp2
    go_ret
    exact ⟨rfl, rfl⟩
  · have c0 := cell0 h3
    clear h h3
    go_enter Try.func29, Try.ntmps29
    go_wp2
    go_ret
    exact ⟨rfl, rfl⟩
  · have c0 := cell0 h3
    have c3 := cell3 h3
    clear h h3 h4
    go_enter Try.func29, Try.ntmps29
    go_wp2
    go_ret
    exact ⟨rfl, rfl⟩
  · have c0 := cell0 h3
    have c3 := cell3 h3
    clear h h3 h4 h5 h6 h7
    go_enter Try.func29, Try.ntmps29
    go_wp2
    go_ret
    exact ⟨rfl, rfl⟩

set_option maxRecDepth 100000 in
set_option maxHeartbeats 400000 in
theorem left_dead (A : Option Addr) (F : Nat → Prop) (r : List Nat) (e : Int) (w : World) (h : Rd w A F r e) (he : e ≠ 0) :
    Calls Try.prog 30 #[.pointer A] w fun en w' => en = .returned (.int .i64 0) ∧ ∃ n, w' = w.drewN n := by
  have HE := Lib.hid (err_any A F r e w h)
  clear h
  go_enter Try.func30, Try.ntmps30
  go_wp2_with fail
  refine HE.out.mono ?_
  rintro en w' ⟨rfl, rfl⟩
  go_wp2_with fail
  all_goals go_ret
  all_goals exact ⟨rfl, 0, rfl⟩
set_option maxRecDepth 100000 in
set_option maxHeartbeats 400000 in
theorem left_ok (A : Option Addr) (F : Nat → Prop) (r : List Nat) (w : World) (h : Rd w A F r 0) :
    Calls Try.prog 30 #[.pointer A] w fun en w' => en = .returned (.int .i64 (r.length : Int)) ∧ ∃ n, w' = w.drewN n := by
  have HE := Lib.hid (err_any A F r 0 w h)
  obtain ⟨p, A', n, c, k, bs, rfl, h2, h3, h4, h5, h6, h7⟩ := h.ok
  have c1 := cell1 h3
  have c2 := cell2 h3
  have hle := h4.le
  have hcap := h4.cap
  unfold maxLen at hcap
  have HR := Lib.hid (show ((n : Int) - (k : Int)) = (r.length : Int) by rw [h7, List.length_drop, h4.len]; omega)
  clear h h3 h4 h5 h7
  go_enter Try.func30, Try.ntmps30
  go_wp2_with fail
  refine HE.out.mono ?_
  rintro en w' ⟨rfl, rfl⟩
  go_wp2_with fail
  go_quiet (fail)
  go_wp2_with fail
  go_ret
  exact ⟨by rw [HR.out]; rfl, _, rfl⟩
set_option maxRecDepth 100000 in
theorem left_any (A : Option Addr) (F : Nat → Prop) (r : List Nat) (e : Int) (w : World) (h : Rd w A F r e) :
    Calls Try.prog 30 #[.pointer A] w fun en w' => en = .returned (.int .i64 (r.length : Int)) ∧ ∃ n, w' = w.drewN n := by
  by_cases he : e = 0
  · subst he; exact left_ok A F r w h
  · have := left_dead A F r e w h he
    rw [h.dead he]; exact this

set_option maxRecDepth 100000 in
set_option maxHeartbeats 400000 in
theorem fail_dead (A : Option Addr) (F : Nat → Prop) (r : List Nat) (e x : Int) (w : World) (h : Rd w A F r e) (he : e ≠ 0) :
    Calls Try.prog 59 #[.pointer A, .int .i64 x] w fun en w' => en = .returned (.tuple #[]) ∧ w = w' := by
  have HE := Lib.hid (err_any A F r e w h)
  have b1 : (e != 0) = true := by simpa using he
  clear h
  go_enter Try.func59, Try.ntmps59
  go_wp2_with fail
  refine HE.out.mono ?_
  rintro en w' ⟨rfl, rfl⟩
  go_wp2_with fail
  exact ⟨rfl, _, results_none (by kernel_rfl), rfl, rfl⟩
set_option maxRecDepth 100000 in
set_option maxHeartbeats 400000 in
theorem fail_ok0 (A : Option Addr) (F : Nat → Prop) (r : List Nat) (w : World) (h : Rd w A F r 0) :
    Calls Try.prog 59 #[.pointer A, .int .i64 0] w fun en w' => en = .returned (.tuple #[]) ∧ w = w' := by
  have HE := Lib.hid (err_any A F r 0 w h)
  clear h
  go_enter Try.func59, Try.ntmps59
  go_wp2_with fail
  refine HE.out.mono ?_
  rintro en w' ⟨rfl, rfl⟩
  go_wp2_with fail
  exact ⟨rfl, _, results_none (by kernel_rfl), rfl, rfl⟩
set_option maxRecDepth 100000 in
set_option maxHeartbeats 400000 in
theorem fail_now (A : Option Addr) (F : Nat → Prop) (r : List Nat) (x : Int) (w : World) (h : Rd w A F r 0) (hx : x ≠ 0) (hI : Pl.I x) :
    Calls Try.prog 59 #[.pointer A, .int .i64 x] w fun en w' => en = .returned (.tuple #[]) ∧ Rd w' A F [] x ∧ Tn (Pt A) w w' := by
  have HE := Lib.hid (err_any A F r 0 w h)
  obtain ⟨p, A', n, c, k, bs, rfl, h2, h3, h4, h5, h6, h7⟩ := h.ok
  have hl := h.lt
  have b1 : (x == 0) = false := by simpa using hx
  have c1 := cell1 h3
  have c2 := cell2 h3
  have c3 := cell3 h3
  have f1 := frozen_of_row w p 1 _ _ h3
  have f2 := frozen_of_row w p 2 _ _ h3
  have f3 := frozen_of_row w p 3 _ _ h3
  have H3 := Lib.hid h3
  clear h h3 h4 h5 h7 h6
  go_enter Try.func59, Try.ntmps59
  go_wp2_with fail
  refine HE.out.mono ?_
  rintro en w' ⟨rfl, rfl⟩
  go_wp2_with fail
  refine ⟨rfl, _, results_none (by kernel_rfl), rfl, ⟨fun b hb => by simpa [World.setCell] using hl b hb, hI, Or.inr (Or.inr (Or.inl ⟨p, .slice none 0 0, .int .i64 0, rfl, h2, ?_, hx, rfl⟩))⟩, ?_⟩
  · rw [blk_set (blk_set (blk_set H3.out _) _) _]; rfl
  · exact (((Tn.refl (Pt (some ⟨p, 0, none⟩)) w).set_ (p := ⟨p, 3, none⟩) (Or.inr rfl) _).set_ (p := ⟨p, 1, none⟩) (Or.inr rfl) _).set_ (p := ⟨p, 2, none⟩) (Or.inr rfl) _

set_option maxRecDepth 100000 in
set_option maxHeartbeats 400000 in
theorem new_any (A : Option Addr) (n c : Nat) (bs : List Nat) (w : World) (h1 : Bys w w.heap.size A n c bs) (hr : n ≤ 140737488355328) :
    Calls Try.prog 26 #[.slice A n c] w fun en w' => ∃ p F, en = .returned (.pointer (some ⟨p, 0, none⟩)) ∧ Rd w' (some ⟨p, 0, none⟩) F bs 0 ∧ Below w.heap.size w w' ∧ ∀ b, F b → w.heap.size ≤ b := by
  have HC := Lib.hid (clone_any A n c bs w h1 hr)
  clear h1
  go_enter Try.func26, Try.ntmps26
  go_wp2_with fail
  refine HC.out.mono ?_
  rintro en w1 ⟨A1, c1, rfl, hV, hb⟩
  go_wp2_with fail
  go_ret
  have hz := hb.size
  have hlt := hV.lt
  refine ⟨w1.heap.size, fun b => w.heap.size ≤ b ∧ b ≤ w1.heap.size, rfl, ⟨fun b hb => by simp; omega, Pl.I.mk (by omega), Or.inr (Or.inr (Or.inr ⟨w1.heap.size, A1, bs.length, c1, 0, bs, rfl, ⟨by omega, by omega⟩, ?_, ?_, fun ad ha => ?_, Nat.zero_le _, rfl, rfl⟩))⟩, hb.alloc hz _, fun b hb => hb.1⟩
  · rw [heap_alloc_new]; rfl
  · exact ((hV.alloc _).bys).2
  · subst ha
    obtain ⟨g, e, _, hO⟩ := hV.some_ (by simp)
    cases e
    have := hO.form
    exact ⟨⟨this.1, by simp; omega⟩, by simp; omega⟩
end Go.Proofs.Ytaboamkfpolpbaa.Wi
