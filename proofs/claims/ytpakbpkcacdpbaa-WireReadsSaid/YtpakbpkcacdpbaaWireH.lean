/-
  Readers whose blocks lie between two numbers ('Iv'): for walks with many readers. Conditions: those that each states.
-/
import Derived.Test.YtpakbpkcacdpbaaWireG
namespace Go.Proofs.Ytpakbpkcacdpbaa
open Go.RowKit

/-- from lo on, below hi -/
def Iv (lo hi b : Nat) : Prop := lo ≤ b ∧ b < hi
section
variable {w w' : World} {A : Option Addr} {F F' : Nat → Prop} {r : List Nat} {e : Int} {lo hi lo' hi' : Nat}
theorem Rd.more (h : Rd w A F r e) (hF : ∀ b, F b → F' b) (hl : ∀ b, F' b → b < w.heap.size) : Rd w A F' r e := by
  obtain ⟨_, hi, h⟩ := h
  refine ⟨hl, hi, ?_⟩
  rcases h with h | ⟨p, x, y, z, h1, h2, h3, h4⟩ | ⟨p, x, y, h1, h2, h3, h4⟩ | ⟨p, A', n, c, k, bs, h1, h2, h3, h4, h5, h6⟩
  · exact Or.inl h
  · exact Or.inr (Or.inl ⟨p, x, y, z, h1, hF p h2, h3, h4⟩)
  · exact Or.inr (Or.inr (Or.inl ⟨p, x, y, h1, hF p h2, h3, h4⟩))
  · exact Or.inr (Or.inr (Or.inr ⟨p, A', n, c, k, bs, h1, hF p h2, h3, h4, fun ad ha => ⟨hF _ (h5 ad ha).1, (h5 ad ha).2⟩, h6⟩))
theorem Rd.kiv (h : Rd w A (Iv lo hi) r e) (ht : Tn (Iv lo' hi') w w') (hd : hi ≤ lo' ∨ hi' ≤ lo) : Rd w' A (Iv lo hi) r e := h.keep ht (fun b h1 h2 => by unfold Iv at h1 h2; omega)
theorem Tn.iv (h : Tn (Pt A) w w') (hr : Rd w A (Iv lo hi) r e) : Tn (Iv lo hi) w w' := h.more (fun b _ hb => hr.pt b hb)
theorem Tn.belowIv (h : Tn (Iv lo hi) w w') {B : Nat} {w0 : World} (hb : Below B w0 w) (hB : B ≤ w.heap.size) (hl : B ≤ lo) : Below B w0 w' := h.below hb hB (fun b hb => by unfold Iv at hb; omega)
theorem rd_nil (w : World) : Rd w none (Iv 0 0) [] 2 := ⟨fun b hb => by unfold Iv at hb; omega, Pl.I.mk (by omega), Or.inl ⟨rfl, rfl, rfl⟩⟩
theorem Tn.iv0 (h : Tn (Pt none) w w') : Below w.heap.size w w' := ⟨h.os, h.tape, h.output, h.size, fun b hb => h.block b hb (fun hp => by cases hp)⟩
end
theorem new_iv (A : Option Addr) (n c : Nat) (bs : List Nat) (w : World) (h1 : Bys w w.heap.size A n c bs) (hr : n ≤ 140737488355328) :
    Calls Try.prog 21 #[.slice A n c] w fun en w' => ∃ p, en = .returned (.pointer (some ⟨p, 0, none⟩)) ∧ Rd w' (some ⟨p, 0, none⟩) (Iv w.heap.size w'.heap.size) bs 0 ∧ Below w.heap.size w w' :=
  (new_any A n c bs w h1 hr).mono fun _ _ ⟨p, _, h2, h3, h4, h5⟩ => ⟨p, h2, h3.more (fun b hb => ⟨h5 b hb, h3.lt b hb⟩) (fun _ hb => hb.2), h4⟩
theorem new_lit (W : World) (bs : List Nat) (ho : bs.all (fun x => decide (x < 256)) = true) (hl : bs.length ≤ 1000) :
    Calls Try.prog 21 #[.slice (some ⟨W.heap.size, 0, none⟩) bs.length bs.length] (W.alloc (.cells (cellsOf bs).toArray 5)) fun en w' => ∃ p, en = .returned (.pointer (some ⟨p, 0, none⟩)) ∧ Rd w' (some ⟨p, 0, none⟩) (Iv W.heap.size w'.heap.size) bs 0 ∧ Below W.heap.size W w' := by
  have hm : bs.length ≤ maxLen := by unfold maxLen; omega
  refine (new_iv _ _ _ bs _ ((bys_lit W bs (oct_lit bs ho) hm).more (by simp)) (by omega)).mono ?_
  rintro en w' ⟨p, rfl, h1, h2⟩
  have hb : Below W.heap.size W (W.alloc (.cells (cellsOf bs).toArray 5)) := (Below.refl _ _).alloc (Nat.le_refl _) _
  exact ⟨p, rfl, h1.more (fun _ hb => ⟨by have := hb.1; simp at this; omega, hb.2⟩) (fun _ hb => hb.2), hb.trans (h2.mono (by simp))⟩
end Go.Proofs.Ytpakbpkcacdpbaa
