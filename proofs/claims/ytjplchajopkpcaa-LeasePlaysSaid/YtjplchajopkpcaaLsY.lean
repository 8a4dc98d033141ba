/-
  LeasePlays: the program's leases and the document's in one memory, beside the law's own call; a region that turns one, then the other. Conditions: those that each states.
-/
import Derived.Test.YtjplchajopkpcaaLsX
import Derived.Test.YtjplchajopkpcaaLsO
import Derived.Test.YtjplchajopkpcaaBaseR
namespace Go.Proofs.Ytjplchajopkpcaa
open Go.RowKit

theorem Pl.set_len {M : Pl.Mks} (h : M.length ≤ 16) (x now : Int) : (Pl.setL M x now).2.length ≤ 16 := by
  unfold Pl.setL
  split
  · exact h
  · split
    · exact h
    · rename_i h1 h2
      by_cases hg : Pl.getM M x = none
      · have := Pl.len_put_le M x (Pl.tickM M x now)
        have : ¬ 16 ≤ M.length := fun hh => h2 ⟨hg, hh⟩
        simp only
        omega
      · have h3 := Pl.drop_had (M := M) x
        unfold Pl.dropL at h3
        rw [if_neg hg] at h3
        have h4 : ¬ ((if (Pl.delM M x).length < M.length then (0 : Int) else 6) = 6) := by have := congrArg Prod.fst h3; simp only at this; omega
        have h5 : (Pl.delM M x).length < M.length := by
          by_cases h5 : (Pl.delM M x).length < M.length
          · exact h5
          · rw [if_neg h5] at h4; exact absurd rfl h4
        show (Pl.putM M x _).length ≤ 16
        unfold Pl.putM
        rw [Pl.len_ins]
        omega
theorem Pl.drop_len {M : Pl.Mks} (h : M.length ≤ 16) (x : Int) : (Pl.dropL M x).2.length ≤ 16 := by
  rw [Pl.drop_had]
  exact Nat.le_trans (Pl.len_del_le M x) h
theorem Pl.there_len {M : Pl.Mks} (h : M.length ≤ 16) (now : Int) : (Pl.thereM now M).length ≤ 16 := Nat.le_trans (List.length_filter_le _ _) h
theorem Pl.newL_len {l : Pl.Mks} (h : Pl.newL l = 0) : l.length ≤ 16 := by
  unfold Pl.newL at h
  split at h
  · rename_i h1; exact absurd h h1
  · split at h
    · cases h
    · omega
theorem RefL.lower {w : World} {B B' q c : Nat} {A : Option Addr} {L : Pl.Mks} (h : RefL w B q A c L) (hb : B' ≤ B) : RefL w B' q A c L := ⟨Nat.le_trans hb h.q_, h.blk, OwnR.lower h.row hb, h.ne⟩
/-- the law's own call, in its block -/
def BoxO (w : World) (bx : Nat) (k x t : Int) : Prop := w.heap[bx]? = some (.cells #[.int .i64 k, .int .u32 x, .int .u64 t] 39 (0, 0))
section
variable {W w w' : World} {B p b q bx c c' p2 b2 : Nat} {A A' : Option Addr} {M M' N N' K : Pl.Mks} {k x t : Int} {T : Nat → Prop}
theorem LeasesW.far (h : LeasesW w p b M) {i : Nat} {cs : Array Value} {ty : TypeId} {fr : Nat × Nat} (hi : w.heap[i]? = some (.cells cs ty fr)) (ht : ty ≠ 63) : i ≠ p ∧ i ≠ b := by
  refine ⟨fun e => ?_, fun e => ?_⟩
  · rw [e, h.blk] at hi
    injection hi with hi
    injection hi with _ h2 _
    exact ht h2.symm
  · obtain ⟨es, clock, hb, _⟩ := h.own
    rw [e, hb] at hi
    cases hi
theorem LeasesW.farRef (h : LeasesW w p b M) (hr : RefL w B q A c N) : (q ≠ p ∧ q ≠ b) ∧ ∀ g, Value.ownBlock (.slice A N.length c) = some g → g ≠ p ∧ g ≠ b := by
  refine ⟨h.far hr.blk (by decide), fun g hg => ?_⟩
  rcases hr.row.2 with ⟨e, _⟩ | ⟨g', cap, cur, e, _, hh, _⟩
  · rw [e] at hg; cases hg
  · rw [e] at hg
    have : g' = g := by simpa [Value.ownBlock] using hg
    subst this
    exact h.far hh (by decide)
theorem RefL.tn2 (h : RefL w B q A c N) (ht : Tn T w w') (hq : ¬ T q) (hg : ∀ g, Value.ownBlock (.slice A N.length c) = some g → ¬ T g) : RefL w' B q A c N := ⟨h.q_, ht.old h.blk hq, OwnR.tn h.row ht hg, h.ne⟩
/-- both, and the call -/
structure PyS (W w : World) (p b q bx : Nat) (A : Option Addr) (c : Nat) (k x t : Int) (M N : Pl.Mks) : Prop where
  my : LeasesO w W.heap.size p b M
  dy : RefL w W.heap.size q A c N
  box : BoxO w bx k x t
  below : Below W.heap.size W w
theorem PyS.then_ (h : PyS W w p b q bx A c k x t M N) (hb : Below w.heap.size w w') : PyS W w' p b q bx A c k x t M N :=
  ⟨h.my.then_ hb, h.dy.then_ hb, below_old hb h.box (lt_of_block h.box), below_then h.below hb⟩
theorem PyS.boxne (h : PyS W w p b q bx A c k x t M N) : (bx ≠ p ∧ bx ≠ b) ∧ bx ≠ q := ⟨h.my.at_.far h.box (by decide), fun e => by
  have h1 := h.box
  unfold BoxO at h1
  rw [e, h.dy.blk] at h1
  injection h1 with h1
  injection h1 with _ h2 _
  exact absurd h2 (by decide)⟩
theorem PyS.turnx (h : PyS W w p b q bx A c k x t M N) (hx : LeasesW w' p b M') (ht : Tn (fun i => i = b) w w') : PyS W w' p b q bx A c k x t M' N :=
  ⟨⟨h.my.p_, h.my.b_, hx⟩, h.dy.tn2 ht (h.my.at_.farRef h.dy).1.2 (fun g hg => ((h.my.at_.farRef h.dy).2 g hg).2), ht.old h.box h.boxne.1.2, h.my.below h.below ht⟩
theorem PyS.turny (h : PyS W w p b q bx A c k x t M N) (hy : RefL w' W.heap.size q A' c' N') (ht : Tn (fun i => i = q) w w') : PyS W w' p b q bx A' c' k x t M N' :=
  ⟨⟨h.my.p_, h.my.b_, h.my.at_.tn ht (fun e => (h.my.at_.farRef h.dy).1.1 e.symm) (fun e => (h.my.at_.farRef h.dy).1.2 e.symm)⟩, hy, ht.old h.box h.boxne.2, ht.below h.below h.below.size (fun i e => by rw [e]; exact h.dy.q_)⟩
/-- others are turned -/
theorem PyS.turnz (h : PyS W w p b q bx A c k x t M N) (hz : LeasesW w p2 b2 K) (hb2 : W.heap.size ≤ b2) (h1 : p ≠ b2) (h2 : b ≠ b2) (ht : Tn (fun i => i = b2) w w') : PyS W w' p b q bx A c k x t M N :=
  ⟨⟨h.my.p_, h.my.b_, h.my.at_.tn ht h1 h2⟩, h.dy.tn2 ht (hz.farRef h.dy).1.2 (fun g hg => ((hz.farRef h.dy).2 g hg).2), ht.old h.box (hz.far h.box (by decide)).2, ht.below h.below h.below.size (fun i e => by rw [e]; exact hb2)⟩
theorem PyS.cells (h : PyS W w p b q bx A c k x t M N) : w.cell? ⟨bx, 0, none⟩ = some (.int .i64 k) ∧ w.cell? ⟨bx, 1, none⟩ = some (.int .u32 x) ∧ w.cell? ⟨bx, 2, none⟩ = some (.int .u64 t) :=
  ⟨cell0 h.box, cell1 h.box, cell2 h.box⟩
end
section
variable {S0 S1 S2 : World → Prop} {c1 c2 i : Nat} {L : Nat → Bool} {w w' : World}
/-- in a region that does one thing at both: operation c1, then c2 -/
def BkG (S0 S1 S2 : World → Prop) (c1 c2 : Nat) (L : Nat → Bool) (w : World) : Prop :=
  (L c1 = false → L c2 = false) ∧ (L c1 = false → S0 w) ∧ (L c1 = true → L c2 = false → S1 w) ∧ (L c1 = true → L c2 = true → S2 w)
theorem BkG.stay (h : BkG S0 S1 S2 c1 c2 L w) (h1 : i ≠ c1) (h2 : i ≠ c2) : BkG S0 S1 S2 c1 c2 (Rq.up L i) w := by
  unfold BkG at *
  rw [up_nel h1, up_nel h2]
  exact h
theorem BkG.first (h : BkG S0 S1 S2 c1 c2 L w) (h12 : c1 ≠ c2) (hL : L c1 = false) (hS : S1 w') : BkG S0 S1 S2 c1 c2 (Rq.up L c1) w' := by
  unfold BkG at *
  have h2 := h.1 hL
  rw [up_eql, up_nel h12, h2]
  exact ⟨(fun e => by cases e), (fun e => by cases e), fun _ _ => hS, fun _ e => by cases e⟩
theorem BkG.second (h12 : c2 ≠ c1) (hL : L c1 = true) (hS : S2 w') : BkG S0 S1 S2 c1 c2 (Rq.up L c2) w' := by
  unfold BkG at *
  rw [up_eql, up_nel h12, hL]
  exact ⟨(fun e => by cases e), (fun e => by cases e), (fun _ e => by cases e), fun _ _ => hS⟩
theorem BkG.begin (h : S0 w.drew) : BkG S0 S1 S2 c1 c2 (fun _ => false) w.drew := ⟨fun _ => rfl, fun _ => h, (fun e => by cases e), fun e => by cases e⟩
theorem BkG.any (h : BkG S0 S1 S2 c1 c2 L w) {Z : World → Prop} (h0 : ∀ w, S0 w → Z w) (h1 : ∀ w, S1 w → Z w) (h2 : ∀ w, S2 w → Z w) : Z w := by
  cases e1 : L c1 with
  | false => exact h0 w (h.2.1 e1)
  | true =>
    cases e2 : L c2 with
    | false => exact h1 w (h.2.2.1 e1 e2)
    | true => exact h2 w (h.2.2.2 e1 e2)
end
/-- clients told, as a word -/
def CmC (cs : List Int) (v : Value) (w : World) : Prop := ∃ A c, v = .slice A cs.length c ∧ Rws encC w w.heap.size A cs.length c cs
theorem CmC.stb {cs : List Int} : Rg.Stb (CmC cs) := fun _ _ _ ⟨A, c, e, h⟩ hb => ⟨A, c, e, Rws.then_ h hb⟩
/-- leases told, as a word -/
def CmM (M : Pl.Mks) (v : Value) (w : World) : Prop := ∃ A c, v = .slice A M.length c ∧ Rws encLs w w.heap.size A M.length c M
theorem CmM.stb {M : Pl.Mks} : Rg.Stb (CmM M) := fun _ _ _ ⟨A, c, e, h⟩ hb => ⟨A, c, e, Rws.then_ h hb⟩
/-- a call of the laws', laid in memory of its own -/
theorem op_new (w : World) (k x t : Int) : ∃ V, V = w.alloc (.cells #[.int .i64 k, .int .u32 x, .int .u64 t] 39) ∧ Below w.heap.size w V ∧ BoxO V w.heap.size k x t :=
  ⟨_, rfl, below_alloc (Below.refl _ w) _, heap_alloc_new w _⟩
end Go.Proofs.Ytjplchajopkpcaa
