/-
  A past beside two rows of the law's own (all that was taken, the lengths): Push, and append onto either row. Conditions: those of a past, with a place free; its first length at most a million.
-/
import Derived.Test.YtkgehgedbgogbaaPbD
namespace Go.Proofs.Ytkgehgedbgogbaa
open Go.RowKit
open Pl (Un)

/-- blocks that are neither the past's own, nor one of the two rows -/
def Fp (p : Nat) (a l : Value) (b : Nat) : Prop := b ≠ p ∧ a.ownBlock ≠ some b ∧ l.ownBlock ≠ some b
/-- the past, what was taken, the lengths -/
structure GrI (W : World) (B p fr : Nat) (N : Int) (T Ta : List Pl.Op) (ns : List Int) (a l : Value) (w : World) : Prop where
  all : ∃ F La, OwnO 38 w B F a La ∧ (∀ b, F b → B ≤ b ∧ b < w.heap.size ∧ l.ownBlock ≠ some b) ∧ La.map OpV.op = Ta
  lns : OwnR encI 1 3 w B l ns
  dis : ∀ g, a.ownBlock = some g → l.ownBlock ≠ some g
  past : PastAt w p (Fp p a l) fr N T
  bel : Below W.heap.size W w
  size : B ≤ w.heap.size
  pB : p < B
  Wp : W.heap.size ≤ p
section
variable {W w w' : World} {B p fr : Nat} {N : Int} {T T' Ta : List Pl.Op} {ns : List Int} {a l : Value}
theorem GrI.new (h : GrI W B p fr N T Ta ns a l w) : ∀ b, w.heap.size ≤ b → Fp p a l b := fun b hb => by
  obtain ⟨F, La, h1, _, _⟩ := h.all
  refine ⟨fun e => by have := h.past.lt; omega, fun e => ?_, fun e => ?_⟩
  · have := (h1.row.lt b e).2; omega
  · have := (OwnR.lt h.lns b e).2; omega
/-- behind a call of the past's -/
theorem GrI.tn (h : GrI W B p fr N T Ta ns a l w) (ht : Tn (fun b => b = p) w w') (hp : PastAt w' p (Fp p a l) fr N T') : GrI W B p fr N T' Ta ns a l w' := by
  obtain ⟨F, La, h1, h2, h3⟩ := h.all
  have hpB := h.pB
  refine ⟨⟨F, La, h1.tn ht (fun b hb e => by have := (h2 b hb).1; omega) (fun g hg e => by have := (h1.row.lt g hg).1; omega), fun b hb => ⟨(h2 b hb).1, Nat.lt_of_lt_of_le (h2 b hb).2.1 ht.size, (h2 b hb).2.2⟩, h3⟩, OwnR.tn h.lns ht (fun g hg e => by have := (OwnR.lt h.lns g hg).1; omega), h.dis, hp, tn_past h.Wp h.bel ht, Nat.le_trans h.size ht.size, h.pB, h.Wp⟩
theorem GrI.then_ (h : GrI W B p fr N T Ta ns a l w) (hb : Below w.heap.size w w') : GrI W B p fr N T Ta ns a l w' := by
  obtain ⟨F, La, h1, h2, h3⟩ := h.all
  exact ⟨⟨F, La, h1.then_ hb, fun b hF => ⟨(h2 b hF).1, Nat.lt_of_lt_of_le (h2 b hF).2.1 hb.size, (h2 b hF).2.2⟩, h3⟩, OwnR.then_ h.lns hb, h.dis, h.past.then_ hb, below_then h.bel hb, Nat.le_trans h.size hb.size, h.pB, h.Wp⟩
/-- one more of what was taken, as the run of the builtin -/
theorem GrI.more_all {A : Option Addr} {n c : Nat} {w1 : World} (h : GrI W B p fr N T Ta ns (.slice A n c) l w1) (ty : TypeId) (x y : Int) (ul : List Un) (b : Bool) (A' : Option Addr) (c' : Nat) (ho : OwnU w w1.heap.size (.slice A' ul.length c') ul) (hb : Below w1.heap.size w1 w) (hn : n < 1000) :
    ∃ A2 c2 w', (Builtin.append_ #[24, 24] ty #[.slice A n c, .slice (some ⟨w.heap.size, 0, none⟩) 1 1]).run Try.prog (w.alloc (.cells #[.int .u32 x, .int .u64 y, .slice A' ul.length c', .bool b] 38)) = .ok (.slice A2 (n + 1) c2) w' ∧
      GrI W B p fr N T (Ta ++ [⟨x, y, ul, b⟩]) ns (.slice A2 (n + 1) c2) l w' := by
  obtain ⟨F, La, h1, h2, h3⟩ := h.all
  obtain ⟨V, hV⟩ : ∃ V, V = w.alloc (.cells #[.int .u32 x, .int .u64 y, .slice A' ul.length c', .bool b] 38) := ⟨_, rfl⟩
  have hbV : Below w.heap.size w V := by rw [hV]; exact below_box _ _
  have hs0 := hb.size
  have hs1 := hbV.size
  have hlt := h1.row.lt
  have hlb := h.size
  have hA : ∀ ad, A' = some ad → w1.heap.size ≤ ad.block ∧ ad.block < w.heap.size := fun ad e => by
    subst e
    exact OwnR.lt ho _ rfl
  have hO : OwnO 38 V B (fun b => F b ∨ ∃ ad, A' = some ad ∧ ad.block = b) (.slice A n c) La :=
    OwnO.with ((h1.then_ hb).then_ hbV) (B' := w1.heap.size) (fun g hg => (hlt g hg).2) (fun ad e => (hA ad e).1)
  have hsrc := lit_op w ⟨x, y, A', ul.length, c', ul, b⟩
  simp only at hsrc
  rw [← hV] at hsrc ⊢
  have hU : UnsF V (fun b => F b ∨ ∃ ad, A' = some ad ∧ ad.block = b) A' ul.length c' ul := ⟨Rws.then_ (OwnU.uns ho) hbV, fun _ ad e => Or.inr ⟨ad, e, rfl⟩⟩
  obtain ⟨A2, c2, w', hr, ho2, hg, hat⟩ := run_append_ops (tO := 38) (t := 24) (bytes := 48) Try.underlying24 infoO rfl ty hO (w.heap.size + 1) (some ⟨w.heap.size, 0, none⟩) 1 1 [⟨x, y, A', ul.length, c', ul, b⟩] hsrc (fun o ho => by rw [List.mem_singleton.1 ho]; exact hU) (fun b hb => by
      rcases hb with hb | ⟨ad, e1, e2⟩
      · have := (h2 b hb).2.1; omega
      · have := (hA ad e1).2; omega) (by unfold maxLen; omega) (by omega) (by omega)
  have htg := grown_tn hg
  have hs2 := htg.size
  have hV2 := (h.then_ hb).then_ hbV
  have hll := OwnR.lt h.lns
  refine ⟨A2, c2, w', hr, ⟨⟨_, _, ho2, fun b hb => ?_, by rw [List.map_append, h3]; rfl⟩, OwnR.tn hV2.lns htg (fun g hg e => h.dis g e hg), fun g hg e => ?_, ?_, ?_, by omega, h.pB, h.Wp⟩⟩
  · rcases hb with hb | ⟨ad, e1, e2⟩
    · have := h2 b hb; exact ⟨this.1, by omega, this.2.2⟩
    · have := hA ad e1
      refine ⟨by omega, by omega, fun e => ?_⟩
      have := (hll b e).2
      omega
  · rcases hat with e2 | e2
    · exact h.dis g (by rw [← e2]; exact hg) e
    · rw [e2] at hg
      have := Option.some.inj hg
      have := (hll g e).2
      omega
  · refine (hV2.past.old.tn htg (fun b hb e => hb.1.2.1 e) (fun e => ?_)).more (fun b hb => ⟨hb.1.1, fun e => ?_, hb.1.2.2⟩) (fun e => e.1 rfl)
    · have := (hlt p e).1; have := h.pB; omega
    · rcases hat with e2 | e2
      · exact hb.1.2.1 (by rw [← e2]; exact e)
      · rw [e2] at e
        have := Option.some.inj e
        have := hb.2
        omega
  · exact hV2.bel.trans (OwnR.grownBelow hO.row hg (Below.refl _ _) (by omega) |>.mono (by have := h.pB; have := h.Wp; omega))
/-- one length more, as the run of the builtin -/
theorem GrI.more_len {A : Option Addr} {m d : Nat} (h : GrI W B p fr N T Ta ns a (.slice A m d) w) (ty : TypeId) (ra : Int) (hm : m < 1000) :
    ∃ A2 d2 w', (Builtin.append_ #[29, 29] ty #[.slice A m d, .slice (some ⟨w.heap.size, 0, none⟩) 1 1]).run Try.prog (w.alloc (.cells #[.int .i64 ra] 3)) = .ok (.slice A2 (m + 1) d2) w' ∧
      GrI W B p fr N T Ta (ns ++ [ra]) a (.slice A2 (m + 1) d2) w' := by
  obtain ⟨F, La, h1, h2, h3⟩ := h.all
  obtain ⟨V, hV⟩ : ∃ V, V = w.alloc (.cells #[.int .i64 ra] 3) := ⟨_, rfl⟩
  have hbV : Below w.heap.size w V := by rw [hV]; exact below_box _ _
  have hs1 := hbV.size
  have hll := OwnR.lt h.lns
  have hlb := h.size
  have hV2 := h.then_ hbV
  have hsrc : Rws encI V (w.heap.size + 1) (some ⟨w.heap.size, 0, none⟩) 1 1 [ra] := by
    have := (OwnR.rws encI_len (litI w [ra] (by simp [maxLen]))).2
    rw [hV]
    simpa [cellsR, encI] using this
  rw [← hV]
  obtain ⟨A2, d2, w', hr, ho2, hg, hat⟩ := run_append_rws (t := 29) (bytes := 8) encI_len encI_one Try.underlying29 infoI rfl (by decide) V ty B A m d ns hV2.lns (w.heap.size + 1) (some ⟨w.heap.size, 0, none⟩) 1 1 [ra] hsrc (by unfold maxLen; omega) (by omega) (by omega)
  have htg := grown_tn hg
  have hs2 := htg.size
  have hlt := h1.row.lt
  refine ⟨A2, d2, w', hr, ⟨⟨F, La, (h1.then_ hbV).tn htg (fun b hb e => (h2 b hb).2.2 e) (fun g hg e => h.dis g hg e), fun b hb => ?_, h3⟩, ho2, fun g hg e => ?_, ?_, ?_, by omega, h.pB, h.Wp⟩⟩
  · have := h2 b hb
    refine ⟨this.1, by omega, fun e => ?_⟩
    rcases hat with e2 | e2
    · exact this.2.2 (by rw [← e2]; exact e)
    · rw [e2] at e
      have := Option.some.inj e
      omega
  · rcases hat with e2 | e2
    · exact h.dis g hg (by rw [← e2]; exact e)
    · rw [e2] at e
      have := Option.some.inj e
      have := (hlt g hg).2
      omega
  · refine (hV2.past.old.tn htg (fun b hb e => hb.1.2.2 e) (fun e => ?_)).more (fun b hb => ⟨hb.1.1, hb.1.2.1, fun e => ?_⟩) (fun e => e.1 rfl)
    · have := (hll p e).1; have := h.pB; omega
    · rcases hat with e2 | e2
      · exact hb.1.2.2 (by rw [← e2]; exact e)
      · rw [e2] at e
        have := Option.some.inj e
        have := hb.2
        omega
  · exact hV2.bel.trans (OwnR.grownBelow hV2.lns hg (Below.refl _ _) (by omega) |>.mono (by have := h.pB; have := h.Wp; omega))
end
/-- what a Push leaves, beside the two rows -/
structure PushF (w : World) (p : Nat) (F : Nat → Prop) (fr : Nat) (N : Int) (T : List Pl.Op) (o : Pl.Op) (r E : Int) (w' : World) : Prop where
  past : PastAt w' p F fr N (Pl.step N T o)
  tn : Tn (fun b => b = p) w w'
  yes : Pl.Takes T N o → r = ((fr + (T.length + 1) : Nat) : Int) ∧ E = 0
  no : ¬ Pl.Takes T N o → r = 0 ∧ (E = 1 ∨ E = 30)
theorem push_anyF {w : World} {p fr : Nat} {F : Nat → Prop} {N : Int} {T : List Pl.Op} (h : PastAt w p F fr N T) (hF : ∀ b, w.heap.size ≤ b → F b) (x y : Int) (A : Option Addr) (n c : Nat) (l : List Un) (b : Bool) (h1 : Uns w w.heap.size A n c l) (hn : l.length * 40 ≤ 140737488355328) (hN : N ≤ 1000000) (hr : fr + T.length < 1099511627776) (hc : T.length < 256) :
    Calls Try.prog 9 #[.pointer (some ⟨p, 0, none⟩), .agg #[.int .u32 x, .int .u64 y, .slice A n c, .bool b]] w fun e w' => ∃ r E, e = .returned (.tuple #[.int .u64 r, .int .i64 E]) ∧ PushF w p F fr N T ⟨x, y, l, b⟩ r E w' := by
  have hn2 : n * 40 ≤ 140737488355328 := by rw [← h1.len]; exact hn
  have hT := Pl.total_le h.fine.small
  have hN2 : N + Pl.total T ≤ 1152921504606846976 := by omega
  obtain ⟨ra, hra⟩ : ∃ r, r = (Pl.longL l (N + Pl.total T)).1 := ⟨_, rfl⟩
  obtain ⟨rb, hrb⟩ : ∃ r, r = (Pl.longL l (N + Pl.total T)).2 := ⟨_, rfl⟩
  have hl : Pl.longL l (N + Pl.total T) = (ra, rb) := by rw [hra, hrb]
  by_cases ht : rb = 0
  · have hT2 : Pl.Takes T N ⟨x, y, l, b⟩ := by unfold Pl.Takes; simp only; rw [← hrb, ht]
    rw [ht] at hl
    refine (push_ok h hF x y A n c l b h1 hn2 hN2 ra hl hr hc).mono ?_
    rintro e w' ⟨rfl, hp, htn⟩
    exact ⟨_, _, rfl, by unfold Pl.step; rw [if_pos hT2]; exact hp, htn, fun _ => ⟨rfl, rfl⟩, fun hno => absurd hT2 hno⟩
  · have hT2 : ¬ Pl.Takes T N ⟨x, y, l, b⟩ := by unfold Pl.Takes; simp only; rw [← hrb]; exact ht
    refine (push_bad h x y A n c l b h1 hn2 hN2 ra rb hl ht).mono ?_
    rintro e w' ⟨rfl, hb⟩
    refine ⟨_, _, rfl, by unfold Pl.step; rw [if_neg hT2]; exact h.then_ hb, Tn.of _ hb, fun hy => absurd hy hT2, fun _ => ⟨rfl, ?_⟩⟩
    have := Pl.longL_err l (N + Pl.total T)
    rw [← hrb] at this
    rcases this with h | h
    · exact absurd h ht
    · exact h
end Go.Proofs.Ytkgehgedbgogbaa
