/-
  PieceText: a table, a row of the law's own and a struct of its own in one memory, apart from each other ('St'); what a call of one leaves of the others; pieces in plain words. Conditions: the table is one; the buffers have at most 2^30 code points.
-/
import Derived.Test.YtogmddneimhpeaaPceS
import Derived.Test.YtogmddneimhpeaaPceY
namespace Go.Proofs.Ytogmddneimhpeaa.pieceText
open Go.RowKit
open Pl (Pc Plc Tab)

def St (w0 w : World) (p : Nat) (t : Tab) (m : Nat) (v : Value) (cs : List Int) (bx : Option (Nat × Obj)) : Prop :=
  Below w0.heap.size w0 w ∧ ∃ F, Tb w F p t m ∧ (∀ b, F b → w0.heap.size ≤ b) ∧ OwnC w w0.heap.size v cs ∧ (∀ g, v.ownBlock = some g → ¬ F g) ∧
    ∀ y, bx = some y → w0.heap.size ≤ y.1 ∧ w.heap[y.1]? = some y.2 ∧ ¬ F y.1 ∧ v.ownBlock ≠ some y.1
section
variable {w0 w w' : World} {p m m' : Nat} {t t' : Tab} {v : Value} {cs : List Int} {bx : Option (Nat × Obj)}
theorem St.bel (h : St w0 w p t m v cs bx) : Below w0.heap.size w0 w := h.1
theorem St.tb (h : St w0 w p t m v cs bx) : ∃ F, Tb w F p t m := by obtain ⟨_, F, h1, _⟩ := h; exact ⟨F, h1⟩
theorem St.row (h : St w0 w p t m v cs bx) : OwnC w w0.heap.size v cs := by obtain ⟨_, F, _, _, h1, _⟩ := h; exact h1
theorem St.box_ {y : Nat × Obj} (h : St w0 w p t m v cs (some y)) : w.heap[y.1]? = some y.2 := by obtain ⟨_, F, _, _, _, _, h1⟩ := h; exact (h1 y rfl).2.1
theorem St.then_ (h : St w0 w p t m v cs bx) (hb : Below w.heap.size w w') : St w0 w' p t m v cs bx := by
  obtain ⟨hb0, F, h1, h2, h3, h4, h5⟩ := h
  exact ⟨hb0.trans (hb.mono hb0.size), F, h1.then_ hb, h2, h3.then_ hb, h4, fun y hy => ⟨(h5 y hy).1, below_old hb (h5 y hy).2.1 (lt_of_block (h5 y hy).2.1), (h5 y hy).2.2⟩⟩
theorem St.box (h : St w0 w p t m v cs bx) {V : World} {o : Obj} (hb : Below w.heap.size w V) (hq : V.heap[w.heap.size]? = some o) : St w0 V p t m v cs (some (w.heap.size, o)) := by
  obtain ⟨hb0, F, h1, h2, h3, h4, h5⟩ := h
  refine ⟨hb0.trans (hb.mono hb0.size), F, h1.then_ hb, h2, h3.then_ hb, h4, fun y hy => ?_⟩
  cases hy
  refine ⟨hb0.size, hq, fun hf => ?_, fun e => ?_⟩
  · have := h1.lt _ hf; simp at this
  · have := (h3.lt _ e).2; simp at this
theorem St.nobox (h : St w0 w p t m v cs bx) : St w0 w p t m v cs none := by
  obtain ⟨hb0, F, h1, h2, h3, h4, h5⟩ := h
  exact ⟨hb0, F, h1, h2, h3, h4, fun y hy => by cases hy⟩
theorem St.did {E : Ending → Prop} {f : FuncId} {args : Array Value} (h : St w0 w p t m v cs bx) (hc : ∀ F, Tb w F p t m → Calls Try.prog f args w fun e w' => E e ∧ Did w F p t' m' w') :
    Calls Try.prog f args w fun e w' => E e ∧ St w0 w' p t' m' v cs bx := by
  obtain ⟨hb0, F, h1, h2, h3, h4, h5⟩ := h
  refine (hc F h1).mono fun e w' ⟨he, F', k1, k2, k3, _⟩ => ⟨he, k2.below hb0 hb0.size h2, F', k1, fun b hb => (k3 b hb).elim (h2 b) (fun h => Nat.le_trans hb0.size h), h3.tn k2 h4, fun g hg hf => ?_, fun y hy => ?_⟩
  · rcases k3 g hf with hf | hf
    · exact h4 g hg hf
    · have := (h3.lt g hg).2; omega
  · obtain ⟨g1, g2, g3, g4⟩ := h5 y hy
    refine ⟨g1, k2.old g2 g3, fun hf => ?_, g4⟩
    rcases k3 _ hf with hf | hf
    · exact g3 hf
    · have := lt_of_block g2; omega
theorem St.turned {f : FuncId} {args : Array Value} {k : Nat} {ds : List Int} (h : St w0 w p t m v cs bx) (hc : Calls Try.prog f args w (Turned w v w0.heap.size k ds)) :
    Calls Try.prog f args w fun e w' => ∃ A2 c2, e = .returned (.slice A2 k c2) ∧ St w0 w' p t m (.slice A2 k c2) ds bx := by
  obtain ⟨hb0, F, h1, h2, h3, h4, h5⟩ := h
  refine hc.mono fun e w' ⟨A2, c2, he, hO, ht, hn⟩ => ⟨A2, c2, he, ht.below hb0 hb0.size (fun b hb => (h3.lt b hb).1), F, h1.keep ht (fun b hb hg => h4 b hg hb), h2, hO, fun g hg hf => ?_, fun y hy => ?_⟩
  · rcases hn g hg with hg | hg
    · exact h4 g hg hf
    · have := h1.lt g hf; omega
  · obtain ⟨g1, g2, g3, g4⟩ := h5 y hy
    refine ⟨g1, ht.old g2 g4, g3, fun e => ?_⟩
    rcases hn _ e with e | e
    · exact g4 e
    · have := lt_of_block g2; omega
end
theorem St.start {w0 w w' : World} {p m k c : Nat} {t : Tab} {F : Nat → Prop} {A : Option Addr} {cs : List Int} (hb : Below w0.heap.size w0 w) (h : Tb w F p t m) (hF : ∀ b, F b → w0.heap.size ≤ b) (hO : OwnC w' w.heap.size (.slice A k c) cs) (hb2 : Below w.heap.size w w') : St w0 w' p t m (.slice A k c) cs none :=
  ⟨hb.trans (hb2.mono hb.size), F, h.then_ hb2, hF, hO.lower hb.size, fun g hg hf => by have := (hO.lt g hg).1; have := h.lt g hf; omega, fun y hy => by cases hy⟩
/-- an insertion that is answered OK -/
theorem ins_ok {t : Tab} {m : Nat} (h : t.Ok m) (k : Nat) (l : List Int) (hk : k ≤ t.L.length) : Pl.reachE t.L.length (k : Int) 0 = 0 ∧ (Pl.insT t (k : Int) l).text = t.text.take k ++ l ++ t.text.drop k ∧ (Pl.group (Pl.insT t (k : Int) l).L).length ≤ (Pl.group t.L).length + 2 := by
  have h0 : Pl.reachE t.L.length (k : Int) 0 = 0 := Pl.reach0 (by omega) (by omega) (by omega)
  have e : Pl.insT t (k : Int) l = t.ins k l := by unfold Pl.insT; rw [if_pos h0, Int.toNat_natCast]
  rw [e]
  refine ⟨h0, Pl.ins_text h k l, ?_⟩
  have := Pl.len_insert (t.L.take k) (t.L.drop k) ⟨true, t.snd.length, l.length⟩
  rw [List.take_append_drop] at this
  exact this
theorem ins_bad {t : Tab} (pos : Int) (l : List Int) (h : pos < 0 ∨ pos > (t.L.length : Int)) : Pl.reachE t.L.length pos 0 = 30 ∧ Pl.insT t pos l = t := by
  have h0 : Pl.reachE t.L.length pos 0 = 30 := Pl.reach30 (by omega)
  exact ⟨h0, by unfold Pl.insT; rw [if_neg (by rw [h0]; decide)]⟩
theorem del_ok {t : Tab} (k n : Nat) (hk : k + n ≤ t.L.length) : Pl.reachE t.L.length (k : Int) (n : Int) = 0 ∧ (Pl.delT t (k : Int) (n : Int)).text = t.text.take k ++ t.text.drop (k + n) ∧ (Pl.group (Pl.delT t (k : Int) (n : Int)).L).length ≤ (Pl.group t.L).length + 1 := by
  have h0 : Pl.reachE t.L.length (k : Int) (n : Int) = 0 := Pl.reach0 (by omega) (by omega) (by omega)
  have e : Pl.delT t (k : Int) (n : Int) = t.del k n := by unfold Pl.delT; rw [if_pos h0, Int.toNat_natCast, Int.toNat_natCast]
  rw [e]
  refine ⟨h0, Pl.del_text t k n, ?_⟩
  have := Pl.len_delete (t.L.take k) ((t.L.drop k).take n) (t.L.drop (k + n))
  rw [List.append_assoc, show (t.L.drop k).take n ++ t.L.drop (k + n) = t.L.drop k by rw [← List.drop_drop, List.take_append_drop], List.take_append_drop] at this
  exact this
theorem del_bad {t : Tab} (pos n : Int) (h : pos < 0 ∨ n < 0 ∨ n > (t.L.length : Int) - pos) : Pl.reachE t.L.length pos n = 30 ∧ Pl.delT t pos n = t := by
  have h0 : Pl.reachE t.L.length pos n = 30 := Pl.reach30 h
  exact ⟨h0, by unfold Pl.delT; rw [if_neg (by rw [h0]; decide)]⟩
theorem _root_.Go.RowKit.Below.dn {B : Nat} {w w' : World} (h : Below B w w') (n : Nat) : Below B w (w'.drewN n) := ⟨h.os, h.tape, h.output, h.size, h.block⟩
/-- counted so far -/
def R2 (w1 : World) (ps : List Pc) (s i : Value) (wr : World) : Prop := ∃ j : Nat, i = .int .i64 (j : Int) ∧ j ≤ ps.length ∧ s = .int .i64 ((Pl.total (ps.take j) : Nat) : Int) ∧ Below w1.heap.size w1 wr
end Go.Proofs.Ytogmddneimhpeaa.pieceText
