/-
  Four rows of units of the call's own, at blocks that are all others; one of them turned. Conditions: those that each states.
-/
import Derived.Test.YtlnekhkdncccgaaWvQ
namespace Go.Proofs.Ytlnekhkdncccgaa
open Go.RowKit
open Pl (Un)

/-- a row of the call's own, whatever it holds -/
def AnyU (w : World) (base : Nat) (v : Value) : Prop := ∃ A n c l, v = .slice A n c ∧ n ≤ 1000 ∧ OwnU w base (.slice A n c) l
theorem AnyU.then_ {w w' : World} {base : Nat} {v : Value} (h : AnyU w base v) (hb : Below w.heap.size w w') : AnyU w' base v := by
  obtain ⟨A, n, c, l, e, hn, h⟩ := h
  exact ⟨A, n, c, l, e, hn, OwnR.then_ h hb⟩
theorem AnyU.tn {T : Nat → Prop} {w w' : World} {base : Nat} {v : Value} (h : AnyU w base v) (ht : Tn T w w') (hT : ∀ g, v.ownBlock = some g → ¬ T g) : AnyU w' base v := by
  obtain ⟨A, n, c, l, rfl, hn, h⟩ := h
  exact ⟨A, n, c, l, rfl, hn, OwnR.tn h ht hT⟩
structure Four (w : World) (base : Nat) (V : List Value) : Prop where
  any : ∀ j, j < V.length → AnyU w base (V.getD j undef)
  ne : ∀ i j, i < V.length → j < V.length → i ≠ j → ∀ g, (V.getD i undef).ownBlock = some g → (V.getD j undef).ownBlock ≠ some g
theorem Four.then_ {w w' : World} {base : Nat} {V : List Value} (h : Four w base V) (hb : Below w.heap.size w w') : Four w' base V := ⟨fun j hj => (h.any j hj).then_ hb, h.ne⟩
/-- one place turned, in one of them -/
theorem Four.set_ {w : World} {base g n c : Nat} {V : List Value} {l : List Un} (h : Four w base V) {j : Nat} (hj : j < V.length) (hV : V.getD j undef = .slice (some ⟨g, 0, none⟩) n c) (hn : n ≤ 1000) (ho : OwnU w base (.slice (some ⟨g, 0, none⟩) n c) l) {k : Nat} (hk : k < n) (p : Int) :
    Four (w.setCell ⟨g, k * 5 + 1, none⟩ (.int .i64 p)) base V ∧ Tn (fun b => b = g) w (w.setCell ⟨g, k * 5 + 1, none⟩ (.int .i64 p)) := by
  have hl := ho.len
  have hx := getD_of_get (l := l) (i := k) (by omega)
  obtain ⟨⟨k0, p0, c0, x0, y0⟩, hu⟩ : ∃ u, u = l.getD k default := ⟨_, rfl⟩
  rw [← hu] at hx
  have hs := OwnR.set_ encU_len ho k 1 (.int .i64 p) (by decide) ⟨k0, p0, c0, x0, y0⟩ ⟨k0, p, c0, x0, y0⟩ hx rfl
  have ht : Tn (fun b => b = g) w (w.setCell ⟨g, k * 5 + 1, none⟩ (.int .i64 p)) := Tn.set_ (T := fun b => b = g) (Tn.refl _ w) (p := ⟨g, k * 5 + 1, none⟩) (Or.inr rfl) _
  refine ⟨⟨fun i hi => ?_, h.ne⟩, ht⟩
  by_cases e : i = j
  · subst e
    rw [hV]
    exact ⟨_, n, c, _, rfl, hn, hs.1⟩
  · refine (h.any i hi).tn ht (fun g2 h2 e2 => ?_)
    subst e2
    refine h.ne i j hi hj e g2 h2 ?_
    rw [hV]; rfl
theorem four_of {w : World} {base : Nat} {a b c d : Value} (ha : AnyU w base a) (hb : AnyU w base b) (hc : AnyU w base c) (hd : AnyU w base d)
    (h1 : ∀ g, a.ownBlock = some g → b.ownBlock ≠ some g ∧ c.ownBlock ≠ some g ∧ d.ownBlock ≠ some g) (h2 : ∀ g, b.ownBlock = some g → c.ownBlock ≠ some g ∧ d.ownBlock ≠ some g) (h3 : ∀ g, c.ownBlock = some g → d.ownBlock ≠ some g) : Four w base [a, b, c, d] := by
  refine ⟨fun j hj => ?_, fun i j hi hj hne g h => ?_⟩
  · simp only [List.length_cons, List.length_nil] at hj
    rcases j with _ | _ | _ | _ | j
    · exact ha
    · exact hb
    · exact hc
    · exact hd
    · omega
  · simp only [List.length_cons, List.length_nil] at hi hj
    have hi4 : i = 0 ∨ i = 1 ∨ i = 2 ∨ i = 3 := by omega
    have hj4 : j = 0 ∨ j = 1 ∨ j = 2 ∨ j = 3 := by omega
    rcases hi4 with rfl | rfl | rfl | rfl <;> rcases hj4 with rfl | rfl | rfl | rfl <;> first
      | exact absurd rfl hne
      | exact (h1 g h).1
      | exact (h1 g h).2.1
      | exact (h1 g h).2.2
      | exact (h2 g h).1
      | exact (h2 g h).2
      | exact h3 g h
      | exact fun h' => (h1 g h').1 h
      | exact fun h' => (h1 g h').2.1 h
      | exact fun h' => (h1 g h').2.2 h
      | exact fun h' => (h2 g h').1 h
      | exact fun h' => (h2 g h').2 h
      | exact fun h' => h3 g h' h
/-- between one row and the next -/
def FoR (W : World) (gr : Nat) (V : List Value) (i : Value) (wr : World) : Prop := ∃ j : Nat, i = .int .i64 (j : Int) ∧ j ≤ V.length ∧ Four wr W.heap.size V ∧ wr.heap[gr]? = some (.cells V.toArray 23 (0, 0)) ∧ Below W.heap.size W wr
/-- between one place and the next -/
def FiV (W : World) (gr : Nat) (V : List Value) (n : Nat) (i : Value) (wr : World) : Prop := ∃ k : Nat, i = .int .i64 (k : Int) ∧ k ≤ n ∧ Four wr W.heap.size V ∧ wr.heap[gr]? = some (.cells V.toArray 23 (0, 0)) ∧ Below W.heap.size W wr
theorem cellV {w : World} {gr j : Nat} {V : List Value} (h : w.heap[gr]? = some (.cells V.toArray 23 (0, 0))) (hj : j < V.length) : w.cell? ⟨gr, j, none⟩ = some (V.getD j undef) := by
  rw [cell_of_row w gr j _ _ _ h, List.getElem?_toArray, List.getD_eq_getElem?_getD, List.getElem?_eq_getElem hj]; rfl
end Go.Proofs.Ytlnekhkdncccgaa
