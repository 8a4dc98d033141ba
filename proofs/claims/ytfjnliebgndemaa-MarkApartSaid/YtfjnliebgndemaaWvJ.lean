/-
  The text of which all code points are others (1000, 1001, ..), as WeaveSides and WeavePlaces lay it. No conditions but those that each states.
-/
import Derived.Test.YtfjnliebgndemaaWvI
namespace Go.Proofs.Ytfjnliebgndemaa
open Go.RowKit
open Pl (Un)

namespace Pl
def txt (n : Nat) : List Int := (List.range n).map fun i : Nat => 1000 + (i : Int)
theorem len_txt (n : Nat) : (txt n).length = n := by simp [txt]
theorem txt_succ (n : Nat) : txt (n + 1) = txt n ++ [1000 + (n : Int)] := by simp [txt, List.range_succ]
theorem txt_get {n i : Nat} {x : Int} (h : (txt n)[i]? = some x) : x = 1000 + (i : Int) ∧ i < n := by
  unfold txt at h
  rw [List.getElem?_map] at h
  rcases Nat.lt_or_ge i n with hi | hi
  · rw [List.getElem?_range hi] at h
    injection h with h
    exact ⟨h.symm, hi⟩
  · rw [List.getElem?_eq_none (by simpa using hi)] at h
    cases h
theorem cut_txt (n a : Nat) : Cut (a : Int) (txt n) a := by
  intro i x h h1 h2
  obtain ⟨rfl, hi⟩ := txt_get h
  omega
theorem az_strange (x : Int) (h : Az x) : ¬ (1000 ≤ x ∧ x < 2000) := by unfold Az at h; omega
/-- the code points of its Ins are 2000, 2001, .. -/
def paint : Nat → List Un → List Un
  | _, [] => []
  | s, u :: r => (if u.k = 1 then ⟨u.k, u.p, 2000 + (s : Int), u.x, u.y⟩ else u) :: paint (s + 1) r
theorem len_paint (s : Nat) (l : List Un) : (paint s l).length = l.length := by
  induction l generalizing s with
  | nil => rfl
  | cons u l ih => simp [paint, ih]
theorem paint_snoc (s : Nat) (l : List Un) (u : Un) : paint s (l ++ [u]) = paint s l ++ [if u.k = 1 then ⟨u.k, u.p, 2000 + ((s + l.length : Nat) : Int), u.x, u.y⟩ else u] := by
  induction l generalizing s with
  | nil => rfl
  | cons v l ih =>
    show _ :: paint (s + 1) (l ++ [u]) = _ :: (paint (s + 1) l ++ _)
    rw [ih, List.length_cons, show s + 1 + l.length = s + (l.length + 1) by omega]
def Pt (c : Int) : Prop := 2000 ≤ c ∧ c ≤ 2100
theorem pt_strange (x : Int) (h : Pt x) : ¬ (1000 ≤ x ∧ x < 2000) := by unfold Pt at h; omega
theorem br_paint {c : Int} {P : Int → Prop} : ∀ {l : List Un} {n s : Nat}, Br c P l n → s + l.length ≤ 100 → Br c Pt (paint s l) n
  | [], _, _, _, _ => trivial
  | u :: l, n, s, h, hs => by
    obtain ⟨h1, h2⟩ := h
    simp only [List.length_cons] at hs
    rcases h2 with ⟨e, a, b, h⟩ | ⟨e, a, b, d, h⟩ | ⟨e, a, b, h⟩
    · show Br c Pt ((if u.k = 1 then _ else u) :: _) n
      rw [if_neg (by omega)]
      exact ⟨h1, Or.inl ⟨e, a, b, br_paint h (by omega)⟩⟩
    · show Br c Pt ((if u.k = 1 then _ else u) :: _) n
      rw [if_pos e]
      exact ⟨h1, Or.inr (Or.inl ⟨e, a, by unfold May; simp only; omega, by unfold Pt; simp only; omega, br_paint h (by omega)⟩)⟩
    · show Br c Pt ((if u.k = 1 then _ else u) :: _) n
      rw [if_neg (by omega)]
      exact ⟨h1, Or.inr (Or.inr ⟨e, a, b, br_paint h (by omega)⟩)⟩
theorem br_P {c : Int} {P : Int → Prop} : ∀ {l : List Un} {n : Nat}, Br c P l n → ∀ u ∈ l, u.k = 1 → P u.c
  | [], _, _ => fun _ h => by cases h
  | u :: r, n, h => by
    intro v hv hk
    rcases List.mem_cons.1 hv with rfl | hv
    · rcases h.2 with ⟨h1, _⟩ | ⟨_, _, _, h3, _⟩ | ⟨h1, _⟩
      · rw [h1] at hk; cases hk
      · exact h3
      · rw [h1] at hk; cases hk
    · rcases h.2 with ⟨_, _, _, h⟩ | ⟨_, _, _, _, h⟩ | ⟨_, _, _, h⟩
      · exact br_P h v hv hk
      · exact br_P h v hv hk
      · exact br_P h v hv hk
theorem leave_mem : ∀ (b : List Un) (cs : List Int) (x : Int), x ∈ leave b cs → x ∈ cs ∨ ∃ u ∈ b, u.k = 1 ∧ x = u.c
  | [], _, _, h => Or.inl h
  | u :: b, cs, x, h => by
    rcases leave_mem b (behind u cs) x h with h1 | ⟨v, hv, h2⟩
    · unfold behind at h1
      split at h1
      · rename_i hk
        rcases List.mem_append.1 h1 with h1 | h1
        · exact Or.inl (List.mem_of_mem_take h1)
        · rcases List.mem_cons.1 h1 with rfl | h1
          · exact Or.inr ⟨u, List.mem_cons_self .., hk, rfl⟩
          · exact Or.inl (List.mem_of_mem_drop h1)
      · split at h1
        · rcases List.mem_append.1 h1 with h1 | h1
          · exact Or.inl (List.mem_of_mem_take h1)
          · exact Or.inl (List.mem_of_mem_drop h1)
        · exact Or.inl h1
    · exact Or.inr ⟨v, List.mem_cons_of_mem _ hv, h2⟩
/-- no 1 stands there -/
theorem no_one {b : List Un} {n k : Nat} (h : Br 2 Pt b n) : ∀ x ∈ leave b (txt k), x ≠ 1 := by
  intro x hx
  rcases leave_mem b (txt k) x hx with h1 | ⟨u, hu, hk, rfl⟩
  · obtain ⟨i, hi, rfl⟩ := List.mem_map.1 h1
    omega
  · have := br_P h u hu hk
    unfold Pt at this; omega
/-- the first 1, where one has been put in -/
theorem first_one {l : List Int} {q i : Nat} (hq : q ≤ l.length) (hl : ∀ x ∈ l, x ≠ 1) (hi : (insL q 1 l)[i]? = some 1) (hf : ∀ t, t < i → (insL q 1 l).getD t 0 ≠ 1) : i = q := by
  rcases Nat.lt_trichotomy i q with h | h | h
  · rw [get_insL hq, if_pos h] at hi
    exact absurd rfl (hl 1 (List.mem_of_getElem? hi))
  · exact h
  · have := hf q h
    rw [List.getD_eq_getElem?_getD, get_insL hq, if_neg (Nat.lt_irrefl q), if_pos rfl] at this
    exact absurd rfl this
theorem has_one {l : List Int} {q : Nat} (hq : q ≤ l.length) : ¬ ∀ t, t < (insL q 1 l).length → (insL q 1 l).getD t 0 ≠ 1 := fun h => by
  have := h q (by rw [len_insL hq]; omega)
  rw [List.getD_eq_getElem?_getD, get_insL hq, if_neg (Nat.lt_irrefl q), if_pos rfl] at this
  exact this rfl
end Pl
/-- between one code point and the next -/
def TxR (w : World) (K : Nat) (s i : Value) (wr : World) : Prop := ∃ (j : Nat) (A : Option Addr) (c : Nat), i = .int .i64 (j : Int) ∧ s = .slice A j c ∧ j ≤ K ∧ OwnC wr w.heap.size (.slice A j c) (Pl.txt j) ∧ Below w.heap.size w wr
/-- rows written out as a row -/
theorem rows_one (w : World) (q : RowV) (h : Uns w w.heap.size q.A q.n q.c q.l) (hn : q.n ≤ 1000) : RowsV (w.alloc (.cells #[q.val] 33)) (some ⟨w.heap.size, 0, none⟩) [q] := by
  have hb := below_box w (.cells #[q.val] 33)
  refine fun _ => ⟨w.heap.size, rfl, by simp, fun j hj => ?_⟩
  obtain rfl : j = 0 := by simp at hj; exact hj
  exact ⟨cell0 (r := []) (heap_new rfl), Rws.then_ h hb, hn⟩
theorem rows_two (w : World) (q r : RowV) (h : Uns w w.heap.size q.A q.n q.c q.l) (hn : q.n ≤ 1000) (h2 : Uns w w.heap.size r.A r.n r.c r.l) (hn2 : r.n ≤ 1000) : RowsV (w.alloc (.cells #[q.val, r.val] 33)) (some ⟨w.heap.size, 0, none⟩) [q, r] := by
  have hb := below_box w (.cells #[q.val, r.val] 33)
  refine fun _ => ⟨w.heap.size, rfl, by simp, fun j hj => ?_⟩
  rcases j with _ | _ | j
  · exact ⟨cell0 (r := [r.val]) (heap_new rfl), Rws.then_ h hb, hn⟩
  · exact ⟨cell1 (r := []) (heap_new rfl), Rws.then_ h2 hb, hn2⟩
  · simp at hj; omega
/-- between one unit painted and the next -/
def PtR (w : World) (V : Value) (l : List Un) (i : Value) (wr : World) : Prop := ∃ j : Nat, i = .int .i64 (j : Int) ∧ j ≤ l.length ∧ OwnU wr w.heap.size V (Pl.paint 0 (l.take j) ++ l.drop j) ∧ Below w.heap.size w wr
/-- between one code point and the next, where all is right so far -/
def SeR (w : World) (n : Nat) (i : Value) (wr : World) : Prop := ∃ j : Nat, i = .int .i64 (j : Int) ∧ j ≤ n ∧ Below w.heap.size w wr
theorem get_of_getD {l : List Int} {i : Nat} (h : i < l.length) : l[i]? = some (l.getD i 0) := by
  rw [List.getD_eq_getElem?_getD, List.getElem?_eq_getElem h]; rfl
end Go.Proofs.Ytfjnliebgndemaa
