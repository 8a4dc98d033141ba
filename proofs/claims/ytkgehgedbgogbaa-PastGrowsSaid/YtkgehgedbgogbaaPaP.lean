/-
  What is pushed, in plain words: which operations a past takes, what they grow, the length behind each. Conditions: those that each states.
-/
import Derived.Test.YtkgehgedbgogbaaPaM
namespace Go.Proofs.Ytkgehgedbgogbaa
open Pl (Un)
namespace Pl

theorem goL_ok : ∀ (l : List Un) (n : Int), 0 ≤ n → (goL l n).2 = 0 → (goL l n).1 = n + growsL l ∧ 0 ≤ (goL l n).1
  | [], n, h, _ => by simp [goL, growsL, h]
  | u :: r, n, h, e => by
    unfold goL at e ⊢
    by_cases hf : Fit u n
    · rw [if_pos hf] at e ⊢
      have hg : 0 ≤ n + grows u.k := by
        unfold grows
        by_cases h1 : u.k = 1
        · rw [if_pos h1]; omega
        · rw [if_neg h1]
          by_cases h2 : u.k = 2
          · rw [if_pos h2]
            have := hf.2.2 h2
            have h0 : 0 ≤ u.p := by rcases hf.1 with h | h <;> omega
            omega
          · rw [if_neg h2]; omega
      have ih := goL_ok r (n + grows u.k) hg e
      refine ⟨?_, ih.2⟩
      rw [ih.1]
      simp only [growsL, List.map_cons, List.sum_cons]
      omega
    · rw [if_neg hf] at e
      exact absurd e (by decide)
theorem longL_ok {l : List Un} {n : Int} (e : (longL l n).2 = 0) : (longL l n).1 = n + growsL l ∧ 0 ≤ n + growsL l ∧ 0 ≤ n := by
  unfold longL at e ⊢
  by_cases h : 0 ≤ n ∧ ∀ u ∈ l, Okay u
  · rw [if_pos h] at e ⊢
    have := goL_ok l n h.1 e
    exact ⟨this.1, by rw [← this.1]; exact this.2, h.1⟩
  · rw [if_neg h] at e
    exact absurd e (by decide)
theorem goL_err : ∀ (l : List Un) (n : Int), (goL l n).2 = 0 ∨ (goL l n).2 = 30
  | [], n => .inl rfl
  | u :: r, n => by
    unfold goL
    by_cases hf : Fit u n
    · rw [if_pos hf]; exact goL_err r _
    · rw [if_neg hf]; exact .inr rfl
theorem longL_err (l : List Un) (n : Int) : (longL l n).2 = 0 ∨ (longL l n).2 = 1 ∨ (longL l n).2 = 30 := by
  unfold longL
  by_cases h : 0 ≤ n ∧ ∀ u ∈ l, Okay u
  · rw [if_pos h]
    rcases goL_err l n with h | h
    · exact .inl h
    · exact .inr (.inr h)
  · rw [if_neg h]; exact .inr (.inl rfl)
theorem longL_nil {n : Int} (h : 0 ≤ n) : longL [] n = (n, 0) := by
  unfold longL
  rw [if_pos ⟨h, fun u hu => by cases hu⟩]
  rfl

/-- what operations grow, added -/
def total (L : List Op) : Int := (L.map (fun o => growsL o.l)).sum
theorem total_nil : total [] = 0 := rfl
theorem total_append (a b : List Op) : total (a ++ b) = total a + total b := by simp [total]
theorem total_one (o : Op) : total [o] = growsL o.l := by simp [total]
/-- does an operation fit a past's last length? -/
def Takes (L : List Op) (n : Int) (o : Op) : Prop := (longL o.l (n + total L)).2 = 0
instance (L : List Op) (n : Int) (o : Op) : Decidable (Takes L n o) := by unfold Takes; infer_instance
/-- what is taken of what is pushed, one behind the other (never full) -/
def taken (n : Int) : List Op → List Op := List.foldl (fun L o => if Takes L n o then L ++ [o] else L) []
theorem taken_nil (n : Int) : taken n [] = [] := rfl
theorem taken_snoc (n : Int) (a : List Op) (o : Op) : taken n (a ++ [o]) = if Takes (taken n a) n o then taken n a ++ [o] else taken n a := by
  unfold taken
  rw [List.foldl_append]
  rfl
theorem snoc_ind {α : Type} {P : List α → Prop} (h0 : P []) (h1 : ∀ a o, P a → P (a ++ [o])) (l : List α) : P l := by
  have : ∀ r : List α, P r.reverse := fun r => by
    induction r with
    | nil => exact h0
    | cons o r ih => rw [List.reverse_cons]; exact h1 _ _ ih
  have h := this l.reverse
  rwa [List.reverse_reverse] at h
theorem taken_len (n : Int) (a : List Op) : (taken n a).length ≤ a.length := by
  refine snoc_ind (P := fun a => (taken n a).length ≤ a.length) (Nat.le_refl 0) (fun a o ih => ?_) a
  rw [taken_snoc, List.length_append, List.length_singleton]
  by_cases h : Takes (taken n a) n o
  · rw [if_pos h, List.length_append, List.length_singleton]; omega
  · rw [if_neg h]; omega
/-- no length of a past is below 0 -/
def Long0 (n : Int) (L : List Op) : Prop := ∀ i, i ≤ L.length → 0 ≤ n + total (L.take i)
theorem Long0.nil {n : Int} (h : 0 ≤ n) : Long0 n [] := fun i _ => by simp [total_nil, h]
theorem Long0.last {n : Int} {L : List Op} (h : Long0 n L) : 0 ≤ n + total L := by
  have := h L.length (Nat.le_refl _)
  rwa [List.take_length] at this
theorem Long0.snoc {n : Int} {L : List Op} {o : Op} (h : Long0 n L) (ht : Takes L n o) : Long0 n (L ++ [o]) := by
  intro i hi
  rw [List.length_append, List.length_singleton] at hi
  by_cases he : i ≤ L.length
  · rw [List.take_append_of_le_length he]; exact h i he
  · rw [List.take_of_length_le (by rw [List.length_append, List.length_singleton]; omega), total_append, total_one]
    have := (longL_ok ht).2.1
    omega
theorem Long0.taken {n : Int} (h : 0 ≤ n) (a : List Op) : Long0 n (taken n a) := by
  refine snoc_ind (P := fun a => Long0 n (Pl.taken n a)) (Long0.nil h) (fun a o ih => ?_) a
  rw [taken_snoc]
  split
  · rename_i ht; exact ih.snoc ht
  · exact ih
/-- one revision further -/
theorem total_take {L : List Op} {i : Nat} (h : i < L.length) : total (L.take (i + 1)) = total (L.take i) + growsL (L.getD i default).l := by
  rw [List.take_succ_eq_append_getElem h, total_append, total_one, List.getD_eq_getElem?_getD, List.getElem?_eq_getElem h]
  rfl
/-- behind what went, the length at the first one takes it in -/
theorem total_drop (L : List Op) (k i : Nat) : total (L.take k) + total ((L.drop k).take i) = total (L.take (k + i)) := by
  rw [← total_append, ← List.take_add]
end Pl
end Go.Proofs.Ytkgehgedbgogbaa
