/-
  What UndoBack asks, in plain words, of a row that fit brought to fit a text of numbers. Conditions: a text of at most forty, a row of at most twenty units.
-/
import Derived.Test.YtlnekhkdncccgaaUnI
import Derived.Test.YtlnekhkdncccgaaUnA
namespace Go.Proofs.Ytlnekhkdncccgaa
open Go.RowKit
open Pl (Un)

namespace Pl
theorem num_may {n : Nat} (hn : n ≤ 1000) : ∀ c ∈ numL n, May c := fun c hc => by
  obtain ⟨i, hi, rfl⟩ := num_mem hc
  unfold May; omega
theorem again_one {u : Un} {cs : List Int} (hf : Fit u cs.length) (x y x' y' : Int) : Fit (invU x y (invF x' y' u)) cs.length ∧ behind (invU x y (invF x' y' u)) cs = behind u cs := by
  rcases fit_cases hf with ⟨x0, y0, rfl⟩ | ⟨p, c, x0, y0, rfl, hp, hm⟩ | ⟨p, c, x0, y0, rfl, hp, hm⟩
  · exact ⟨fit_nop _ _ _, by rw [behind_nop]; exact behind_nop 0 0 x y cs⟩
  · exact ⟨fit_ins x y hp hm, rfl⟩
  · exact ⟨fit_del x y hp may_zero, rfl⟩
theorem again_all (x y x' y' : Int) : ∀ {r : List Un} {cs : List Int}, FitR r cs → FitR (r.map fun u => invU x y (invF x' y' u)) cs ∧ leave (r.map fun u => invU x y (invF x' y' u)) cs = leave r cs
  | [], _, _ => ⟨trivial, rfl⟩
  | u :: r, cs, h => by
    obtain ⟨h1, h2⟩ := again_one h.1 x y x' y'
    obtain ⟨g1, g2⟩ := again_all x y x' y' h.2
    refine ⟨⟨h1, by rw [h2]; exact g1⟩, ?_⟩
    show leave (List.map _ r) (behind (invU x y (invF x' y' u)) cs) = leave r (behind u cs)
    rw [h2]; exact g2
theorem fill_mem {r : List Un} {cs : List Int} {v : Un} (h : v ∈ fillL r cs) : ∃ u ∈ r, v.k = u.k ∧ v.x = u.x ∧ v.y = u.y := by
  induction r generalizing cs with
  | nil => cases h
  | cons u r ih =>
    rcases List.mem_cons.1 h with rfl | h
    · exact ⟨u, List.mem_cons_self .., (fillU_k u cs).1, (fillU_k u cs).2.2.1, (fillU_k u cs).2.2.2⟩
    · obtain ⟨u', h1, h2⟩ := ih h
      exact ⟨u', List.mem_cons_of_mem _ h1, h2⟩
theorem back_plain {N : Nat} {R : List Un} (hR : FiOk 1 7 2000 R N 0) (hl : R.length ≤ 20) (hN : N ≤ 40) :
    FitR R (numL N) ∧ (fillL R (numL N)).length = R.length ∧ FitR (fillL R (numL N)) (numL N) ∧ Filled (fillL R (numL N)) (numL N) := by
  have hf := fi_fit (by omega) hR (num_len N) (by omega) (by omega)
  obtain ⟨h1, h2, _⟩ := fill_all hf (num_may (by omega))
  exact ⟨hf, fill_len _ _, h1, h2⟩
/-- there and back, and there again -/
theorem back_again {A : List Un} {T : List Int} (h1 : FitR A T) (h2 : Filled A T) :
    FitR (invR 2 1 A) (leave A T) ∧ leave (invR 2 1 A) (leave A T) = T ∧ FitR (invR 1 7 (fillL (invR 2 1 A) (leave A T))) T ∧ leave (invR 1 7 (fillL (invR 2 1 A) (leave A T))) T = leave A T ∧ (fillL (invR 2 1 A) (leave A T)).length = A.length := by
  obtain ⟨g1, g2, g3⟩ := inv_back h1 h2 2 1
  have e : invR 1 7 ((A.map (invF 2 1)).reverse) = A.map fun u => invU 1 7 (invF 2 1 u) := by
    unfold invR
    rw [List.map_reverse, List.reverse_reverse, List.map_map]; rfl
  rw [g3, e]
  obtain ⟨k1, k2⟩ := again_all 1 7 2 1 h1
  exact ⟨g1, g2, k1, k2, by simp⟩
/-- what stands in the inverse, filled, across from a unit -/
theorem back_unit {N : Nat} {R : List Un} (hR : FiOk 1 7 2000 R N 0) (hl : R.length ≤ 20) (hN : N ≤ 40) {k : Nat} (hk : k < (fillL R (numL N)).length) :
    ∃ K K' p c x y, (fillL R (numL N)).getD k default = ⟨K, p, c, x, y⟩ ∧ (fillL (invR 2 1 (fillL R (numL N))) (leave (fillL R (numL N)) (numL N))).getD ((fillL R (numL N)).length - 1 - k) default = ⟨K', p, c, 2, 1⟩ ∧ K' ≠ K := by
  obtain ⟨_, _, h1, h2⟩ := back_plain hR hl hN
  obtain ⟨_, _, g3⟩ := inv_back h1 h2 2 1
  obtain ⟨A, hA⟩ : ∃ A, A = fillL R (numL N) := ⟨_, rfl⟩
  have hm : A.getD k default ∈ A := mem_getD (by rw [hA]; exact hk)
  obtain ⟨u, hu, e1, e2, e3⟩ := fill_mem (show A.getD k default ∈ fillL R (numL N) by rw [← hA]; exact hm)
  rw [g3, ← hA]
  rw [← hA] at hk
  rw [rev_getD _ _ (by rw [List.length_map]; omega), List.length_map, show A.length - 1 - (A.length - 1 - k) = k by omega]
  have e4 : (A.map (invF 2 1)).getD k default = invF 2 1 (A.getD k default) := by
    rw [List.getD_eq_getElem?_getD, List.getD_eq_getElem?_getD, List.getElem?_map, List.getElem?_eq_getElem hk]; rfl
  rw [e4]
  obtain ⟨v, hv⟩ : ∃ v, v = A.getD k default := ⟨_, rfl⟩
  rw [← hv] at e1 ⊢
  obtain ⟨K, p, c, x, y⟩ := v
  simp only at e1
  rcases fi_kinds hR u hu with h | h
  · rw [h] at e1
    exact ⟨K, 2, p, c, x, y, rfl, by subst e1; rfl, by omega⟩
  · rw [h] at e1
    exact ⟨K, 1, p, c, x, y, rfl, by subst e1; rfl, by omega⟩
end Pl
end Go.Proofs.Ytlnekhkdncccgaa
