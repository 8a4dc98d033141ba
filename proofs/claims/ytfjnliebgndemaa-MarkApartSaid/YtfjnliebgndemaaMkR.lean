/-
  Lengths and places behind rows, in plain words: rows one by one or as one row, places within the text, in order. Conditions: the length and the row together at most 2^40.
-/
import Derived.Test.YtfjnliebgndemaaWvD
import Derived.Test.YtfjnliebgndemaaMkQ
namespace Go.Proofs.Ytfjnliebgndemaa
open Go.RowKit
open Pl (Un)
namespace Pl

theorem goR_ok : ∀ (l : List Un) (n : Int), 0 ≤ n → (goL l n).2 = 0 → 0 ≤ (goL l n).1 ∧ (goL l n).1 ≤ n + l.length
  | [], n, h, _ => by simp [goL, h]
  | u :: r, n, h, e => by
    unfold goL at e ⊢
    by_cases hf : Fit u n
    · rw [if_pos hf] at e ⊢
      have hg : 0 ≤ n + grows u.k ∧ grows u.k ≤ 1 := by
        unfold grows
        by_cases h1 : u.k = 1
        · rw [if_pos h1]; omega
        · rw [if_neg h1]
          by_cases h2 : u.k = 2
          · rw [if_pos h2]
            have := hf.2.2 h2
            have h0 : 0 ≤ u.p := by rcases hf.1 with h | h <;> omega
            omega
          · rw [if_neg h2]; omega
      have ih := goR_ok r (n + grows u.k) hg.1 e
      rw [List.length_cons]
      omega
    · rw [if_neg hf] at e
      exact absurd e (by decide)
theorem goR_err : ∀ (l : List Un) (n : Int), (goL l n).2 = 0 ∨ goL l n = (0, 30)
  | [], n => .inl rfl
  | u :: r, n => by
    unfold goL
    by_cases hf : Fit u n
    · rw [if_pos hf]; exact goR_err r _
    · rw [if_neg hf]; exact .inr rfl
theorem goR_append (b : List Un) : ∀ (a : List Un) (n : Int), (goL a n).2 = 0 → goL (a ++ b) n = goL b (goL a n).1
  | [], n, _ => rfl
  | u :: r, n, e => by
    unfold goL at e
    rw [List.cons_append]
    by_cases hf : Fit u n
    · rw [if_pos hf] at e
      have ih := goR_append b r (n + grows u.k) e
      show (if Fit u n then goL (r ++ b) (n + grows u.k) else (0, 30)) = goL b (if Fit u n then goL r (n + grows u.k) else (0, 30)).1
      rw [if_pos hf, if_pos hf, ih]
    · rw [if_neg hf] at e
      exact absurd e (by decide)
theorem goR_append_err (b : List Un) : ∀ (a : List Un) (n : Int), (goL (a ++ b) n).2 = 0 → (goL a n).2 = 0
  | [], n, _ => rfl
  | u :: r, n, e => by
    rw [List.cons_append] at e
    unfold goL at e ⊢
    by_cases hf : Fit u n
    · rw [if_pos hf] at e ⊢
      exact goR_append_err b r _ e
    · rw [if_neg hf] at e
      exact absurd e (by decide)
theorem place_append (b : List Un) : ∀ (a : List Un) (pos : Int), placeR pos (a ++ b) = placeR (placeR pos a) b
  | [], _ => rfl
  | _ :: r, _ => place_append b r _
/-- within the text, and in order -/
theorem place_keeps : ∀ (l : List Un) (n x y : Int), 0 ≤ x → x ≤ y → y ≤ n → n + l.length ≤ 1099511627776 → (goL l n).2 = 0 → 0 ≤ placeR x l ∧ placeR x l ≤ placeR y l ∧ placeR y l ≤ (goL l n).1
  | [], n, x, y, h0, h1, h2, _, _ => by
    unfold placeR goL
    exact ⟨h0, h1, h2⟩
  | u :: r, n, x, y, h0, h1, h2, hb, e => by
    rw [List.length_cons] at hb
    unfold goL at e ⊢
    unfold placeR
    by_cases hf : Fit u n
    · rw [if_pos hf] at e ⊢
      have hp : u.k = 1 ∨ u.k = 2 → 0 ≤ u.p := fun hk => by rcases hf.1 with h | h <;> omega
      have f1 := hf.2.1
      have f2 := hf.2.2
      by_cases k1 : u.k = 1
      · have hp1 := hp (Or.inl k1)
        have hg : grows u.k = 1 := by unfold grows; rw [if_pos k1]
        have k2 : ¬ u.k = 2 := by omega
        have w1 : ∀ z, 0 ≤ z → z ≤ n → wrap64 (z + 1) = z + 1 := fun z h h' => by unfold wrap64; omega
        have ex : (if u.k = 1 ∧ u.p ≤ x then wrap64 (x + 1) else if u.k = 2 ∧ u.p < x then wrap64 (x - 1) else x) = if u.p ≤ x then x + 1 else x := by
          by_cases hx : u.p ≤ x
          · rw [if_pos ⟨k1, hx⟩, if_pos hx, w1 x h0 (by omega)]
          · rw [if_neg (fun h => hx h.2), if_neg (fun h => k2 h.1), if_neg hx]
        have ey : (if u.k = 1 ∧ u.p ≤ y then wrap64 (y + 1) else if u.k = 2 ∧ u.p < y then wrap64 (y - 1) else y) = if u.p ≤ y then y + 1 else y := by
          by_cases hy : u.p ≤ y
          · rw [if_pos ⟨k1, hy⟩, if_pos hy, w1 y (by omega) h2]
          · rw [if_neg (fun h => hy h.2), if_neg (fun h => k2 h.1), if_neg hy]
        rw [ex, ey]
        rw [hg] at e ⊢
        exact place_keeps r (n + 1) _ _ (by split <;> omega) (by split <;> split <;> omega) (by split <;> omega) (by omega) e
      · by_cases k2 : u.k = 2
        · have hp2 := hp (Or.inr k2)
          have f22 := f2 k2
          have hg : grows u.k = -1 := by unfold grows; rw [if_neg k1, if_pos k2]
          have w1 : ∀ z, 0 ≤ z → z ≤ n → wrap64 (z - 1) = z - 1 := fun z h h' => by unfold wrap64; omega
          have ex : (if u.k = 1 ∧ u.p ≤ x then wrap64 (x + 1) else if u.k = 2 ∧ u.p < x then wrap64 (x - 1) else x) = if u.p < x then x - 1 else x := by
            rw [if_neg (fun h => k1 h.1)]
            by_cases hx : u.p < x
            · rw [if_pos ⟨k2, hx⟩, if_pos hx, w1 x h0 (by omega)]
            · rw [if_neg (fun h => hx h.2), if_neg hx]
          have ey : (if u.k = 1 ∧ u.p ≤ y then wrap64 (y + 1) else if u.k = 2 ∧ u.p < y then wrap64 (y - 1) else y) = if u.p < y then y - 1 else y := by
            rw [if_neg (fun h => k1 h.1)]
            by_cases hy : u.p < y
            · rw [if_pos ⟨k2, hy⟩, if_pos hy, w1 y (by omega) h2]
            · rw [if_neg (fun h => hy h.2), if_neg hy]
          rw [ex, ey]
          rw [hg] at e ⊢
          exact place_keeps r (n + -1) _ _ (by split <;> omega) (by split <;> split <;> omega) (by split <;> omega) (by omega) e
        · have hg : grows u.k = 0 := by unfold grows; rw [if_neg k1, if_neg k2]
          rw [if_neg (fun h => k1 h.1), if_neg (fun h => k2 h.1), if_neg (fun h => k1 h.1), if_neg (fun h => k2 h.1)]
          rw [hg] at e ⊢
          exact place_keeps r (n + 0) _ _ h0 h1 (by omega) (by omega) e
    · rw [if_neg hf] at e
      exact absurd e (by decide)
/-- a row that fits, parted -/
theorem longR_parts {a b : List Un} {n m : Int} (h : longL (a ++ b) n = (m, 0)) : ∃ k, longL a n = (k, 0) ∧ longL b k = (m, 0) ∧ 0 ≤ k := by
  unfold longL at h
  by_cases hc : 0 ≤ n ∧ ∀ u ∈ a ++ b, Okay u
  · rw [if_pos hc] at h
    have h2 : (goL (a ++ b) n).2 = 0 := by rw [h]
    have h3 := goR_append_err b a n h2
    have h4 := goR_append b a n h3
    have h5 := (goR_ok a n hc.1 h3).1
    refine ⟨(goL a n).1, ?_, ?_, h5⟩
    · unfold longL
      rw [if_pos ⟨hc.1, fun u hu => hc.2 u (List.mem_append_left _ hu)⟩]
      exact Prod.ext rfl h3
    · unfold longL
      rw [if_pos ⟨h5, fun u hu => hc.2 u (List.mem_append_right _ hu)⟩, ← h4, h]
  · rw [if_neg hc] at h
    cases h
/-- places go with a row that fits, within the text and in order -/
theorem placeR_keeps {l : List Un} {n m x y : Int} (h : longL l n = (m, 0)) (h0 : 0 ≤ x) (h1 : x ≤ y) (h2 : y ≤ n) (hb : n + l.length ≤ 1099511627776) : 0 ≤ placeR x l ∧ placeR x l ≤ placeR y l ∧ placeR y l ≤ m := by
  unfold longL at h
  by_cases hc : 0 ≤ n ∧ ∀ u ∈ l, Okay u
  · rw [if_pos hc] at h
    have := place_keeps l n x y h0 h1 h2 hb (by rw [h])
    rw [h] at this
    exact this
  · rw [if_neg hc] at h
    cases h
end Pl
end Go.Proofs.Ytfjnliebgndemaa
