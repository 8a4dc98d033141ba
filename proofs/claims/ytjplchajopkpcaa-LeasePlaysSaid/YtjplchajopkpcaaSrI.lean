/-
  A round of slices.pdqsortOrdered in plain words, at fewer than fifty. Conditions: those that each states.
-/
import Derived.Test.YtjplchajopkpcaaSrE
namespace Go.Proofs.Ytjplchajopkpcaa
open Go.Sort

section
variable {d d1 : Array Int} {a b lim lim1 p : Nat} {wb wp r : Bool} {h : Hint}
theorem pdq_ins (hL : b - a ≤ 12) : pdq ltInt d a b lim wb wp = insertionSort ltInt d a b := by rw [pdq, if_pos hL]
theorem pdq_long (hL : ¬ b - a ≤ 12) (hl : ¬ lim = 0) (h1 : (if !wb then breakPatterns d a b else d) = d1) (h2 : (if !wb then lim - 1 else lim) = lim1) (hc : choosePivot ltInt d1 a b = (p, h)) (hd : h ≠ .decreasing)
    (hr : (if wb && wp && h = .increasing then partialInsertionSort ltInt d1 a b else (d1, false)) = (d1, r)) :
    pdq ltInt d a b lim wb wp = if r then d1 else if a > 0 && !ltInt d1[a - 1]! d1[p]! then
        (if a < (partitionEqual ltInt d1 a b p).1 ∧ (partitionEqual ltInt d1 a b p).1 ≤ b then pdq ltInt (partitionEqual ltInt d1 a b p).2 (partitionEqual ltInt d1 a b p).1 b lim1 wb wp else (partitionEqual ltInt d1 a b p).2)
      else if a ≤ (partition ltInt d1 a b p).1 ∧ (partition ltInt d1 a b p).1 < b then
        (if (partition ltInt d1 a b p).1 - a < b - (partition ltInt d1 a b p).1 then
          pdq ltInt (pdq ltInt (partition ltInt d1 a b p).2.2 a (partition ltInt d1 a b p).1 lim1 true true) ((partition ltInt d1 a b p).1 + 1) b lim1 (decide ((partition ltInt d1 a b p).1 - a ≥ (b - a) / 8)) (partition ltInt d1 a b p).2.1
        else pdq ltInt (pdq ltInt (partition ltInt d1 a b p).2.2 ((partition ltInt d1 a b p).1 + 1) b lim1 true true) a (partition ltInt d1 a b p).1 lim1 (decide (b - (partition ltInt d1 a b p).1 ≥ (b - a) / 8)) (partition ltInt d1 a b p).2.1)
      else (partition ltInt d1 a b p).2.2 := by
  rw [pdq, if_neg hL, if_neg hl]
  simp only [h1, h2, hc, hd, if_false, hr, dite_eq_ite]
end
end Go.Proofs.Ytjplchajopkpcaa
