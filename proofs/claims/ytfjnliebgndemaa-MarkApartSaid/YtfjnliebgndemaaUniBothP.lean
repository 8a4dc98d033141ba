/-
  Two units that fit a text, in plain words: both ways make one text, and each fits where it comes. Conditions: those that each states.
-/
import Derived.Test.YtfjnliebgndemaaUniPl
namespace Go.Proofs.Ytfjnliebgndemaa
open Go.RowKit
open Pl (Un)
namespace Pl
def insL (p : Nat) (c : Int) (l : List Int) : List Int := l.take p ++ c :: l.drop p
def delL (p : Nat) (l : List Int) : List Int := l.take p ++ l.drop (p + 1)
theorem len_insL {p : Nat} {c : Int} {l : List Int} (h : p ≤ l.length) : (insL p c l).length = l.length + 1 := by
  unfold insL; simp; omega
theorem len_delL {p : Nat} {l : List Int} (h : p < l.length) : (delL p l).length + 1 = l.length := by
  unfold delL; simp; omega
theorem get_insL {p i : Nat} {c : Int} {l : List Int} (h : p ≤ l.length) : (insL p c l)[i]? = if i < p then l[i]? else if i = p then some c else l[i - 1]? := by
  unfold insL
  have hl : (l.take p).length = p := by simp; omega
  by_cases h1 : i < p
  · rw [if_pos h1, List.getElem?_append_left (by omega), List.getElem?_take, if_pos h1]
  · rw [if_neg h1, List.getElem?_append_right (by omega), hl]
    by_cases h2 : i = p
    · rw [if_pos h2, h2, Nat.sub_self]; rfl
    · rw [if_neg h2, show i - p = (i - p - 1) + 1 by omega, List.getElem?_cons_succ, List.getElem?_drop, show p + (i - p - 1) = i - 1 by omega]
theorem get_delL {p i : Nat} {l : List Int} (h : p ≤ l.length) : (delL p l)[i]? = if i < p then l[i]? else l[i + 1]? := by
  unfold delL
  have hl : (l.take p).length = p := by simp; omega
  by_cases h1 : i < p
  · rw [if_pos h1, List.getElem?_append_left (by omega), List.getElem?_take, if_pos h1]
  · rw [if_neg h1, List.getElem?_append_right (by omega), hl, List.getElem?_drop, show p + 1 + (i - p) = i + 1 by omega]
theorem ins_ins {p q : Nat} {c d : Int} {l : List Int} (h : p ≤ q) (hq : q ≤ l.length) : insL (q + 1) d (insL p c l) = insL p c (insL q d l) := by
  apply List.ext_getElem?
  intro i
  have h1 : (insL p c l).length = l.length + 1 := len_insL (by omega)
  have h2 : (insL q d l).length = l.length + 1 := len_insL hq
  have f1 : q + 1 ≤ (insL p c l).length := by omega
  have f2 : p ≤ l.length := by omega
  have f3 : p ≤ (insL q d l).length := by omega
  simp only [get_insL f1, get_insL f2, get_insL f3, get_insL hq]
  by_cases a1 : i < p
  · simp only [show i < q + 1 by omega, a1, show i < q by omega, if_true]
  · by_cases a2 : i = p
    · subst a2; simp only [show i < q + 1 by omega, Nat.lt_irrefl, if_true, if_false]
    · by_cases a3 : i < q + 1
      · simp only [a3, a1, a2, show i - 1 < q by omega, if_true, if_false]
      · by_cases a4 : i = q + 1
        · subst a4; simp only [Nat.lt_irrefl, a1, a2, Nat.add_sub_cancel, if_true, if_false]
        · simp only [a3, a4, a1, a2, show ¬ i - 1 < p by omega, show ¬ i - 1 = p by omega, show ¬ i - 1 < q by omega, show ¬ i - 1 = q by omega, if_false]
theorem ins_del {p q : Nat} {c : Int} {l : List Int} (h : p ≤ q) (hq : q < l.length) : delL (q + 1) (insL p c l) = insL p c (delL q l) := by
  apply List.ext_getElem?
  intro i
  have h1 : (insL p c l).length = l.length + 1 := len_insL (by omega)
  have h2 : (delL q l).length + 1 = l.length := len_delL hq
  have f1 : q + 1 ≤ (insL p c l).length := by omega
  have f2 : p ≤ l.length := by omega
  have f3 : p ≤ (delL q l).length := by omega
  have f4 : q ≤ l.length := by omega
  simp only [get_delL f1, get_insL f2, get_insL f3, get_delL f4]
  by_cases a1 : i < p
  · simp only [show i < q + 1 by omega, a1, show i < q by omega, if_true]
  · by_cases a2 : i = p
    · subst a2; simp only [show i < q + 1 by omega, Nat.lt_irrefl, if_true, if_false]
    · by_cases a3 : i < q + 1
      · simp only [a3, a1, a2, show i - 1 < q by omega, if_true, if_false]
      · simp only [a3, a1, a2, show ¬ i + 1 < p by omega, show ¬ i + 1 = p by omega, show ¬ i - 1 < q by omega, show i + 1 - 1 = i by omega, show i - 1 + 1 = i by omega, if_false]
theorem del_ins {p q : Nat} {c : Int} {l : List Int} (h : q < p) (hp : p ≤ l.length) : delL q (insL p c l) = insL (p - 1) c (delL q l) := by
  apply List.ext_getElem?
  intro i
  have h1 : (insL p c l).length = l.length + 1 := len_insL (by omega)
  have h2 : (delL q l).length + 1 = l.length := len_delL (by omega)
  have f1 : q ≤ (insL p c l).length := by omega
  have f3 : p - 1 ≤ (delL q l).length := by omega
  have f4 : q ≤ l.length := by omega
  simp only [get_delL f1, get_insL hp, get_insL f3, get_delL f4]
  by_cases a1 : i < q
  · simp only [a1, show i < p by omega, show i < p - 1 by omega, if_true]
  · by_cases a2 : i + 1 < p
    · simp only [a1, a2, show i < p - 1 by omega, if_true, if_false]
    · by_cases a3 : i + 1 = p
      · subst a3; simp only [a1, Nat.lt_irrefl, Nat.add_sub_cancel, if_true, if_false]
      · simp only [a1, a2, a3, show ¬ i < p - 1 by omega, show ¬ i = p - 1 by omega, show ¬ i - 1 < q by omega, show i + 1 - 1 = i by omega, show i - 1 + 1 = i by omega, if_false]
theorem del_del {p q : Nat} {l : List Int} (h : p < q) (hq : q < l.length) : delL (q - 1) (delL p l) = delL p (delL q l) := by
  apply List.ext_getElem?
  intro i
  have h1 : (delL p l).length + 1 = l.length := len_delL (by omega)
  have h2 : (delL q l).length + 1 = l.length := len_delL hq
  have f1 : q - 1 ≤ (delL p l).length := by omega
  have f2 : p ≤ l.length := by omega
  have f3 : p ≤ (delL q l).length := by omega
  have f4 : q ≤ l.length := by omega
  simp only [get_delL f1, get_delL f2, get_delL f3, get_delL f4]
  by_cases a1 : i < p
  · simp only [a1, show i < q - 1 by omega, show i < q by omega, if_true]
  · by_cases a2 : i + 1 < q
    · simp only [a1, a2, show i < q - 1 by omega, if_true, if_false]
    · simp only [a1, a2, show ¬ i < q - 1 by omega, show ¬ i + 1 < p by omega, if_false]
theorem del_back {p : Nat} {c : Int} {l : List Int} (hp : p ≤ l.length) : delL p (insL p c l) = l := by
  apply List.ext_getElem?
  intro i
  have h1 : (insL p c l).length = l.length + 1 := len_insL hp
  have f1 : p ≤ (insL p c l).length := by omega
  simp only [get_delL f1, get_insL hp]
  by_cases a1 : i < p
  · simp only [a1, if_true]
  · simp only [a1, show ¬ i + 1 < p by omega, show ¬ i + 1 = p by omega, show i + 1 - 1 = i by omega, if_false]
theorem behind_ins (p : Nat) (c x y : Int) (l : List Int) : behind ⟨1, (p : Int), c, x, y⟩ l = insL p c l := by unfold behind insL; simp
theorem behind_del (p : Nat) (c x y : Int) (l : List Int) : behind ⟨2, (p : Int), c, x, y⟩ l = delL p l := by unfold behind delL; simp
theorem behind_nop (p c x y : Int) (l : List Int) : behind ⟨0, p, c, x, y⟩ l = l := by unfold behind; simp
/-- a unit that fits, by its kind -/
theorem fit_cases {u : Un} {n : Nat} (h : Fit u n) : (∃ x y, u = ⟨0, 0, 0, x, y⟩) ∨ (∃ (p : Nat) (c x y : Int), u = ⟨1, (p : Int), c, x, y⟩ ∧ p ≤ n ∧ May c) ∨ ∃ (p : Nat) (c x y : Int), u = ⟨2, (p : Int), c, x, y⟩ ∧ p < n ∧ May c := by
  obtain ⟨k, p, c, x, y⟩ := u
  obtain ⟨h1, h2, h3⟩ := h
  rcases h1 with ⟨e1, e2, e3⟩ | ⟨e1, e2, e3⟩
  · simp only at e1 e2 e3
    subst e1 e2 e3
    exact Or.inl ⟨x, y, rfl⟩
  · simp only at e1 e2 e3 h2 h3
    obtain ⟨q, rfl⟩ : ∃ q : Nat, p = (q : Int) := ⟨p.toNat, by omega⟩
    rcases e1 with rfl | rfl
    · exact Or.inr (Or.inl ⟨q, c, x, y, rfl, by have := h2 rfl; omega, e3⟩)
    · exact Or.inr (Or.inr ⟨q, c, x, y, rfl, by have := h3 rfl; omega, e3⟩)
theorem fit_nop (x y : Int) (n : Int) : Fit ⟨0, 0, 0, x, y⟩ n := ⟨Or.inl ⟨rfl, rfl, rfl⟩, (fun h => by cases h), (fun h => by cases h)⟩
theorem fit_ins {p n : Nat} {c : Int} (x y : Int) (h : p ≤ n) (hc : May c) : Fit ⟨1, (p : Int), c, x, y⟩ n := ⟨Or.inr ⟨Or.inl rfl, (by simp only; omega), hc⟩, (fun _ => by simp only; omega), (fun h => by cases h)⟩
theorem fit_del {p n : Nat} {c : Int} (x y : Int) (h : p < n) (hc : May c) : Fit ⟨2, (p : Int), c, x, y⟩ n := ⟨Or.inr ⟨Or.inr rfl, (by simp only; omega), hc⟩, (fun h => by cases h), (fun _ => by simp only; omega)⟩
theorem over_nop_left (b : Un) (x y : Int) : over ⟨0, 0, 0, x, y⟩ b = ⟨0, 0, 0, x, y⟩ := by
  unfold over
  rw [if_neg]
  simp
theorem over_nop_right (a : Un) (p c x y : Int) : over a ⟨0, p, c, x, y⟩ = a := by
  unfold over
  split
  · rfl
  · rfl
theorem wrap_up {p : Nat} (h : p ≤ 100000) : wrap64 ((p : Int) + 1) = ((p + 1 : Nat) : Int) := by unfold wrap64; omega
theorem wrap_dn {p : Nat} (h : p ≤ 100000) (h0 : 0 < p) : wrap64 ((p : Int) - 1) = ((p - 1 : Nat) : Int) := by unfold wrap64; omega
theorem okay_ins {p : Nat} {c : Int} (x y : Int) (hc : May c) : Okay ⟨1, (p : Int), c, x, y⟩ := Or.inr ⟨Or.inl rfl, (by simp only; omega), hc⟩
theorem okay_del {p : Nat} {c : Int} (x y : Int) (hc : May c) : Okay ⟨2, (p : Int), c, x, y⟩ := Or.inr ⟨Or.inr rfl, (by simp only; omega), hc⟩
section
variable {p q : Nat} {c d x y x' y' : Int}
theorem over_ins_ins (hc : May c) (hd : May d) (hp : p ≤ 100000) : over ⟨1, (p : Int), c, x, y⟩ ⟨1, (q : Int), d, x', y'⟩ = if q < p ∨ p = q ∧ First x' y' x y then ⟨1, ((p + 1 : Nat) : Int), c, x, y⟩ else ⟨1, (p : Int), c, x, y⟩ := by
  rw [show over ⟨1, (p : Int), c, x, y⟩ ⟨1, (q : Int), d, x', y'⟩ = pastIns ⟨1, (p : Int), c, x, y⟩ ⟨1, (q : Int), d, x', y'⟩ from by unfold over; rw [if_pos ⟨okay_ins x y hc, okay_ins x' y' hd, by simp⟩]; rfl]
  unfold pastIns
  simp only [wrap_up hp, show ((1 : Int) = 2) = False by decide, false_or, Int.ofNat_lt, Int.ofNat_inj]
theorem over_del_ins (hc : May c) (hd : May d) (hp : p ≤ 100000) : over ⟨2, (p : Int), c, x, y⟩ ⟨1, (q : Int), d, x', y'⟩ = if q ≤ p then ⟨2, ((p + 1 : Nat) : Int), c, x, y⟩ else ⟨2, (p : Int), c, x, y⟩ := by
  rw [show over ⟨2, (p : Int), c, x, y⟩ ⟨1, (q : Int), d, x', y'⟩ = pastIns ⟨2, (p : Int), c, x, y⟩ ⟨1, (q : Int), d, x', y'⟩ from by unfold over; rw [if_pos ⟨okay_del x y hc, okay_ins x' y' hd, by simp⟩]; rfl]
  unfold pastIns
  simp only [wrap_up hp, true_or, and_true, Int.ofNat_lt, Int.ofNat_inj]
  by_cases h : q ≤ p
  · rw [if_pos h, if_pos (by omega)]
  · rw [if_neg h, if_neg (by omega)]
theorem over_ins_del (hc : May c) (hd : May d) (hp : p ≤ 100000) : over ⟨1, (p : Int), c, x, y⟩ ⟨2, (q : Int), d, x', y'⟩ = if q < p then ⟨1, ((p - 1 : Nat) : Int), c, x, y⟩ else ⟨1, (p : Int), c, x, y⟩ := by
  rw [show over ⟨1, (p : Int), c, x, y⟩ ⟨2, (q : Int), d, x', y'⟩ = pastDel ⟨1, (p : Int), c, x, y⟩ ⟨2, (q : Int), d, x', y'⟩ from by unfold over; rw [if_pos ⟨okay_ins x y hc, okay_del x' y' hd, by simp⟩]; rfl]
  unfold pastDel
  simp only [show ((1 : Int) = 2) = False by decide, and_false, if_false, Int.ofNat_lt]
  by_cases h : q < p
  · rw [if_pos h, if_pos h, wrap_dn hp (by omega)]
  · rw [if_neg h, if_neg h]
theorem over_del_del (hc : May c) (hd : May d) (hp : p ≤ 100000) : over ⟨2, (p : Int), c, x, y⟩ ⟨2, (q : Int), d, x', y'⟩ = if q < p then ⟨2, ((p - 1 : Nat) : Int), c, x, y⟩ else if p = q then ⟨0, 0, 0, x, y⟩ else ⟨2, (p : Int), c, x, y⟩ := by
  rw [show over ⟨2, (p : Int), c, x, y⟩ ⟨2, (q : Int), d, x', y'⟩ = pastDel ⟨2, (p : Int), c, x, y⟩ ⟨2, (q : Int), d, x', y'⟩ from by unfold over; rw [if_pos ⟨okay_del x y hc, okay_del x' y' hd, by simp⟩]; rfl]
  unfold pastDel
  simp only [and_true, Int.ofNat_lt, Int.ofNat_inj]
  by_cases h : q < p
  · rw [if_pos h, if_pos h, wrap_dn hp (by omega)]
  · rw [if_neg h, if_neg h]
end
/-- how long a text is behind a unit that fits -/
theorem len_behind {u : Un} {cs : List Int} (h : Fit u cs.length) : ((behind u cs).length : Int) = cs.length + grows u.k := by
  rcases fit_cases h with ⟨x, y, rfl⟩ | ⟨p, c, x, y, rfl, hp, _⟩ | ⟨p, c, x, y, rfl, hp, _⟩
  · rw [behind_nop]; simp [grows]
  · rw [behind_ins, len_insL hp]; simp [grows]
  · rw [behind_del]; have := len_delL hp; simp [grows]; omega
/-- BOTH WAYS ONE TEXT -/
theorem both {a b : Un} {cs : List Int} (hn : cs.length ≤ 1000) (ha : Fit a cs.length) (hb : Fit b cs.length) (hid : ¬ (a.k = 1 ∧ b.k = 1 ∧ a.x = b.x ∧ a.y = b.y)) :
    Fit (over b a) (behind a cs).length ∧ Fit (over a b) (behind b cs).length ∧ behind (over b a) (behind a cs) = behind (over a b) (behind b cs) := by
  rcases fit_cases ha with ⟨x, y, rfl⟩ | ⟨p, c, x, y, rfl, hp, hc⟩ | ⟨p, c, x, y, rfl, hp, hc⟩
  · rw [over_nop_left, over_nop_right, behind_nop, behind_nop]
    exact ⟨hb, fit_nop _ _ _, rfl⟩
  · rcases fit_cases hb with ⟨x', y', rfl⟩ | ⟨q, d, x', y', rfl, hq, hd⟩ | ⟨q, d, x', y', rfl, hq, hd⟩
    · rw [over_nop_left, over_nop_right, behind_nop, behind_nop]
      exact ⟨fit_nop _ _ _, ha, rfl⟩
    · rw [over_ins_ins hc hd (by omega), over_ins_ins hd hc (by omega), behind_ins p c x y cs, behind_ins q d x' y' cs, len_insL hp, len_insL hq]
      simp only [true_and] at hid
      by_cases h : p < q ∨ p = q ∧ First x y x' y'
      · rw [if_pos (by unfold First at *; omega), if_neg (fun h2 => by unfold First at *; omega), behind_ins, behind_ins]
        exact ⟨fit_ins _ _ (by omega) hd, fit_ins _ _ (by omega) hc, ins_ins (by omega) hq⟩
      · rw [if_neg (fun h2 => by unfold First at *; omega), if_pos (by unfold First at *; omega), behind_ins, behind_ins]
        exact ⟨fit_ins _ _ (by omega) hd, fit_ins _ _ (by omega) hc, (ins_ins (by unfold First at *; omega) hp).symm⟩
    · rw [over_ins_del hc hd (by omega), over_del_ins hd hc (by omega), behind_ins p c x y cs, behind_del q d x' y' cs, len_insL hp]
      have hl := len_delL hq
      by_cases h : q < p
      · rw [if_pos h, if_neg (by omega), behind_del, behind_ins]
        exact ⟨fit_del _ _ (by omega) hd, fit_ins _ _ (by omega) hc, del_ins h hp⟩
      · rw [if_neg h, if_pos (by omega), behind_del, behind_ins]
        exact ⟨fit_del _ _ (by omega) hd, fit_ins _ _ (by omega) hc, ins_del (by omega) hq⟩
  · have hl := len_delL hp
    rcases fit_cases hb with ⟨x', y', rfl⟩ | ⟨q, d, x', y', rfl, hq, hd⟩ | ⟨q, d, x', y', rfl, hq, hd⟩
    · rw [over_nop_left, over_nop_right, behind_nop, behind_nop]
      exact ⟨fit_nop _ _ _, ha, rfl⟩
    · rw [over_del_ins hc hd (by omega), over_ins_del hd hc (by omega), behind_del p c x y cs, behind_ins q d x' y' cs, len_insL hq]
      by_cases h : p < q
      · rw [if_pos h, if_neg (by omega), behind_ins, behind_del]
        exact ⟨fit_ins _ _ (by omega) hd, fit_del _ _ (by omega) hc, (del_ins h hq).symm⟩
      · rw [if_neg h, if_pos (by omega), behind_ins, behind_del]
        exact ⟨fit_ins _ _ (by omega) hd, fit_del _ _ (by omega) hc, (ins_del (by omega) hp).symm⟩
    · rw [over_del_del hc hd (by omega), over_del_del hd hc (by omega), behind_del p c x y cs, behind_del q d x' y' cs]
      have hl2 := len_delL hq
      by_cases h : p < q
      · rw [if_pos h, if_neg (by omega), if_neg (by omega), behind_del, behind_del]
        exact ⟨fit_del _ _ (by omega) hd, fit_del _ _ (by omega) hc, del_del h hq⟩
      · by_cases h2 : q < p
        · rw [if_neg h, if_neg (by omega), if_pos h2, behind_del, behind_del]
          exact ⟨fit_del _ _ (by omega) hd, fit_del _ _ (by omega) hc, (del_del h2 hp).symm⟩
        · obtain rfl : p = q := by omega
          rw [if_neg h, if_pos rfl, if_pos rfl, if_neg h, behind_nop, behind_nop]
          exact ⟨fit_nop _ _ _, fit_nop _ _ _, rfl⟩
theorem fit_okay {u : Un} {n : Int} (h : Fit u n) : Okay u := h.1
theorem applyE_fit {u : Un} {n : Int} (h : Fit u n) : applyE u n = 0 := by unfold applyE; rw [if_pos h.1, if_pos h]
theorem applyT_fit {u : Un} {cs : List Int} (h : Fit u cs.length) : applyT u cs = behind u cs := if_pos h
end Pl
end Go.Proofs.Ytfjnliebgndemaa
