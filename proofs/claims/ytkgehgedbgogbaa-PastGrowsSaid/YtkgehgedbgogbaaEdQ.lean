/-
  What is typed, erased, replaced, and a row without its Nops, in plain words, ahead of the code of layer 8. Nothing of a program is named here. Conditions: those that each lemma states.
-/
import Derived.Test.YtkgehgedbgogbaaEdP
namespace Go.Proofs.Ytkgehgedbgogbaa
open Go.RowKit
open Pl (Un)
namespace Pl
theorem fitR_append : ∀ (a b : List Un) (cs : List Int), FitR (a ++ b) cs ↔ FitR a cs ∧ FitR b (leave a cs)
  | [], b, cs => ⟨fun h => ⟨trivial, h⟩, fun h => h.2⟩
  | u :: a, b, cs => by
    have ih := fitR_append a b (behind u cs)
    exact ⟨fun h => ⟨⟨h.1, (ih.1 h.2).1⟩, (ih.1 h.2).2⟩, fun h => ⟨h.1.1, ih.2 ⟨h.1.2, h.2⟩⟩⟩
/-! ### without Nops -/
def cleanL (l : List Un) : List Un := l.filter (fun u => decide (u.k ≠ 0))
def nops (l : List Un) : Nat := (l.filter (fun u => decide (u.k = 0))).length
def growsL (l : List Un) : Int := (l.map (fun u => grows u.k)).sum
theorem clean_append (a b : List Un) : cleanL (a ++ b) = cleanL a ++ cleanL b := by simp [cleanL]
theorem clean_clean (l : List Un) : cleanL (cleanL l) = cleanL l := by simp [cleanL, List.filter_filter]
theorem clean_snoc (l : List Un) (u : Un) : cleanL (l ++ [u]) = if u.k = 0 then cleanL l else cleanL l ++ [u] := by
  rw [clean_append]
  by_cases h : u.k = 0 <;> simp [cleanL, h]
theorem nops_snoc (l : List Un) (u : Un) : nops (l ++ [u]) = if u.k = 0 then nops l + 1 else nops l := by
  by_cases h : u.k = 0 <;> simp [nops, h]
theorem grows_append (a b : List Un) : growsL (a ++ b) = growsL a + growsL b := by simp [growsL]
theorem grows_one (u : Un) : growsL [u] = grows u.k := by simp [growsL]
theorem len_clean (l : List Un) : (cleanL l).length + nops l = l.length := by
  induction l with
  | nil => rfl
  | cons u l ih =>
    by_cases h : u.k = 0
    · simp [cleanL, nops, h] at ih ⊢; omega
    · simp [cleanL, nops, h] at ih ⊢; omega
theorem grows_clean (l : List Un) : growsL (cleanL l) = growsL l := by
  induction l with
  | nil => rfl
  | cons u l ih =>
    by_cases h : u.k = 0
    · simp [cleanL, growsL, h, grows] at ih ⊢; exact ih
    · simp [cleanL, growsL, h] at ih ⊢; exact ih
theorem behind_zero {u : Un} (h : u.k = 0) (cs : List Int) : behind u cs = cs := by unfold behind; rw [if_neg (by omega), if_neg (by omega)]
theorem leave_clean (l : List Un) (cs : List Int) : leave (cleanL l) cs = leave l cs := by
  induction l generalizing cs with
  | nil => rfl
  | cons u l ih =>
    by_cases h : u.k = 0
    · rw [show cleanL (u :: l) = cleanL l by simp [cleanL, h], ih, leave, behind_zero h]
    · rw [show cleanL (u :: l) = u :: cleanL l by simp [cleanL, h], leave, ih, leave]
theorem fit_clean (l : List Un) (cs : List Int) (hf : FitR l cs) : FitR (cleanL l) cs := by
  induction l generalizing cs with
  | nil => exact trivial
  | cons u l ih =>
    by_cases h : u.k = 0
    · rw [show cleanL (u :: l) = cleanL l by simp [cleanL, h]]
      have := ih _ hf.2
      rw [behind_zero h] at this
      exact this
    · rw [show cleanL (u :: l) = u :: cleanL l by simp [cleanL, h]]
      exact ⟨hf.1, ih _ hf.2⟩
/-! ### typed, erased -/
def typeL (pos : Int) (cs : List Int) (x y : Int) : List Un := (List.range cs.length).map (fun (i : Nat) => (⟨1, wrap64 (pos + (i : Int)), cs.getD i 0, x, y⟩ : Un))
def eraseL (pos : Int) (n : Nat) (x y : Int) : List Un := List.replicate n ⟨2, pos, 0, x, y⟩
theorem len_type (pos : Int) (cs : List Int) (x y : Int) : (typeL pos cs x y).length = cs.length := by simp [typeL]
theorem len_erase (pos : Int) (n : Nat) (x y : Int) : (eraseL pos n x y).length = n := by simp [eraseL]
theorem type_snoc (pos : Int) (cs : List Int) (c x y : Int) : typeL pos (cs ++ [c]) x y = typeL pos cs x y ++ [⟨1, wrap64 (pos + (cs.length : Int)), c, x, y⟩] := by
  unfold typeL
  rw [List.length_append, List.length_singleton, List.range_succ, List.map_append]
  congr 1
  · refine List.map_congr_left fun i hi => ?_
    have hi' : i < cs.length := List.mem_range.1 hi
    simp [List.getD_eq_getElem?_getD, List.getElem?_append_left hi']
  · simp
theorem type_take (pos : Int) (cs : List Int) (x y : Int) (j : Nat) (h : j < cs.length) : typeL pos (cs.take (j + 1)) x y = typeL pos (cs.take j) x y ++ [⟨1, wrap64 (pos + (j : Int)), cs.getD j 0, x, y⟩] := by
  rw [List.take_add_one, List.getElem?_eq_getElem h, Option.toList_some, type_snoc, List.length_take, Nat.min_eq_left (Nat.le_of_lt h), List.getD_eq_getElem?_getD, List.getElem?_eq_getElem h]
  rfl
theorem erase_succ (pos : Int) (n : Nat) (x y : Int) : eraseL pos (n + 1) x y = eraseL pos n x y ++ [⟨2, pos, 0, x, y⟩] := by
  unfold eraseL; rw [List.replicate_succ']
theorem grows_type (pos : Int) (cs : List Int) (x y : Int) : growsL (typeL pos cs x y) = (cs.length : Int) := by
  obtain ⟨n, hn⟩ : ∃ n, n = cs.length := ⟨_, rfl⟩
  unfold growsL typeL
  rw [List.map_map, ← hn]
  clear hn
  induction n with
  | zero => rfl
  | succ n ih =>
    rw [List.range_succ, List.map_append, List.sum_append, ih]
    simp [grows]
theorem grows_erase (pos : Int) (n : Nat) (x y : Int) : growsL (eraseL pos n x y) = -(n : Int) := by
  induction n with
  | zero => rfl
  | succ n ih => rw [erase_succ, grows_append, ih, grows_one]; simp [grows]; omega
/-- what is typed stands there -/
theorem leave_type (pos : Nat) (cs text : List Int) (x y : Int) (hp : pos ≤ text.length) (hl : text.length + cs.length ≤ 1000000) :
    leave (typeL (pos : Int) cs x y) text = text.take pos ++ cs ++ text.drop pos ∧ ((∀ c ∈ cs, May c) → FitR (typeL (pos : Int) cs x y) text) := by
  obtain ⟨n, hn⟩ : ∃ n, n = cs.length := ⟨_, rfl⟩
  induction n generalizing cs with
  | zero =>
    obtain rfl : cs = [] := List.eq_nil_of_length_eq_zero hn.symm
    exact ⟨by simp [typeL, leave], fun _ => trivial⟩
  | succ n ih =>
    rcases List.eq_nil_or_concat cs with rfl | ⟨a, c, rfl⟩
    · simp at hn
    · rw [List.concat_eq_append] at *
      rw [List.length_append, List.length_singleton] at hn hl
      obtain ⟨i1, i2⟩ := ih a (by omega) (by omega)
      have hw : wrap64 ((pos : Int) + (a.length : Int)) = ((pos + a.length : Nat) : Int) := by unfold wrap64; omega
      have htk : (text.take pos ++ a).length = pos + a.length := by rw [List.length_append, List.length_take]; omega
      rw [type_snoc, leave_append, i1, hw]
      constructor
      · simp only [leave, behind, if_true, Int.toNat_natCast]
        rw [← htk, List.take_left, List.drop_left]
        simp
      · intro hm
        rw [fitR_append, i1]
        refine ⟨i2 (fun z hz => hm z (List.mem_append_left _ hz)), ⟨Or.inr ⟨Or.inl rfl, ?_, hm c (by simp)⟩, fun _ => ?_, fun h => ?_⟩, trivial⟩
        · exact Int.natCast_nonneg _
        · simp only [List.length_append, List.length_take, List.length_drop]; omega
        · exact absurd (show (1 : Int) = 2 from h) (by decide)
/-- what is erased is gone -/
theorem leave_erase (pos n : Nat) (text : List Int) (x y : Int) (hp : pos + n ≤ text.length) :
    leave (eraseL (pos : Int) n x y) text = text.take pos ++ text.drop (pos + n) ∧ FitR (eraseL (pos : Int) n x y) text := by
  induction n with
  | zero => exact ⟨by simp [eraseL, leave], trivial⟩
  | succ n ih =>
    obtain ⟨i1, i2⟩ := ih (by omega)
    have htk : (text.take pos).length = pos := by rw [List.length_take]; omega
    rw [erase_succ, leave_append, i1]
    constructor
    · simp only [leave, behind, Int.toNat_natCast]
      rw [if_neg (show ¬ ((2 : Int) = 1) by decide)]
      rw [List.take_left' htk, List.drop_append, htk, List.drop_eq_nil_of_le (by omega)]
      simp
      rfl
    · rw [fitR_append, i1]
      refine ⟨i2, ⟨Or.inr ⟨Or.inr rfl, Int.natCast_nonneg _, show May 0 by unfold May; omega⟩, fun h => ?_, fun _ => ?_⟩, trivial⟩
      · exact absurd (show (2 : Int) = 1 from h) (by decide)
      · simp only [List.length_append, List.length_take, List.length_drop]; omega
/-- typed and then erased -/
theorem leave_both (pos : Nat) (cs text : List Int) (x y : Int) (hp : pos ≤ text.length) (hl : text.length + cs.length ≤ 1000000) (hm : ∀ c ∈ cs, May c) :
    leave (typeL (pos : Int) cs x y ++ eraseL (pos : Int) cs.length x y) text = text ∧ FitR (typeL (pos : Int) cs x y ++ eraseL (pos : Int) cs.length x y) text := by
  obtain ⟨h1, h2⟩ := leave_type pos cs text x y hp hl
  have htk : (text.take pos).length = pos := by rw [List.length_take]; omega
  obtain ⟨h3, h4⟩ := leave_erase pos cs.length (text.take pos ++ cs ++ text.drop pos) x y (by simp only [List.length_append, List.length_take, List.length_drop]; omega)
  rw [leave_append, fitR_append, h1]
  refine ⟨?_, h2 hm, h4⟩
  rw [h3, List.append_assoc, List.take_left' htk, ← List.append_assoc, List.drop_left' (by rw [List.length_append, htk])]
  exact List.take_append_drop _ _
/-- replaced -/
theorem leave_replace (pos n : Nat) (cs text : List Int) (x y : Int) (hp : pos + n ≤ text.length) (hl : text.length + cs.length ≤ 1000000) (hm : ∀ c ∈ cs, May c) :
    leave (eraseL (pos : Int) n x y ++ typeL (pos : Int) cs x y) text = text.take pos ++ cs ++ text.drop (pos + n) ∧ FitR (eraseL (pos : Int) n x y ++ typeL (pos : Int) cs x y) text := by
  have htk : (text.take pos).length = pos := by rw [List.length_take]; omega
  obtain ⟨h3, h4⟩ := leave_erase pos n text x y hp
  obtain ⟨h1, h2⟩ := leave_type pos cs (text.take pos ++ text.drop (pos + n)) x y (by simp only [List.length_append, List.length_take, List.length_drop]; omega) (by simp only [List.length_append, List.length_take, List.length_drop]; omega)
  rw [leave_append, fitR_append, h3]
  refine ⟨?_, h4, h2 hm⟩
  rw [h1, List.take_left' htk, List.drop_left' htk]
end Pl
end Go.Proofs.Ytkgehgedbgogbaa
