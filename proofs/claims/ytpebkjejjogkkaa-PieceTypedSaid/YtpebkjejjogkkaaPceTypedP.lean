/-
  PieceTyped in plain words: a text in which k code points stand, typed at one place; its pieces. Nothing of the program is named here. No conditions but those that each lemma states.
-/
import Derived.Test.YtpebkjejjogkkaaPceQ
namespace Go.Proofs.Ytpebkjejjogkkaa.pieceTyped
open Go.RowKit
open Pl (Pc Plc Tab)

def D (cs snd : List Int) (pos k : Nat) : Tab := ⟨cs, snd, Pl.places ⟨false, 0, pos⟩ ++ Pl.places ⟨true, 0, k⟩ ++ Pl.places ⟨false, pos, cs.length - pos⟩⟩
theorem D_start (cs : List Int) {pos : Nat} (h : pos ≤ cs.length) : Pl.fresh cs = D cs [] pos 0 := by
  unfold Pl.fresh D
  have e : Pl.places ⟨false, 0, cs.length⟩ = Pl.places ⟨false, 0, pos⟩ ++ Pl.places ⟨false, pos, cs.length - pos⟩ := by
    have := Pl.places_add false 0 pos (cs.length - pos)
    rw [Nat.zero_add, show pos + (cs.length - pos) = cs.length by omega] at this
    exact this
  rw [e, show Pl.places ⟨true, 0, 0⟩ = [] from rfl, List.append_nil]
theorem D_len (cs snd : List Int) {pos : Nat} (k : Nat) (h : pos ≤ cs.length) : (D cs snd pos k).L.length = cs.length + k := by
  unfold D
  simp only [List.length_append, Pl.len_places]
  omega
theorem D_ins (cs snd : List Int) {pos k : Nat} (c : Int) (hk : snd.length = k) (h : pos ≤ cs.length) : Pl.insT (D cs snd pos k) ((pos : Int) + (k : Int)) [c] = D cs (snd ++ [c]) pos (k + 1) ∧ Pl.reachE (D cs snd pos k).L.length ((pos : Int) + (k : Int)) 0 = 0 := by
  have h0 : Pl.reachE (D cs snd pos k).L.length ((pos : Int) + (k : Int)) 0 = 0 := by
    unfold Pl.reachE
    rw [if_neg (by rw [D_len cs snd k h]; omega)]
  refine ⟨?_, h0⟩
  unfold Pl.insT
  rw [if_pos h0, show ((pos : Int) + (k : Int)).toNat = pos + k by omega]
  have e1 : (D cs snd pos k).L.take (pos + k) = Pl.places ⟨false, 0, pos⟩ ++ Pl.places ⟨true, 0, k⟩ := by
    unfold D
    exact List.take_left' (by rw [List.length_append, Pl.len_places, Pl.len_places])
  have e2 : (D cs snd pos k).L.drop (pos + k) = Pl.places ⟨false, pos, cs.length - pos⟩ := by
    unfold D
    exact List.drop_left' (by rw [List.length_append, Pl.len_places, Pl.len_places])
  unfold Tab.ins
  rw [e1, e2]
  unfold D
  simp only [hk, List.length_singleton]
  rw [show Pl.places ⟨true, 0, k + 1⟩ = Pl.places ⟨true, 0, k⟩ ++ Pl.places ⟨true, k, 1⟩ by rw [Pl.places_add, Nat.zero_add]]
  simp only [List.append_assoc]
theorem D_del (cs snd : List Int) {pos k : Nat} (h : pos ≤ cs.length) : Pl.delT (D cs snd pos (k + 1)) ((pos : Int) + (k : Int)) 1 = D cs snd pos k ∧ Pl.reachE (D cs snd pos (k + 1)).L.length ((pos : Int) + (k : Int)) 1 = 0 := by
  have h0 : Pl.reachE (D cs snd pos (k + 1)).L.length ((pos : Int) + (k : Int)) 1 = 0 := by
    unfold Pl.reachE
    rw [if_neg (by rw [D_len cs snd (k + 1) h]; omega)]
  refine ⟨?_, h0⟩
  unfold Pl.delT
  rw [if_pos h0, show ((pos : Int) + (k : Int)).toNat = pos + k by omega, show (1 : Int).toNat = 1 from rfl]
  have e0 : (D cs snd pos (k + 1)).L = (Pl.places ⟨false, 0, pos⟩ ++ Pl.places ⟨true, 0, k⟩) ++ (Pl.places ⟨true, k, 1⟩ ++ Pl.places ⟨false, pos, cs.length - pos⟩) := by
    unfold D
    rw [show Pl.places ⟨true, 0, k + 1⟩ = Pl.places ⟨true, 0, k⟩ ++ Pl.places ⟨true, k, 1⟩ by rw [Pl.places_add, Nat.zero_add]]
    simp only [List.append_assoc]
  have e1 : (D cs snd pos (k + 1)).L.take (pos + k) = Pl.places ⟨false, 0, pos⟩ ++ Pl.places ⟨true, 0, k⟩ := by
    rw [e0]
    exact List.take_left' (by rw [List.length_append, Pl.len_places, Pl.len_places])
  have e2 : (D cs snd pos (k + 1)).L.drop (pos + k + 1) = Pl.places ⟨false, pos, cs.length - pos⟩ := by
    rw [e0, ← List.append_assoc]
    exact List.drop_left' (by rw [List.length_append, List.length_append, Pl.len_places, Pl.len_places, Pl.len_places])
  unfold Tab.del
  rw [e1, e2]
  rfl
/-- the pieces of the text with k typed -/
def G (n pos k : Nat) : List Pc := (if pos = 0 then [] else [⟨false, 0, pos⟩]) ++ [⟨true, 0, k⟩] ++ (if n - pos = 0 then [] else [⟨false, pos, n - pos⟩])
theorem nice2 {a b : Pc} (ha : 1 ≤ a.len) (hb : 1 ≤ b.len) (h : a.s ≠ b.s) : Pl.Nice [a, b] :=
  Pl.nice_snoc (i := [a]) (Pl.nice_snoc (i := []) Pl.nice_nil ha (fun j x e => by simp at e)) hb (fun j x e => by
    have := List.append_inj' (s₁ := []) (t₁ := [a]) e rfl
    simp at this
    rw [← this.2]; exact fun hf => h hf.1)
theorem nice1 {a : Pc} (ha : 1 ≤ a.len) : Pl.Nice [a] := Pl.nice_snoc (i := []) Pl.nice_nil ha (fun j x e => by simp at e)
theorem nice3 {a b c : Pc} (ha : 1 ≤ a.len) (hb : 1 ≤ b.len) (hc : 1 ≤ c.len) (h : a.s ≠ b.s) (h2 : b.s ≠ c.s) : Pl.Nice [a, b, c] :=
  Pl.nice_snoc (i := [a, b]) (nice2 ha hb h) hc (fun j x e => by
    have := List.append_inj' (s₁ := [a]) (t₁ := [b]) e rfl
    simp at this
    rw [← this.2]; exact fun hf => h2 hf.1)
theorem D_group (cs snd : List Int) {pos k : Nat} (hk : 1 ≤ k) (h : pos ≤ cs.length) : Pl.group (D cs snd pos k).L = G cs.length pos k := by
  have e : (D cs snd pos k).L = (G cs.length pos k).flatMap Pl.places := by
    unfold D G
    by_cases h1 : pos = 0 <;> by_cases h2 : cs.length - pos = 0
    · have h3 : cs = [] := List.eq_nil_of_length_eq_zero (by omega)
      subst h1 h3
      simp [Pl.places]
    · rw [if_pos h1, if_neg h2]; simp [h1, Pl.places]
    · rw [if_neg h1, if_pos h2]; simp [h2, Pl.places]
    · rw [if_neg h1, if_neg h2]; simp
  rw [e]
  refine Pl.group_same ?_
  unfold G
  by_cases h1 : pos = 0 <;> by_cases h2 : cs.length - pos = 0
  · rw [if_pos h1, if_pos h2]; exact nice1 hk
  · rw [if_pos h1, if_neg h2]; exact nice2 hk (by simp only; omega) (by simp)
  · rw [if_neg h1, if_pos h2]; exact nice2 (by simp only; omega) hk (by simp)
  · rw [if_neg h1, if_neg h2]; exact nice3 (by simp only; omega) hk (by simp only; omega) (by simp) (by simp)
theorem D_zero (cs snd : List Int) {pos : Nat} (h : pos ≤ cs.length) : (D cs snd pos 0).L = (Pl.fresh cs).L := by rw [D_start cs h]; rfl
/-- how many pieces are the second buffer's -/
def cnt (ps : List Pc) : Nat := (ps.filter (·.s)).length
theorem cnt_take (ps : List Pc) (i : Nat) (h : i < ps.length) : cnt (ps.take (i + 1)) = cnt (ps.take i) + (if (ps.getD i default).s = true then 1 else 0) := by
  rw [List.take_add_one, List.getElem?_eq_getElem h, List.getD_eq_getElem?_getD, List.getElem?_eq_getElem h]
  unfold cnt
  rw [List.filter_append, List.length_append]
  simp only [Option.toList_some, Option.getD_some]
  congr 1
  generalize ps[i] = x
  obtain ⟨s, a, l⟩ := x
  cases s <;> simp
theorem D_cnt (cs snd : List Int) {pos k : Nat} (h : pos ≤ cs.length) : cnt (Pl.group (D cs snd pos k).L) = min k 1 ∧ (Pl.group (D cs snd pos k).L).length ≤ 3 := by
  rcases Nat.eq_zero_or_pos k with h0 | h0
  · subst h0
    rw [D_zero cs snd h]
    rcases Nat.eq_zero_or_pos cs.length with h1 | h1
    · rw [fresh_nil h1]; exact ⟨rfl, by decide⟩
    · rw [fresh_one h1]; exact ⟨rfl, by simp⟩
  · rw [D_group cs snd h0 h, show min k 1 = 1 by omega]
    unfold G cnt
    by_cases h1 : pos = 0 <;> by_cases h2 : cs.length - pos = 0
    · rw [if_pos h1, if_pos h2]; exact ⟨rfl, by simp⟩
    · rw [if_pos h1, if_neg h2]; exact ⟨rfl, by simp⟩
    · rw [if_neg h1, if_pos h2]; exact ⟨rfl, by simp⟩
    · rw [if_neg h1, if_neg h2]; exact ⟨rfl, by simp⟩
theorem D_end (cs snd : List Int) {pos : Nat} (h : pos ≤ cs.length) : (D cs snd pos 0).text = cs ∧ (Pl.group (D cs snd pos 0).L).length = min cs.length 1 := by
  refine ⟨?_, ?_⟩
  · have e : (D cs snd pos 0).text = (Pl.places ⟨false, 0, cs.length⟩).map (D cs snd pos 0).look := by
      show List.map (D cs snd pos 0).look (D cs snd pos 0).L = _
      rw [D_zero cs snd h]; rfl
    rw [e, Pl.look_places_fst (D cs snd pos 0) ⟨false, 0, cs.length⟩ (by show 0 + cs.length ≤ cs.length; omega)]
    show (cs.drop 0).take cs.length = cs
    rw [List.drop_zero, List.take_length]
  · rw [D_zero cs snd h]
    rcases Nat.eq_zero_or_pos cs.length with h1 | h1
    · rw [fresh_nil h1, h1]; rfl
    · rw [fresh_one h1, show min cs.length 1 = 1 by omega]; rfl
end Go.Proofs.Ytpebkjejjogkkaa.pieceTyped
