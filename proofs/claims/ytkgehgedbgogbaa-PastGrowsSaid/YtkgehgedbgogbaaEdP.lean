/-
  Runs of a row of units in plain words, ahead of the code of layer 8: what follows what, the runs, their units back, of two rows behind each other. Nothing of a program is named here. Conditions: those that each lemma states.
-/
import Derived.Test.YtkgehgedbgogbaaWvP
namespace Go.Proofs.Ytkgehgedbgogbaa
open Go.RowKit
open Pl (Un)
namespace Pl
/-- v follows u -/
def Fol (u v : Un) : Prop := v.k = u.k ∧ v.x = u.x ∧ v.y = u.y ∧ u.k ≠ 0 ∧ v.p = (if u.k = 1 then wrap64 (u.p + 1) else u.p)
instance (u v : Un) : Decidable (Fol u v) := by unfold Fol; infer_instance
/-- a run -/
structure Rn where
  k : Int
  p : Int
  x : Int
  y : Int
  cs : List Int
deriving DecidableEq, Inhabited
def one (u : Un) : Rn := ⟨u.k, u.p, u.x, u.y, [u.c]⟩
def Rn.more (r : Rn) (t : List Int) : Rn := ⟨r.k, r.p, r.x, r.y, r.cs ++ t⟩
/-- one more char in the last run -/
def long (rs : List Rn) (c : Int) : List Rn := match rs.getLast? with
  | some r => rs.dropLast ++ [r.more [c]]
  | none => rs
/-- the runs behind one more unit; last: the unit ahead -/
def addR (last : Option Un) (rs : List Rn) (u : Un) : List Rn := match last with
  | some v => if Fol v u then long rs u.c else rs ++ [one u]
  | none => rs ++ [one u]
def runsF (last : Option Un) (rs : List Rn) : List Un → List Rn
  | [] => rs
  | u :: l => runsF (some u) (addR last rs u) l
/-- the runs of a row -/
def runs (l : List Un) : List Rn := runsF none [] l
theorem long_snoc (rs : List Rn) (r : Rn) (c : Int) : long (rs ++ [r]) c = rs ++ [r.more [c]] := by simp [long]
theorem runsF_append (last : Option Un) (rs : List Rn) (a b : List Un) : runsF last rs (a ++ b) = runsF ((a.getLast?).or last) (runsF last rs a) b := by
  induction a generalizing last rs with
  | nil => simp [runsF]
  | cons u a ih =>
    rw [List.cons_append, runsF, ih, runsF]
    cases a with
    | nil => simp
    | cons v a =>
      obtain ⟨z, hz⟩ : ∃ z, (v :: a).getLast? = some z := ⟨_, List.getLast?_eq_some_getLast (by simp)⟩
      rw [List.getLast?_cons_cons, hz]; rfl
theorem runs_snoc (l : List Un) (u : Un) : runs (l ++ [u]) = addR l.getLast? (runs l) u := by
  unfold runs
  rw [runsF_append]
  simp [runsF]
theorem runs_take (l : List Un) (j : Nat) (u : Un) (h : l[j]? = some u) : runs (l.take (j + 1)) = addR (l.take j).getLast? (runs (l.take j)) u := by
  rw [List.take_add_one, h]
  exact runs_snoc _ _
theorem addR_pre (pre : List Rn) (last : Option Un) (r : Rn) (u : Un) : ∃ t r', addR last [r] u = t ++ [r'] ∧ addR last (pre ++ [r]) u = (pre ++ t) ++ [r'] := by
  unfold addR
  cases last with
  | none => exact ⟨[r], one u, rfl, rfl⟩
  | some v =>
    simp only
    split
    · exact ⟨[], r.more [u.c], by simp [long], by rw [long_snoc]; simp⟩
    · exact ⟨[r], one u, rfl, rfl⟩
theorem runsF_pre (pre : List Rn) (l : List Un) : ∀ (last : Option Un) (t : List Rn) (r : Rn), runsF last (pre ++ (t ++ [r])) l = pre ++ runsF last (t ++ [r]) l := by
  induction l with
  | nil => intro last t r; rfl
  | cons u l ih =>
    intro last t r
    obtain ⟨t1, r1, _, h2⟩ := addR_pre (pre ++ t) last r u
    obtain ⟨t3, r3, h3, h4⟩ := addR_pre t last r u
    obtain ⟨t5, r5, h5, h6⟩ := addR_pre (pre ++ t) last r u
    rw [h3] at h5
    obtain ⟨rfl, h7⟩ := List.append_inj' h5 rfl
    obtain rfl : r3 = r5 := by simpa using h7
    rw [runsF, runsF, ← List.append_assoc, h6, h4, List.append_assoc, List.append_assoc, ← List.append_assoc t t3, ih]
/-- what comes behind a first run does not hang on it -/
theorem runsF_one (l : List Un) : ∀ last : Option Un, ∃ t rest, ∀ r : Rn, runsF last [r] l = r.more t :: rest := by
  induction l with
  | nil => exact fun last => ⟨[], [], fun r => by simp [runsF, Rn.more]⟩
  | cons u l ih =>
    intro last
    obtain ⟨t, rest, h⟩ := ih (some u)
    have hn : ∀ r : Rn, runsF (some u) ([r] ++ [one u]) l = r.more [] :: runsF (some u) [one u] l := fun r => by
      have := runsF_pre [r] l (some u) [] (one u)
      rw [List.nil_append] at this
      rw [this]
      simp [Rn.more]
    cases last with
    | none => exact ⟨[], runsF (some u) [one u] l, fun r => by rw [runsF]; exact hn r⟩
    | some v =>
      by_cases hf : Fol v u
      · refine ⟨[u.c] ++ t, rest, fun r => ?_⟩
        rw [runsF, addR]
        simp only [if_pos hf]
        rw [show long [r] u.c = [r.more [u.c]] from by simp [long], h]
        simp [Rn.more]
      · refine ⟨[], runsF (some u) [one u] l, fun r => ?_⟩
        rw [runsF, addR]
        simp only [if_neg hf]
        exact hn r
theorem runs_cons (u : Un) (l : List Un) : runs (u :: l) = runsF (some u) [one u] l := rfl
theorem runs_ne {l : List Un} (h : l ≠ []) : runs l ≠ [] := by
  cases l with
  | nil => exact absurd rfl h
  | cons u l =>
    obtain ⟨t, rest, h⟩ := runsF_one l (some u)
    rw [runs_cons, h]; simp
/-- of two rows, one behind the other -/
theorem runs_two (a b : List Un) (h : ∀ v u, a.getLast? = some v → b.head? = some u → ¬ Fol v u) : runs (a ++ b) = runs a ++ runs b := by
  cases b with
  | nil => simp [runs, runsF]
  | cons u b =>
    have e : runs (a ++ u :: b) = runsF (some u) (addR a.getLast? (runs a) u) b := by
      unfold runs; rw [runsF_append, runsF]; simp
    rw [e]
    have hadd : addR a.getLast? (runs a) u = runs a ++ [one u] := by
      unfold addR
      cases hl : a.getLast? with
      | none => rfl
      | some v => simp only; rw [if_neg (h v u hl rfl)]
    rw [hadd, runs_cons]
    have := runsF_pre (runs a) b (some u) [] (one u)
    rw [List.nil_append] at this
    exact this
/-- .. where the second goes on -/
theorem runs_join (a b : List Un) (v u : Un) (hl : a.getLast? = some v) (hf : Fol v u) : ∃ pre r t rest, runs a = pre ++ [r] ∧ runs (u :: b) = (one u).more t :: rest ∧ runs (a ++ u :: b) = pre ++ (r.more ([u.c] ++ t)) :: rest := by
  have hne : a ≠ [] := by rintro rfl; cases hl
  obtain ⟨pre, r, hp⟩ : ∃ pre r, runs a = pre ++ [r] := ⟨_, _, (List.dropLast_concat_getLast (runs_ne hne)).symm⟩
  obtain ⟨t, rest, h⟩ := runsF_one b (some u)
  refine ⟨pre, r, t, rest, hp, h (one u), ?_⟩
  have e : runs (a ++ u :: b) = runsF (some u) (addR a.getLast? (runs a) u) b := by
    unfold runs; rw [runsF_append, runsF]; simp
  rw [e, hl, addR]
  simp only [if_pos hf]
  rw [hp, long_snoc]
  have h2 := runsF_pre pre b (some u) [] (r.more [u.c])
  rw [List.nil_append] at h2
  rw [h2, h]
  simp [Rn.more]
theorem len_join (a b : List Un) : (runs (a ++ b)).length = (runs a).length + (runs b).length ∨ (runs (a ++ b)).length + 1 = (runs a).length + (runs b).length ∧ runs a ≠ [] ∧ runs b ≠ [] := by
  by_cases h : ∀ v u, a.getLast? = some v → b.head? = some u → ¬ Fol v u
  · exact Or.inl (by rw [runs_two a b h, List.length_append])
  · obtain ⟨v, u, hl, hh, hf⟩ : ∃ v u, a.getLast? = some v ∧ b.head? = some u ∧ Fol v u := by
      refine Classical.byContradiction fun hc => h fun v u h1 h2 h3 => hc ⟨v, u, h1, h2, h3⟩
    cases b with
    | nil => cases hh
    | cons u' b =>
      obtain rfl : u' = u := by simpa using hh
      obtain ⟨pre, r, t, rest, h1, h2, h3⟩ := runs_join a b v u' hl hf
      refine Or.inr ⟨?_, by rw [h1]; simp, by rw [h2]; simp⟩
      rw [h1, h2, h3]
      simp
      omega
/-! ### what runs hold -/
/-- where a run's i-th unit stands -/
def posAt (r : Rn) (i : Nat) : Int := if r.k = 1 then wrap64 (r.p + (i : Int)) else r.p
/-- a run's i-th unit -/
def unitAt (r : Rn) (i : Nat) : Un := if r.k = 0 then ⟨0, 0, 0, r.x, r.y⟩ else ⟨r.k, posAt r i, r.cs.getD i 0, r.x, r.y⟩
def unitsR (r : Rn) : List Un := (List.range r.cs.length).map (unitAt r)
/-- the units of runs -/
def rowR (rs : List Rn) : List Un := rs.flatMap unitsR
/-- how many chars -/
def sumR (rs : List Rn) : Nat := (rs.map (·.cs.length)).sum
/-- the unit v is the last one of run r -/
def Ends (r : Rn) (v : Un) : Prop := v.k = r.k ∧ v.x = r.x ∧ v.y = r.y ∧ 0 < r.cs.length ∧ (r.k = 0 → r.cs.length = 1) ∧ (r.k ≠ 0 → v.p = posAt r (r.cs.length - 1))
/-- run b follows run a -/
def RFol (a b : Rn) : Prop := b.k = a.k ∧ b.x = a.x ∧ b.y = a.y ∧ a.k ≠ 0 ∧ b.p = posAt a a.cs.length
/-- no run follows the one ahead -/
def Few : List Rn → Prop
  | a :: b :: rs => ¬ RFol a b ∧ Few (b :: rs)
  | _ => True
/-- each run has a char, a Nop's has one -/
def Full (rs : List Rn) : Prop := ∀ r ∈ rs, 0 < r.cs.length ∧ (r.k = 0 → r.cs.length = 1)
theorem wrap_in {a : Int} (h : I a) : wrap64 a = a := by have := h.out; unfold wrap64; omega
theorem wrap_I (a : Int) : I (wrap64 a) := I.mk (by unfold wrap64; omega)
theorem wrap_wrap (a b : Int) : wrap64 (wrap64 a + b) = wrap64 (a + b) := by unfold wrap64; omega
theorem one_ends {u : Un} (h : I u.p) : Ends (one u) u := by
  refine ⟨rfl, rfl, rfl, by simp [one], fun _ => rfl, fun _ => ?_⟩
  unfold posAt one
  simp only [List.length_cons, List.length_nil]
  split
  · rw [show ((0 + 1 - 1 : Nat) : Int) = 0 from rfl, Int.add_zero, wrap_in h]
  · rfl
theorem posAt_more (r : Rn) (t : List Int) (i : Nat) : posAt (r.more t) i = posAt r i := rfl
theorem posAt_next (r : Rn) (i : Nat) : posAt r (i + 1) = (if r.k = 1 then wrap64 (posAt r i + 1) else posAt r i) := by
  unfold posAt
  by_cases h : r.k = 1
  · rw [if_pos h, if_pos h, if_pos h, wrap_wrap]
    congr 1
    rw [Int.natCast_add, Int.add_assoc]; rfl
  · rw [if_neg h, if_neg h, if_neg h]
/-- u behind v, where v ends r -/
theorem fol_ends {r : Rn} {v u : Un} (h : Ends r v) : Fol v u ↔ u.k = r.k ∧ u.x = r.x ∧ u.y = r.y ∧ r.k ≠ 0 ∧ u.p = posAt r r.cs.length := by
  obtain ⟨h1, h2, h3, h4, _, h6⟩ := h
  obtain ⟨n, hn⟩ : ∃ n, r.cs.length = n + 1 := ⟨r.cs.length - 1, by omega⟩
  unfold Fol
  rw [h1, h2, h3, hn, posAt_next]
  rw [hn] at h6
  constructor
  · rintro ⟨a, b, c, d, e⟩
    exact ⟨a, b, c, d, by rw [e, h6 d]; rfl⟩
  · rintro ⟨a, b, c, d, e⟩
    exact ⟨a, b, c, d, by rw [e, h6 d]; rfl⟩
theorem more_ends {r : Rn} {v u : Un} (h : Ends r v) (hf : Fol v u) : Ends (r.more [u.c]) u := by
  obtain ⟨a, b, c, d, e⟩ := (fol_ends h).1 hf
  refine ⟨a, b, c, by simp [Rn.more], fun k0 => absurd k0 d, fun _ => ?_⟩
  rw [posAt_more, e]
  simp [Rn.more]
theorem few_more (pre : List Rn) (r : Rn) (t : List Int) : Few (pre ++ [r]) → Few (pre ++ [r.more t]) := by
  induction pre with
  | nil => exact fun _ => trivial
  | cons a pre ih =>
    cases pre with
    | nil => exact fun h => ⟨h.1, trivial⟩
    | cons b pre => exact fun h => ⟨h.1, ih h.2⟩
theorem few_snoc (pre : List Rn) (r s : Rn) : Few (pre ++ [r]) → ¬ RFol r s → Few ((pre ++ [r]) ++ [s]) := by
  induction pre with
  | nil => exact fun _ h => ⟨h, trivial⟩
  | cons a pre ih =>
    cases pre with
    | nil => exact fun h g => ⟨h.1, g, trivial⟩
    | cons b pre => exact fun h g => ⟨h.1, ih h.2 g⟩
theorem few_at {rs : List Rn} (h : Few rs) {i : Nat} (hi : i + 1 < rs.length) : ¬ RFol (rs.getD i default) (rs.getD (i + 1) default) := by
  induction rs generalizing i with
  | nil => simp at hi
  | cons a rs ih =>
    cases rs with
    | nil => simp at hi
    | cons b rs =>
      cases i with
      | zero => exact h.1
      | succ i => exact ih h.2 (by simpa using hi)
theorem row_append (a b : List Rn) : rowR (a ++ b) = rowR a ++ rowR b := by simp [rowR]
theorem row_one (r : Rn) : rowR [r] = unitsR r := by simp [rowR]
theorem units_more {r : Rn} {v u : Un} (h : Ends r v) (hf : Fol v u) : unitsR (r.more [u.c]) = unitsR r ++ [u] := by
  obtain ⟨a, b, c, d, e⟩ := (fol_ends h).1 hf
  unfold unitsR
  rw [show (r.more [u.c]).cs.length = r.cs.length + 1 by simp [Rn.more], List.range_succ, List.map_append]
  congr 1
  · refine List.map_congr_left fun i hi => ?_
    have hi' : i < r.cs.length := List.mem_range.1 hi
    unfold unitAt
    rw [show (r.more [u.c]).k = r.k from rfl, if_neg d, if_neg d, posAt_more]
    simp [Rn.more, List.getD_eq_getElem?_getD, List.getElem?_append_left hi']
  · simp only [List.map_cons, List.map_nil]
    unfold unitAt
    rw [show (r.more [u.c]).k = r.k from rfl, if_neg d, posAt_more, ← e]
    obtain ⟨k, p, ch, x, y⟩ := u
    simp only at a b c
    simp [Rn.more, a, b, c]
theorem units_one {u : Un} (hu : Okay u) (hp : I u.p) : unitsR (one u) = [u] := by
  obtain ⟨k, p, ch, x, y⟩ := u
  unfold unitsR
  simp only [one, List.length_cons, List.length_nil]
  rw [show List.range (0 + 1) = [0] from rfl]
  simp only [List.map_cons, List.map_nil, unitAt]
  rcases hu with ⟨h1, h2, h3⟩ | ⟨h1, h2, _⟩
  · simp only at h1 h2 h3
    subst h1; subst h2; subst h3
    rfl
  · simp only at h1 h2
    rw [if_neg (by omega)]
    unfold posAt
    simp only
    split
    · rw [show ((0 : Nat) : Int) = 0 from rfl, Int.add_zero, wrap_in hp]; rfl
    · rfl
theorem sum_append (a b : List Rn) : sumR (a ++ b) = sumR a + sumR b := by simp [sumR]
/-- all of it, unit by unit -/
theorem runs_inv (l : List Un) (h : ∀ u ∈ l, I u.p) : Few (runs l) ∧ Full (runs l) ∧ sumR (runs l) = l.length ∧ (runs l).length ≤ l.length ∧
    (∀ v, l.getLast? = some v → ∃ pre r, runs l = pre ++ [r] ∧ Ends r v) ∧ ((∀ u ∈ l, Okay u) → rowR (runs l) = l) := by
  obtain ⟨n, hn⟩ : ∃ n, n = l.length := ⟨_, rfl⟩
  induction n generalizing l with
  | zero =>
    obtain rfl : l = [] := List.eq_nil_of_length_eq_zero hn.symm
    exact ⟨trivial, (fun r hr => by cases hr), rfl, Nat.le_refl _, (fun v hv => by cases hv), fun _ => rfl⟩
  | succ n ih =>
    rcases List.eq_nil_or_concat l with rfl | ⟨a, u, rfl⟩
    · simp at hn
    · rw [List.concat_eq_append] at *
      obtain ⟨i1, i2, i3, i4, i5, i6⟩ := ih a (fun v hv => h v (List.mem_append_left _ hv)) (by simpa using hn)
      have hu := h u (by simp)
      rw [runs_snoc]
      unfold addR
      cases hl : a.getLast? with
      | none =>
        have ha : a = [] := List.getLast?_eq_none_iff.1 hl
        subst ha
        refine ⟨trivial, ?_, ?_, ?_, ?_, ?_⟩
        · intro r hr
          obtain rfl : r = one u := by simpa [runs, runsF] using hr
          exact ⟨by simp [one], fun _ => rfl⟩
        · simp [sumR, runs, runsF, one]
        · simp [runs, runsF]
        · intro v hv
          obtain rfl : u = v := by simpa using hv
          exact ⟨[], one u, rfl, one_ends hu⟩
        · intro ho
          show rowR ([] ++ [one u]) = [] ++ [u]
          rw [List.nil_append, List.nil_append, row_one, units_one (ho u (by simp)) hu]
      | some v =>
        obtain ⟨pre, r, hp, he⟩ := i5 v hl
        simp only
        by_cases hf : Fol v u
        · rw [if_pos hf, hp, long_snoc]
          rw [hp] at i1 i2 i3 i4 i6
          refine ⟨few_more _ _ _ i1, ?_, ?_, ?_, ?_, ?_⟩
          · intro s hs
            rcases List.mem_append.1 hs with hs | hs
            · exact i2 s (List.mem_append_left _ hs)
            · rw [List.mem_singleton.1 hs]
              exact ⟨(more_ends he hf).2.2.2.1, (more_ends he hf).2.2.2.2.1⟩
          · rw [sum_append] at i3 ⊢
            simp [sumR, Rn.more] at i3 ⊢
            omega
          · simp at i4 ⊢; omega
          · intro z hz
            obtain rfl : u = z := by simpa using hz
            exact ⟨pre, _, rfl, more_ends he hf⟩
          · intro ho
            have := i6 (fun z hz => ho z (List.mem_append_left _ hz))
            rw [row_append, row_one] at this ⊢
            rw [units_more he hf, ← List.append_assoc, this]
        · rw [if_neg hf]
          refine ⟨?_, ?_, ?_, ?_, ?_, ?_⟩
          · rw [hp] at i1 ⊢
            exact few_snoc _ _ _ i1 (fun g => hf ((fol_ends he).2 ⟨g.1, g.2.1, g.2.2.1, g.2.2.2.1, g.2.2.2.2⟩))
          · intro s hs
            rcases List.mem_append.1 hs with hs | hs
            · exact i2 s hs
            · rw [List.mem_singleton.1 hs]
              exact ⟨by simp [one], fun _ => rfl⟩
          · rw [sum_append, i3]; simp [sumR, one]
          · simp; omega
          · intro z hz
            obtain rfl : u = z := by simpa using hz
            exact ⟨runs a, _, rfl, one_ends hu⟩
          · intro ho
            rw [row_append, row_one, i6 (fun z hz => ho z (List.mem_append_left _ hz)), units_one (ho u (by simp)) hu]
end Pl
end Go.Proofs.Ytkgehgedbgogbaa
