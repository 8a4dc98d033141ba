/-
  What a range over a map of places has collected, in whatever order; the same, sorted; the map's laws at clients and places. Nothing of a program is named. Conditions: those that each states.
-/
import Derived.Test.YtjplchajopkpcaaMkP
namespace Go.Proofs.Ytjplchajopkpcaa
open Go.RowKit

namespace Pl
/-- what was collected: each entry that is no longer to come, once -/
structure Coll (M : Mks) (left : Lit → Bool) (Cs : Mks) : Prop where
  apart : Cs.Pairwise (fun a b => a.1 ≠ b.1)
  mem : ∀ p, p ∈ Cs ↔ p ∈ M ∧ left (.int .u32 p.1) = false
theorem coll_start {H : Type} (M : Mks) (hM : Rising M) : Coll M (Maps.has (dat M : DataW H)) [] :=
  ⟨List.Pairwise.nil, fun p => by
    rw [has_dat]
    constructor
    · intro h; cases h
    · rintro ⟨h1, h2⟩
      obtain ⟨c, v⟩ := p
      rw [(get_iff hM).2 h1] at h2
      cases h2⟩
theorem coll_step {M : Mks} {left : Lit → Bool} {Cs : Mks} (h : Coll M left Cs) (hM : Rising M) {x c : Int} (hl : left (.int .u32 x) = true) (hg : getM M x = some c) : Coll M (fun z => left z && !z.sameKey (.int .u32 x)) (Cs ++ [(x, c)]) := by
  have hx := (get_iff hM).1 hg
  refine ⟨?_, fun p => ?_⟩
  · rw [List.pairwise_append]
    refine ⟨h.apart, by simp, fun a ha b hb => ?_⟩
    rw [List.mem_singleton] at hb
    subst hb
    intro e
    have h2 := ((h.mem a).1 ha).2
    rw [e, hl] at h2
    cases h2
  · rw [List.mem_append, h.mem, List.mem_singleton, Bool.and_eq_false_iff, same_u32]
    obtain ⟨d, v⟩ := p
    constructor
    · rintro (⟨h1, h2⟩ | e)
      · exact ⟨h1, Or.inl h2⟩
      · cases e
        exact ⟨hx, Or.inr (by simp)⟩
    · rintro ⟨h1, h2 | h2⟩
      · exact Or.inl ⟨h1, h2⟩
      · have e : d = x := by simpa using h2
        subst e
        have := (get_iff hM).2 h1
        rw [hg] at this
        cases this
        exact Or.inr rfl
theorem coll_end {M : Mks} {left : Lit → Bool} {Cs : Mks} (h : Coll M left Cs) (hM : Rising M) (hl : ∀ k, left k = false) : Cs.Perm M := by
  have hn : ∀ {L : Mks}, L.Pairwise (fun a b => a.1 ≠ b.1) → L.Nodup := fun h => h.imp fun h e => h (by rw [e])
  refine (List.perm_ext_iff_of_nodup (hn h.apart) (hn (hM.imp fun h e => by omega))).2 fun p => ?_
  rw [h.mem]
  exact ⟨fun h => h.1, fun h => ⟨h, hl _⟩⟩
/-- sorted, it is the rising list -/
theorem sorted_is {M Cs : Mks} (hM : Rising M) (hp : Cs.Perm M) (hs : Cs.Pairwise (fun a b => ¬ b.1 < a.1)) : Cs = M := by
  have hn : Cs.Pairwise (fun a b => a.1 ≠ b.1) := (List.Perm.pairwise_iff (fun h => Ne.symm h) hp).2 (hM.imp fun h e => by omega)
  have hr : Rising Cs := (List.Pairwise.and hs hn).imp fun h => by omega
  exact mks_ext hr hM fun c => opt_ext fun v => by rw [get_iff hr, get_iff hM, hp.mem_iff]
end Pl
end Go.Proofs.Ytjplchajopkpcaa
