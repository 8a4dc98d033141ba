/-
  Places by clients in plain words (a rising list), and as a map's datum; a map from clients to places in memory. Nothing of a program is named: the types' numbers are left open. Conditions: those that each states.
-/
import Derived.Test.YtjplchajopkpcaaPceM
import Derived.Maps.OwnSet
import Derived.Maps.OwnOps
import Derived.Maps.Ext
import Derived.Maps.RangeWalk
namespace Go.Proofs.Ytjplchajopkpcaa
open Go.RowKit

namespace Pl
/-- clients and their places -/
abbrev Mks := List (Int × Int)
def Rising (M : Mks) : Prop := M.Pairwise (fun a b => a.1 < b.1)
def getM (M : Mks) (c : Int) : Option Int := (M.find? (fun p => p.1 == c)).map (·.2)
def delM (M : Mks) (c : Int) : Mks := M.filter (fun p => !(p.1 == c))
def insM (x : Int × Int) : Mks → Mks
  | [] => [x]
  | y :: r => if x.1 < y.1 then x :: y :: r else y :: insM x r
def putM (M : Mks) (c v : Int) : Mks := insM (c, v) (delM M c)
def goM (f : Int → Int) (M : Mks) : Mks := M.map (fun p => (p.1, f p.2))
theorem mem_ins {x p : Int × Int} : ∀ {M : Mks}, p ∈ insM x M ↔ p = x ∨ p ∈ M
  | [] => by simp [insM]
  | y :: r => by
    unfold insM
    split
    · simp
    · simp only [List.mem_cons, mem_ins (M := r)]
      constructor
      · rintro (h | h | h) <;> simp [h]
      · rintro (h | h | h) <;> simp [h]
theorem mem_del {M : Mks} {c : Int} {p : Int × Int} : p ∈ delM M c ↔ p ∈ M ∧ p.1 ≠ c := by simp [delM]
theorem rising_del {M : Mks} (h : Rising M) (c : Int) : Rising (delM M c) := List.Pairwise.filter _ h
theorem rising_ins {x : Int × Int} : ∀ {M : Mks}, Rising M → (∀ p ∈ M, p.1 ≠ x.1) → Rising (insM x M)
  | [], _, _ => by simp [insM, Rising]
  | y :: r, h, hn => by
    have h1 := List.pairwise_cons.1 h
    unfold insM
    split
    · rename_i hxy
      refine List.pairwise_cons.2 ⟨fun p hp => ?_, h⟩
      rcases List.mem_cons.1 hp with rfl | hp
      · exact hxy
      · have := h1.1 p hp; omega
    · rename_i hxy
      refine List.pairwise_cons.2 ⟨fun p hp => ?_, rising_ins h1.2 (fun p hp => hn p (List.mem_cons_of_mem _ hp))⟩
      rcases mem_ins.1 hp with rfl | hp
      · have := hn y (List.mem_cons_self ..); omega
      · exact h1.1 p hp
theorem rising_put {M : Mks} (h : Rising M) (c v : Int) : Rising (putM M c v) := rising_ins (rising_del h c) (fun _ hp => (mem_del.1 hp).2)
theorem rising_go {M : Mks} (h : Rising M) (f : Int → Int) : Rising (goM f M) := by
  unfold goM Rising
  rw [List.pairwise_map]
  exact h
theorem rising_nil : Rising [] := List.Pairwise.nil
/-- whoever is there once -/
theorem get_iff {M : Mks} (h : Rising M) {c v : Int} : getM M c = some v ↔ (c, v) ∈ M := by
  induction M with
  | nil => simp [getM]
  | cons y r ih =>
    have h1 := List.pairwise_cons.1 h
    obtain ⟨a, x⟩ := y
    unfold getM at ih ⊢
    rw [List.find?_cons]
    by_cases e : a = c
    · subst e
      simp only [beq_self_eq_true, Option.map_some, Option.some.injEq, List.mem_cons, Prod.mk.injEq, true_and]
      constructor
      · intro h; exact Or.inl h.symm
      · rintro (h2 | h2)
        · exact h2.symm
        · have := h1.1 _ h2; simp at this
    · have e2 : (a == c) = false := by simpa using e
      simp only [e2, List.mem_cons, Prod.mk.injEq]
      rw [ih h1.2]
      constructor
      · intro h; exact Or.inr h
      · rintro (⟨h2, _⟩ | h2)
        · exact absurd h2.symm e
        · exact h2
theorem get_none {M : Mks} {c : Int} : getM M c = none ↔ ∀ p ∈ M, p.1 ≠ c := by
  unfold getM
  rw [Option.map_eq_none_iff, List.find?_eq_none]
  simp
theorem opt_ext {a b : Option Int} (h : ∀ v, a = some v ↔ b = some v) : a = b := by
  cases a with
  | none =>
    cases b with
    | none => rfl
    | some y => exact absurd ((h y).2 rfl) (by simp)
  | some x => exact ((h x).1 rfl).symm
theorem get_put {M : Mks} (h : Rising M) (c v d : Int) : getM (putM M c v) d = if d = c then some v else getM M d := by
  refine opt_ext fun z => ?_
  rw [get_iff (rising_put h c v)]
  unfold putM
  rw [mem_ins, mem_del, Prod.mk.injEq]
  split
  · rename_i e
    subst e
    constructor
    · rintro (⟨_, h2⟩ | ⟨_, h2⟩)
      · rw [h2]
      · exact absurd rfl h2
    · intro h2; exact Or.inl ⟨rfl, (Option.some.inj h2).symm⟩
  · rename_i e
    rw [get_iff h]
    constructor
    · rintro (⟨h2, _⟩ | ⟨h2, _⟩)
      · exact absurd h2 e
      · exact h2
    · intro h2; exact Or.inr ⟨h2, e⟩
theorem get_del {M : Mks} (h : Rising M) (c d : Int) : getM (delM M c) d = if d = c then none else getM M d := by
  refine opt_ext fun z => ?_
  rw [get_iff (rising_del h c), mem_del]
  split
  · rename_i e
    subst e
    simp
  · rename_i e
    rw [get_iff h]
    exact ⟨fun h2 => h2.1, fun h2 => ⟨h2, e⟩⟩
theorem get_go {M : Mks} (f : Int → Int) (d : Int) : getM (goM f M) d = (getM M d).map f := by
  unfold getM goM
  rw [List.find?_map, Option.map_map, Option.map_map]
  rfl
/-- two that say the same of each client are one -/
theorem mks_ext {M N : Mks} (hM : Rising M) (hN : Rising N) (h : ∀ c, getM M c = getM N c) : M = N := by
  have hp : ∀ p, p ∈ M ↔ p ∈ N := fun p => by
    obtain ⟨c, v⟩ := p
    rw [← get_iff hM, ← get_iff hN, h c]
  induction M generalizing N with
  | nil =>
    cases N with
    | nil => rfl
    | cons y r => exact absurd ((hp y).2 (List.mem_cons_self ..)) (by simp)
  | cons x r ih =>
    cases N with
    | nil => exact absurd ((hp x).1 (List.mem_cons_self ..)) (by simp)
    | cons y s =>
      have h1 := List.pairwise_cons.1 hM
      have h2 := List.pairwise_cons.1 hN
      have e : x = y := by
        rcases List.mem_cons.1 ((hp x).1 (List.mem_cons_self ..)) with e | hx
        · exact e
        · rcases List.mem_cons.1 ((hp y).2 (List.mem_cons_self ..)) with e | hy
          · exact e.symm
          · have := h1.1 y hy; have := h2.1 x hx; omega
      subst e
      congr 1
      refine ih h1.2 h2.2 (fun c => ?_) (fun p => ?_)
      · refine opt_ext fun v => ?_
        rw [get_iff h1.2, get_iff h2.2]
        constructor
        · intro hr
          rcases List.mem_cons.1 ((hp (c, v)).1 (List.mem_cons_of_mem _ hr)) with e | hs
          · rw [← e] at h1; exact absurd (h1.1 _ hr) (by simp)
          · exact hs
        · intro hs
          rcases List.mem_cons.1 ((hp (c, v)).2 (List.mem_cons_of_mem _ hs)) with e | hr
          · rw [← e] at h2; exact absurd (h2.1 _ hs) (by simp)
          · exact hr
      · constructor
        · intro hr
          rcases List.mem_cons.1 ((hp p).1 (List.mem_cons_of_mem _ hr)) with e | hs
          · subst e; exact absurd (h1.1 _ hr) (by omega)
          · exact hs
        · intro hs
          rcases List.mem_cons.1 ((hp p).2 (List.mem_cons_of_mem _ hs)) with e | hr
          · subst e; exact absurd (h2.1 _ hs) (by omega)
          · exact hr
end Pl
section
variable {H : Type}
/-- as a map's datum -/
def ent (p : Int × Int) : Lit × DataW H := (Lit.int .u32 p.1, DataW.lit (Lit.int .i64 p.2))
def dat (M : Pl.Mks) : DataW H := .map (M.map ent)
theorem dat_nil : (dat [] : DataW H) = .map [] := rfl
theorem same_u32 (a c : Int) : (Lit.int .u32 a).sameKey (Lit.int .u32 c) = (a == c) := by
  unfold Lit.sameKey
  rw [Bool.eq_iff_iff, decide_eq_true_iff, beq_iff_eq]
  simp
theorem before_u32 (a c : Int) : (Lit.int .u32 a).before (Lit.int .u32 c) = decide (a < c) := rfl
theorem find_dat (M : Pl.Mks) (c : Int) : (M.map (ent (H := H))).find? (fun p => p.1.sameKey (.int .u32 c)) = (M.find? (fun p => p.1 == c)).map ent := by
  rw [List.find?_map]
  congr 2
  funext p
  exact same_u32 p.1 c
theorem has_dat (M : Pl.Mks) (c : Int) : Maps.has (dat M : DataW H) (.int .u32 c) = (Pl.getM M c).isSome := by
  unfold dat Pl.getM
  rw [Maps.has_eq, Option.isSome_map]
  induction M with
  | nil => rfl
  | cons y r ih =>
    rw [List.map_cons, List.any_cons, ih, List.find?_cons]
    have e : (ent (H := H) y).1.sameKey (.int .u32 c) = (y.1 == c) := same_u32 y.1 c
    rw [e]
    cases h : (y.1 == c) <;> simp
theorem at_dat (M : Pl.Mks) (c : Int) (z : DataW H) : (dat M).atKey (.int .u32 c) z = ((Pl.getM M c).map fun v => DataW.lit (Lit.int .i64 v)).getD z := by
  unfold dat DataW.atKey Pl.getM
  simp only
  rw [find_dat, Option.map_map]
  cases M.find? (fun p => p.1 == c) <;> rfl
theorem del_dat (M : Pl.Mks) (c : Int) : (dat M : DataW H).del (.int .u32 c) = dat (Pl.delM M c) := by
  unfold dat DataW.del Pl.delM
  simp only
  rw [List.filter_map]
  congr 3
  funext p
  show (!(Lit.int .u32 p.1).sameKey (.int .u32 c)) = _
  rw [same_u32]
theorem ins_dat (x : Int × Int) : ∀ M : Pl.Mks, DataW.insert (ent (H := H) x) (M.map ent) = (Pl.insM x M).map ent
  | [] => rfl
  | y :: r => by
    rw [List.map_cons]
    unfold DataW.insert Pl.insM
    have e : (ent (H := H) x).1.before (ent (H := H) y).1 = decide (x.1 < y.1) := before_u32 x.1 y.1
    rw [e, ins_dat x r]
    by_cases h : x.1 < y.1
    · rw [decide_eq_true h, if_pos rfl, if_pos h]; rfl
    · rw [decide_eq_false h, if_neg (by simp), if_neg h]; rfl
theorem put_dat (M : Pl.Mks) (c v : Int) : (dat M : DataW H).put (.int .u32 c) (.lit (.int .i64 v)) = dat (Pl.putM M c v) := by
  have h := del_dat (H := H) M c
  unfold dat DataW.del at h
  simp only [DataW.map.injEq] at h
  unfold dat DataW.put Pl.putM
  simp only
  rw [h]
  exact congrArg _ (ins_dat (c, v) (Pl.delM M c))
theorem size_dat (M : Pl.Mks) : Maps.size (dat M : DataW H) = M.length := by
  unfold dat
  rw [Maps.size_eq, List.length_map]
end
end Go.Proofs.Ytjplchajopkpcaa
