/-
  A map of places that is ranged over while each place is laid, turned, into a new map: what the new map reads as, as a function of what is still to come. Conditions: those that each states.
-/
import Derived.Test.YtfjnliebgndemaaMkU
import Derived.Test.YtfjnliebgndemaaMkR
namespace Go.Proofs.Ytfjnliebgndemaa
open Go.RowKit
open Pl (Un)

namespace Pl
/-- those that are no longer to come, turned -/
def doneM (f : Int → Int) (left : Lit → Bool) (M : Mks) : Mks := goM f (M.filter fun q => !left (.int .u32 q.1))
theorem rising_done {M : Mks} (h : Rising M) (f : Int → Int) (left : Lit → Bool) : Rising (doneM f left M) := rising_go (List.Pairwise.filter _ h) f
theorem len_done (f : Int → Int) (left : Lit → Bool) (M : Mks) : (doneM f left M).length ≤ M.length := by
  unfold doneM goM
  rw [List.length_map]
  exact List.length_filter_le _ _
theorem get_done {M : Mks} (h : Rising M) (f : Int → Int) (left : Lit → Bool) (d : Int) : getM (doneM f left M) d = if left (.int .u32 d) then none else (getM M d).map f := by
  refine opt_ext fun z => ?_
  rw [get_iff (rising_done h f left)]
  unfold doneM goM
  rw [List.mem_map]
  constructor
  · rintro ⟨⟨a, v⟩, hm, e⟩
    cases e
    obtain ⟨h1, h2⟩ := List.mem_filter.1 hm
    have h3 : left (.int .u32 a) = false := by simpa using h2
    rw [h3, (get_iff h).2 h1]
    rfl
  · intro h1
    by_cases hl : left (.int .u32 d) = true
    · rw [if_pos hl] at h1
      cases h1
    · rw [if_neg hl, Option.map_eq_some_iff] at h1
      obtain ⟨v, hv, rfl⟩ := h1
      exact ⟨(d, v), List.mem_filter.2 ⟨(get_iff h).1 hv, by simpa using hl⟩, rfl⟩
theorem done_start {M : Mks} (h : Rising M) (f : Int → Int) : doneM f (Maps.has (dat M : DataW Unit)) M = [] := by
  refine mks_ext (rising_done h f _) rising_nil fun d => ?_
  rw [get_done h, has_dat]
  cases getM M d <;> rfl
theorem done_step {M : Mks} (h : Rising M) (f : Int → Int) {left : Lit → Bool} {x c : Int} (hg : getM M x = some c) : putM (doneM f left M) x (f c) = doneM f (fun z => left z && !z.sameKey (.int .u32 x)) M := by
  refine mks_ext (rising_put (rising_done h f left) x _) (rising_done h f _) fun d => ?_
  rw [get_put (rising_done h f left), get_done h, get_done h, same_u32]
  by_cases e : d = x
  · subst e
    rw [if_pos rfl, hg]
    simp
  · rw [if_neg e]
    have e2 : (d == x) = false := by simpa using e
    rw [e2]
    simp
theorem done_end {M : Mks} (f : Int → Int) {left : Lit → Bool} (hl : ∀ k, left k = false) : doneM f left M = goM f M := by
  unfold doneM
  rw [List.filter_eq_self.2 fun q _ => by rw [hl]; rfl]
theorem MkOk.go {N N1 : Int} {M : Mks} {f : Int → Int} (h : MkOk N M) (hf : ∀ v, 0 ≤ v → v ≤ N → 0 ≤ f v ∧ f v ≤ N1) (hN : 0 ≤ N1 ∧ N1 < 9223372036854775808) : MkOk N1 (goM f M) :=
  ⟨rising_go h.up f, fun q hq => by
    obtain ⟨y, hy, rfl⟩ := List.mem_map.1 hq
    exact h.key y hy, fun q hq => by
    obtain ⟨y, hy, rfl⟩ := List.mem_map.1 hq
    exact hf _ (h.place y hy).1 (h.place y hy).2, hN⟩
end Pl
theorem at_get {M : Pl.Mks} {x c : Int} (h : ∀ zd, (dat M : DataW Unit).atKey (.int .u32 x) zd = .lit (.int .i64 c)) : Pl.getM M x = some c := by
  have h1 := h (.agg [])
  rw [at_dat] at h1
  cases hg : Pl.getM M x with
  | none => rw [hg] at h1; simp at h1
  | some v =>
    rw [hg] at h1
    simp at h1
    rw [h1]
/-- a range under way stays where nothing of its map, nor its own block, turns -/
theorem ranges_tn {w w' : World} {b r n cnt : Nat} {M : Pl.Mks} {left : Lit → Bool} {T : Nat → Prop} (h : w.ranges Try.prog 32 (plainElem (H := Unit) Try.prog 3) b r n (dat M) left cnt) (ht : Tn T w w') (hb : ¬ T b) (hr : ¬ T r) :
    w'.ranges Try.prog 32 (plainElem (H := Unit) Try.prog 3) b r n (dat M) left cnt := by
  obtain ⟨es, clock, since, seen, c0, h1, F, hs, hD, h2, rest⟩ := h
  exact ⟨es, clock, since, seen, c0, ht.old h1 hb, F, hs, hD, ht.old h2 hr, rest⟩
theorem turned_tn {w w' : World} {b : Nat} (hm : w.mapTurned w' b) : Tn (fun i => i = b) w w' := by
  obtain ⟨es, clock, es', clock', h1, rfl⟩ := hm
  exact ⟨rfl, rfl, rfl, by simp [Go.ChangeMaps.setBlock], fun i _ hi => Go.ChangeMaps.heap_setBlock_other h1 _ hi⟩
/-- a place that a range has come to is laid, turned, into the new map -/
theorem stepM {w : World} {b : Nat} {M : Pl.Mks} {f : Int → Int} {left left0 : Lit → Bool} {x c : Int}
    (h : w.ownsMap Try.prog 32 (plainElem (H := Unit) Try.prog 3) b (Pl.doneM f left0 M).length (dat (Pl.doneM f left0 M))) (hM : Pl.Rising M) (hn : M.length < maxLen) (hx : 0 ≤ x ∧ x < 4294967296) (hg : Pl.getM M x = some c) (hv : 0 ≤ f c ∧ f c < 9223372036854775808)
    (hl : left = fun z => left0 z && !z.sameKey (.int .u32 x)) :
    ∃ w', (Instr.mapUpdate 63 (.map (some b)) (.int .u32 x) (.int .i64 (f c))).run Try.prog w = .ok () w' ∧ w'.ownsMap Try.prog 32 (plainElem (H := Unit) Try.prog 3) b (Pl.doneM f left M).length (dat (Pl.doneM f left M)) ∧ Tn (fun i => i = b) w w' := by
  obtain ⟨w', hrun, r1, r2⟩ := h.store keyedC Try.underlying63 (Nat.lt_of_le_of_lt (Pl.len_done f left0 M) hn) (keyC hx) (readP hv)
  rw [put_dat, Pl.done_step hM f hg, ← hl] at r1
  exact ⟨w', hrun, own_tight r1, turned_tn r2⟩
/-- the length and the new map are laid down -/
theorem MarksW.relaid {w : World} {p b b2 : Nat} {N N1 : Int} {M : Pl.Mks} (h : MarksW w p b N M) (h2 : p ≠ b2) {M2 : Pl.Mks} (ho : w.ownsMap Try.prog 32 (plainElem (H := Unit) Try.prog 3) b2 M2.length (dat M2)) (hok : Pl.MkOk N1 M2) :
    MarksW ((w.setCell ⟨p, 0, none⟩ (.int .i64 N1)).setCell ⟨p, 1, none⟩ (.map (some b2))) p b2 N1 M2 ∧ Tn (fun i => i = p) w ((w.setCell ⟨p, 0, none⟩ (.int .i64 N1)).setCell ⟨p, 1, none⟩ (.map (some b2))) :=
  ⟨⟨blk_set (i := 1) (blk_set (i := 0) h.blk _) _, (ho.setCell (fun e => h2 e.symm) _).setCell (fun e => h2 e.symm) _, hok⟩, ((Tn.refl (fun i => i = p) w).set_ (p := ⟨p, 0, none⟩) (Or.inr rfl) _).set_ (p := ⟨p, 1, none⟩) (Or.inr rfl) _⟩
end Go.Proofs.Ytfjnliebgndemaa
