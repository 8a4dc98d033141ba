/-
  Leases in plain words (clients and ticks, a rising list: MkP's words): where a client stands, one laid in its place, who is there, many made; as a map's datum at uint64. Nothing of a program is named. Conditions: those that each states.
-/
import Derived.Test.YtjplchajopkpcaaMkQ
namespace Go.Proofs.Ytjplchajopkpcaa
open Go.RowKit

namespace Pl
/-- the first that has this client -/
theorem idx_cases (L : Mks) (c : Int) : (∀ p ∈ L, p.1 ≠ c) ∨ ∃ i, i < L.length ∧ (L.getD i default).1 = c ∧ ∀ j, j < i → (L.getD j default).1 ≠ c := by
  induction L with
  | nil => exact .inl (by simp)
  | cons y r ih =>
    by_cases e : y.1 = c
    · exact .inr ⟨0, by simp, e, fun j hj => absurd hj (Nat.not_lt_zero _)⟩
    · rcases ih with h | ⟨i, h1, h2, h3⟩
      · exact .inl fun p hp => by
          rcases List.mem_cons.1 hp with rfl | hp
          · exact e
          · exact h p hp
      · refine .inr ⟨i + 1, by simpa using h1, h2, fun j hj => ?_⟩
        cases j with
        | zero => exact e
        | succ j => exact h3 j (by omega)
theorem getD_mem {L : Mks} {i : Nat} (h : i < L.length) : L.getD i default ∈ L := by
  rw [List.getD_eq_getElem?_getD, List.getElem?_eq_getElem h]
  exact List.getElem_mem _
theorem idx_get {L : Mks} (h : Rising L) {i : Nat} (hi : i < L.length) : getM L (L.getD i default).1 = some (L.getD i default).2 := (get_iff h).2 (getD_mem hi)
/-- one laid in its place, as the loop does it -/
def layL (x : Int × Int) : Mks → Bool → Mks
  | [], d => if d then [] else [x]
  | y :: r, d => if y.1 = x.1 then layL x r d else if d = false ∧ x.1 < y.1 then x :: y :: layL x r true else y :: layL x r d
theorem lay_done (x : Int × Int) : ∀ L : Mks, layL x L true = delM L x.1
  | [] => rfl
  | y :: r => by
    unfold layL delM
    rw [List.filter_cons]
    by_cases e : y.1 = x.1
    · rw [if_pos e, lay_done x r]
      have e2 : (!(y.1 == x.1)) = false := by simpa using e
      rw [e2]
      rfl
    · rw [if_neg e, if_neg (by simp), lay_done x r]
      have e2 : (!(y.1 == x.1)) = true := by simpa using e
      rw [e2]
      rfl
theorem lay_put (x : Int × Int) : ∀ L : Mks, layL x L false = putM L x.1 x.2
  | [] => rfl
  | y :: r => by
    unfold layL putM delM
    rw [List.filter_cons]
    by_cases e : y.1 = x.1
    · rw [if_pos e, lay_put x r]
      have e2 : (!(y.1 == x.1)) = false := by simpa using e
      rw [e2]
      rfl
    · have e2 : (!(y.1 == x.1)) = true := by simpa using e
      rw [if_neg e, e2, if_pos rfl]
      show _ = insM (x.1, x.2) (y :: delM r x.1)
      unfold insM
      by_cases h : x.1 < y.1
      · rw [if_pos ⟨rfl, h⟩, if_pos h, lay_done]
      · rw [if_neg (fun hh => h hh.2), if_neg h, lay_put x r]
        rfl
/-- is this one there? -/
def liveM (L : Mks) (x now : Int) : Bool := match getM L x with | some v => decide (now < v) | none => false
theorem live_some {L : Mks} {x v : Int} (h : getM L x = some v) (now : Int) : liveM L x now = decide (now < v) := by unfold liveM; rw [h]
theorem live_none {L : Mks} {x : Int} (h : getM L x = none) (now : Int) : liveM L x now = false := by unfold liveM; rw [h]
/-- who is there, or is not -/
def whichM (live : Bool) (now : Int) (L : Mks) : List Int := (L.filter fun p => decide (now < p.2) == live).map (·.1)
/-- those that are -/
def thereM (now : Int) (L : Mks) : Mks := L.filter fun p => decide (now < p.2)
theorem rising_there {L : Mks} (h : Rising L) (now : Int) : Rising (thereM now L) := List.Pairwise.filter _ h
/-- each of some taken away -/
def dropsM (L : Mks) (cs : List Int) : Mks := cs.foldl delM L
theorem drops_mem (cs : List Int) : ∀ (L : Mks) (p : Int × Int), p ∈ dropsM L cs ↔ p ∈ L ∧ p.1 ∉ cs := by
  induction cs with
  | nil => intro L p; simp [dropsM]
  | cons c r ih =>
    intro L p
    show p ∈ dropsM (delM L c) r ↔ _
    rw [ih, mem_del, List.mem_cons]
    constructor
    · rintro ⟨⟨h1, h2⟩, h3⟩; exact ⟨h1, fun h => h.elim h2 h3⟩
    · rintro ⟨h1, h2⟩; exact ⟨⟨h1, fun h => h2 (.inl h)⟩, fun h => h2 (.inr h)⟩
theorem rising_drops (cs : List Int) : ∀ {L : Mks}, Rising L → Rising (dropsM L cs) := by
  induction cs with
  | nil => intro L h; exact h
  | cons c r ih => intro L h; exact ih (rising_del h c)
theorem rising_mem_ext {M N : Mks} (hM : Rising M) (hN : Rising N) (h : ∀ p, p ∈ M ↔ p ∈ N) : M = N :=
  mks_ext hM hN fun c => opt_ext fun v => by rw [get_iff hM, get_iff hN]; exact h (c, v)
/-- those that are not there taken away, those that are there are left -/
theorem drops_which {L : Mks} (h : Rising L) (now : Int) : dropsM L (whichM false now L) = thereM now L := by
  refine rising_mem_ext (rising_drops _ h) (rising_there h now) fun p => ?_
  unfold thereM
  rw [drops_mem, List.mem_filter]
  refine ⟨fun ⟨h1, h2⟩ => ⟨h1, ?_⟩, fun ⟨h1, h2⟩ => ⟨h1, fun h3 => ?_⟩⟩
  · cases hd : decide (now < p.2) with
    | true => rfl
    | false =>
      refine absurd (List.mem_map.2 ⟨p, List.mem_filter.2 ⟨h1, ?_⟩, rfl⟩) h2
      rw [hd]
      rfl
  · obtain ⟨q, hq, e⟩ := List.mem_map.1 h3
    obtain ⟨g1, g2⟩ := List.mem_filter.1 hq
    have e2 : q = p := by
      have a1 := (get_iff h).2 (show (q.1, q.2) ∈ L from g1)
      have a2 := (get_iff h).2 (show (p.1, p.2) ∈ L from h1)
      rw [e, a2] at a1
      exact Prod.ext e (Option.some.inj a1).symm
    subst e2
    rw [h2] at g2
    cases g2
/-- set: what is told, and what is left -/
def tickM (L : Mks) (x now : Int) : Int := match getM L x with | some u => if now + 64 < u then u else now + 64 | none => now + 64
def setL (L : Mks) (x now : Int) : Int × Mks := if 1099511627776 < now then (1, L) else if getM L x = none ∧ 16 ≤ L.length then (7, L) else (0, putM L x (tickM L x now))
theorem setL_late {L : Mks} {x now : Int} (h : 1099511627776 < now) : setL L x now = (1, L) := if_pos h
theorem setL_full {L : Mks} {x now : Int} (h : ¬ 1099511627776 < now) (h1 : getM L x = none) (h2 : 16 ≤ L.length) : setL L x now = (7, L) := by unfold setL; rw [if_neg h, if_pos ⟨h1, h2⟩]
theorem setL_new {L : Mks} {x now : Int} (h : ¬ 1099511627776 < now) (h1 : getM L x = none) (h2 : ¬ 16 ≤ L.length) : setL L x now = (0, putM L x (now + 64)) := by
  unfold setL tickM
  rw [if_neg h, if_neg (fun hh => h2 hh.2), h1]
theorem setL_old {L : Mks} {x now u : Int} (h : ¬ 1099511627776 < now) (h1 : getM L x = some u) : setL L x now = (0, putM L x (if now + 64 < u then u else now + 64)) := by
  unfold setL tickM
  rw [if_neg h, if_neg (fun hh => by rw [h1] at hh; cases hh.1), h1]
/-- dropped: what is told, and what is left -/
def dropL (L : Mks) (x : Int) : Int × Mks := if getM L x = none then (6, L) else (0, delM L x)
theorem del_at {L : Mks} (h : Rising L) {i : Nat} (hi : i < L.length) : delM L (L.getD i default).1 = L.take i ++ L.drop (i + 1) := by
  have hs := (List.take_append_drop i L).symm
  have hd : L.drop i = L.getD i default :: L.drop (i + 1) := by
    rw [List.drop_eq_getElem_cons hi, List.getD_eq_getElem?_getD, List.getElem?_eq_getElem hi]
    rfl
  rw [hd] at hs
  obtain ⟨y, hy⟩ : ∃ y, y = L.getD i default := ⟨_, rfl⟩
  rw [← hy] at hs ⊢
  have hr := h
  unfold Rising at hr
  rw [hs, List.pairwise_append] at hr
  obtain ⟨_, h2, h3⟩ := hr
  have h2 := (List.pairwise_cons.1 h2).1
  unfold delM
  conv => lhs; rw [hs]
  rw [List.filter_append, List.filter_cons]
  have e : (!(y.1 == y.1)) = false := by simp
  rw [e]
  congr 1
  · exact List.filter_eq_self.2 fun p hp => by
      have := h3 p hp y (List.mem_cons_self ..)
      have e : (p.1 == y.1) = false := by rw [beq_eq_false_iff_ne]; omega
      rw [e]; rfl
  · exact List.filter_eq_self.2 fun p hp => by
      have := h2 p hp
      have e : (p.1 == y.1) = false := by rw [beq_eq_false_iff_ne]; omega
      rw [e]; rfl
/-- many made, one by one: the error, and what was made till then -/
def makeM : Mks → Mks → Int × Mks
  | [], M => (0, M)
  | y :: r, M => if (getM M y.1).isSome = true ∨ 1099511627840 < y.2 then (1, M) else makeM r (putM M y.1 y.2)
theorem rising_make : ∀ (l : Mks) {M : Mks}, Rising M → Rising (makeM l M).2
  | [], _, h => h
  | y :: r, M, h => by
    unfold makeM
    split
    · exact h
    · exact rising_make r (rising_put h _ _)
theorem len_del_le (M : Mks) (c : Int) : (delM M c).length ≤ M.length := List.length_filter_le _ _
theorem len_ins (x : Int × Int) : ∀ M : Mks, (insM x M).length = M.length + 1
  | [] => rfl
  | y :: r => by
    unfold insM
    split
    · rfl
    · rw [List.length_cons, len_ins x r, List.length_cons]
theorem len_put_le (M : Mks) (c v : Int) : (putM M c v).length ≤ M.length + 1 := by
  unfold putM
  rw [len_ins]
  have := len_del_le M c
  omega
end Pl
section
variable {H : Type}
/-- as a map's datum, ticks -/
def entL (p : Int × Int) : Lit × DataW H := (Lit.int .u32 p.1, DataW.lit (Lit.int .u64 p.2))
def datL (M : Pl.Mks) : DataW H := .map (M.map entL)
theorem datL_nil : (datL [] : DataW H) = .map [] := rfl
theorem findL_dat (M : Pl.Mks) (c : Int) : (M.map (entL (H := H))).find? (fun p => p.1.sameKey (.int .u32 c)) = (M.find? (fun p => p.1 == c)).map entL := by
  rw [List.find?_map]
  congr 2
  funext p
  exact same_u32 p.1 c
theorem hasL_dat (M : Pl.Mks) (c : Int) : Maps.has (datL M : DataW H) (.int .u32 c) = (Pl.getM M c).isSome := by
  unfold datL Pl.getM
  rw [Maps.has_eq, Option.isSome_map]
  induction M with
  | nil => rfl
  | cons y r ih =>
    rw [List.map_cons, List.any_cons, ih, List.find?_cons]
    have e : (entL (H := H) y).1.sameKey (.int .u32 c) = (y.1 == c) := same_u32 y.1 c
    rw [e]
    cases h : (y.1 == c) <;> simp
theorem atL_dat (M : Pl.Mks) (c : Int) (z : DataW H) : (datL M).atKey (.int .u32 c) z = ((Pl.getM M c).map fun v => DataW.lit (Lit.int .u64 v)).getD z := by
  unfold datL DataW.atKey Pl.getM
  simp only
  rw [findL_dat, Option.map_map]
  cases M.find? (fun p => p.1 == c) <;> rfl
theorem delL_dat (M : Pl.Mks) (c : Int) : (datL M : DataW H).del (.int .u32 c) = datL (Pl.delM M c) := by
  unfold datL DataW.del Pl.delM
  simp only
  rw [List.filter_map]
  congr 3
  funext p
  show (!(Lit.int .u32 p.1).sameKey (.int .u32 c)) = _
  rw [same_u32]
theorem insL_dat (x : Int × Int) : ∀ M : Pl.Mks, DataW.insert (entL (H := H) x) (M.map entL) = (Pl.insM x M).map entL
  | [] => rfl
  | y :: r => by
    rw [List.map_cons]
    unfold DataW.insert Pl.insM
    have e : (entL (H := H) x).1.before (entL (H := H) y).1 = decide (x.1 < y.1) := before_u32 x.1 y.1
    rw [e, insL_dat x r]
    by_cases h : x.1 < y.1
    · rw [decide_eq_true h, if_pos rfl, if_pos h]; rfl
    · rw [decide_eq_false h, if_neg (by simp), if_neg h]; rfl
theorem putL_dat (M : Pl.Mks) (c v : Int) : (datL M : DataW H).put (.int .u32 c) (.lit (.int .u64 v)) = datL (Pl.putM M c v) := by
  have h := delL_dat (H := H) M c
  unfold datL DataW.del at h
  simp only [DataW.map.injEq] at h
  unfold datL DataW.put Pl.putM
  simp only
  rw [h]
  exact congrArg _ (insL_dat (c, v) (Pl.delM M c))
theorem sizeL_dat (M : Pl.Mks) : Maps.size (datL M : DataW H) = M.length := by
  unfold datL
  rw [Maps.size_eq, List.length_map]
end
end Go.Proofs.Ytjplchajopkpcaa
