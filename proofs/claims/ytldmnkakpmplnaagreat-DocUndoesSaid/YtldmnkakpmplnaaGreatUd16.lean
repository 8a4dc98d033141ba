/-
  A document in plain words: what stays with every call (Dc.Ok), one past (Dc.Hist).
  A document in plain words: its leases and marks (OkM), one past (Hist), and that all of it stays with every call.
  A document in plain words: each call keeps Ok; what a call has done to text and past (Did), one past (Hist).
  edit.Own, edit.Grows, copybookref08.Same at rows of units of any length that memory holds (layer 10 bounds no row). Conditions: those that each states.
-/
import Derived.Test.YtldmnkakpmplnaaGreatUd15
import Derived.Test.YtldmnkakpmplnaaGreatUd11
set_option maxRecDepth 100000
namespace Go.Proofs.YtldmnkakpmplnaaGreat
open Go.RowKit
open Pl (Un)
namespace Pl
theorem fit_of_go : ∀ (l : List Un) (cs : List Int), (goL l cs.length).2 = 0 → FitR l cs
  | [], _, _ => trivial
  | u :: r, cs, h => by
    unfold goL at h
    by_cases hf : Fit u cs.length
    · rw [if_pos hf, ← len_behind hf] at h
      exact ⟨hf, fit_of_go r _ h⟩
    · rw [if_neg hf] at h
      cases h
theorem fit_of_long {l : List Un} {cs : List Int} (h : (longL l cs.length).2 = 0) : FitR l cs := by
  unfold longL at h
  by_cases hk : 0 ≤ (cs.length : Int) ∧ ∀ u ∈ l, Okay u
  · rw [if_pos hk] at h
    exact fit_of_go l cs h
  · rw [if_neg hk] at h
    cases h
theorem okayR_of_fit : ∀ {l : List Un} {cs : List Int}, FitR l cs → ∀ u ∈ l, Okay u
  | [], _, _, u, hu => by cases hu
  | v :: r, cs, h, u, hu => by
    rcases List.mem_cons.1 hu with rfl | hu
    · exact h.1.1
    · exact okayR_of_fit h.2 u hu
theorem long_of_fit {l : List Un} {cs : List Int} (h : FitR l cs) : longL l cs.length = (((leave l cs).length : Int), 0) := by
  unfold longL
  rw [if_pos ⟨by omega, okayR_of_fit h⟩]
  exact goL_fit l cs h
theorem len_leave {l : List Un} {cs : List Int} (h : FitR l cs) : ((leave l cs).length : Int) = cs.length + growsL l := by
  have e := long_of_fit h
  have := (longL_ok (l := l) (n := cs.length) (by rw [e])).1
  rw [e] at this
  exact this
theorem both_ids (aas bs : List Un) : ∀ u ∈ (bothR aas bs).1, ∃ v ∈ aas, u.x = v.x ∧ u.y = v.y := by
  induction aas generalizing bs with
  | nil => intro u hu; cases hu
  | cons a r ih =>
    intro u hu
    rcases List.mem_cons.1 hu with rfl | hu
    · exact ⟨a, List.mem_cons_self .., thru_id a bs⟩
    · obtain ⟨v, hv, h⟩ := ih _ u hu
      exact ⟨v, List.mem_cons_of_mem _ hv, h⟩
theorem past_ids : ∀ (rows : List (List Un)) (a : List Un), ∀ u ∈ pastR a rows, ∃ v ∈ a, u.x = v.x ∧ u.y = v.y
  | [], a, u, hu => ⟨u, hu, rfl, rfl⟩
  | b :: r, a, u, hu => by
    obtain ⟨v, hv, h1, h2⟩ := past_ids r _ u hu
    obtain ⟨z, hz, h3, h4⟩ := both_ids a b v hv
    exact ⟨z, hz, h1.trans h3, h2.trans h4⟩
theorem past_len : ∀ (rows : List (List Un)) (a : List Un), (pastR a rows).length = a.length
  | [], _ => rfl
  | b :: r, a => (past_len r _).trans (len_both a b).1
theorem clean_le (l : List Un) : (cleanL l).length ≤ l.length := List.length_filter_le _ _
theorem clean_k {l : List Un} {u : Un} (h : u ∈ cleanL l) : u.k ≠ 0 := by simpa using (List.mem_filter.1 h).2
theorem back_len (x y : Int) (a : List Un) (rows : List (List Un)) : (backR x y a rows).length ≤ a.length := by
  refine Nat.le_trans (clean_le _) ?_
  rw [past_len, inv_len]
  exact Nat.le_refl _
theorem back_ids (x y : Int) (a : List Un) (rows : List (List Un)) : ∀ u ∈ backR x y a rows, u.x = x ∧ u.y = y := by
  intro u hu
  obtain ⟨v, hv, h1, h2⟩ := past_ids rows _ u (clean_mem hu)
  have := inv_ids x y a v hv
  exact ⟨h1.trans this.1, h2.trans this.2⟩
theorem fill_mem : ∀ {r : List Un} {cs : List Int} {u : Un}, u ∈ fillL r cs → ∃ v ∈ r, u.k = v.k ∧ u.p = v.p ∧ u.x = v.x ∧ u.y = v.y
  | [], _, _, h => by cases h
  | v :: r, cs, u, h => by
    rcases List.mem_cons.1 h with rfl | h
    · exact ⟨v, List.mem_cons_self .., fillU_k v cs⟩
    · obtain ⟨z, hz, hh⟩ := fill_mem h
      exact ⟨z, List.mem_cons_of_mem _ hz, hh⟩
theorem fill_grows : ∀ (r : List Un) (cs : List Int), growsL (fillL r cs) = growsL r
  | [], _ => rfl
  | u :: r, cs => by
    have h := fill_grows r (behind u cs)
    have hk := (fillU_k u cs).1
    simp only [fillL, growsL, List.map_cons, List.sum_cons, hk] at h ⊢
    rw [h]
theorem place_zero {fr len least rev : Nat} : (place fr len least rev).2 = 0 ↔ fr + least ≤ rev ∧ rev ≤ fr + len := by
  unfold place
  split
  · simp; omega
  · split
    · simp; omega
    · simp; omega
namespace Dc
theorem bars_zero {d : Dc} {row : List Un} (h : d.bars row = 0) : FitR (cleanL row) d.cs ∧ (leave (cleanL row) d.cs).length ≤ 4096 ∧ d.P.length < 256 ∧ d.now < 1099511627776 := by
  unfold bars at h
  split at h
  · rename_i h1; exact absurd h h1
  · rename_i h1
    split at h
    · cases h
    · rename_i h2
      split at h
      · cases h
      · rename_i h3
        exact ⟨fit_of_long (Decidable.not_not.1 h1), by omega, by omega, by omega⟩
theorem now_behind (d : Dc) (x y : Int) (row : List Un) : (d.behind x y row).now = d.now + 1 := by
  show d.fr + (d.P ++ [_]).length = _
  rw [List.length_append]
  rfl
structure Core (d d' : Dc) : Prop where
  cs : d'.cs = d.cs
  fr : d'.fr = d.fr
  n : d'.n = d.n
  P : d'.P = d.P
theorem Core.trans {a b c : Dc} (h : Core a b) (k : Core b c) : Core a c := ⟨k.cs.trans h.cs, k.fr.trans h.fr, k.n.trans h.n, k.P.trans h.P⟩
structure OkP (d : Dc) : Prop where
  len : (d.cs.length : Int) = d.n + total d.P
  may : ∀ c ∈ d.cs, May c
  cnt : d.P.length ≤ 256
  rev : d.now ≤ 1099511627776
  top : ∀ i, i ≤ d.P.length → 0 ≤ d.n + total (d.P.take i) ∧ d.n + total (d.P.take i) ≤ 4096
  row : ∀ o ∈ d.P, o.l.length ≤ 256 ∧ ∀ u ∈ o.l, Okay u ∧ u.k ≠ 0 ∧ u.x = o.x ∧ u.y = o.y
  fits : ∀ i, i < d.P.length → (longL (d.P.getD i default).l (d.n + total (d.P.take i))).2 = 0
theorem OkP.core {d d' : Dc} (h : OkP d) (c : Core d d') : OkP d' := by
  obtain ⟨h1, h2, h3, h4, h5, h6, h7⟩ := h
  unfold now at h4
  exact ⟨by rw [c.cs, c.n, c.P]; exact h1, by rw [c.cs]; exact h2, by rw [c.P]; exact h3, by unfold now; rw [c.fr, c.P]; exact h4, by rw [c.n, c.P]; exact h5, by rw [c.P]; exact h6, by rw [c.n, c.P]; exact h7⟩
theorem OkP.lt4096 {d : Dc} (h : OkP d) : d.cs.length ≤ 4096 := by
  have := (h.top d.P.length (Nat.le_refl _)).2
  rw [List.take_length] at this
  have := h.len
  omega
theorem ripe_all {d : Dc} (h : OkP d) {row : List Un} (hb : d.bars row = 0) :
    FitR (d.ripe row) d.cs ∧ Filled (d.ripe row) d.cs ∧ leave (d.ripe row) d.cs = leave (cleanL row) d.cs ∧ growsL (d.ripe row) = growsL (cleanL row) ∧ (d.ripe row).length ≤ row.length :=
  have hf := (bars_zero hb).1
  have := fill_all hf h.may
  ⟨this.1, this.2.1, this.2.2, fill_grows _ _, by show (fillL _ _).length ≤ _; rw [fill_len]; exact clean_le _⟩
theorem may_leave {r : List Un} {cs : List Int} (hf : FitR r cs) (hm : ∀ c ∈ cs, May c) : ∀ c ∈ leave r cs, May c := by
  refine all_leave (Q := May) hm fun u hu hk => ?_
  have ho := okayR_of_fit hf u hu
  unfold Okay at ho
  rcases ho with ho | ho
  · omega
  · exact ho.2.2
theorem OkP.behind {d : Dc} (h : OkP d) {x y : Int} {row : List Un} (hb : d.bars row = 0) (hl : row.length ≤ 256) (hi : ∀ u ∈ row, u.x = x ∧ u.y = y) : OkP (d.behind x y row) := by
  obtain ⟨hf, h4, hc, hr⟩ := bars_zero hb
  obtain ⟨rf, rF, re, rg, rl⟩ := ripe_all h hb
  have hlen := len_leave hf
  have htot : total (d.P ++ [d.newOp x y row]) = total d.P + growsL (cleanL row) := by rw [total_append, total_one]; show _ + growsL (d.ripe row) = _; rw [rg]
  have h0 := h.len
  refine ⟨?_, may_leave hf h.may, ?_, ?_, ?_, ?_, ?_⟩
  · show ((leave (cleanL row) d.cs).length : Int) = d.n + total (d.P ++ [d.newOp x y row])
    omega
  · show (d.P ++ [_]).length ≤ 256
    rw [List.length_append]
    show d.P.length + 1 ≤ 256
    omega
  · rw [now_behind]; omega
  · intro i hi'
    show 0 ≤ d.n + total ((d.P ++ [d.newOp x y row]).take i) ∧ d.n + total ((d.P ++ [d.newOp x y row]).take i) ≤ 4096
    have hi2 : i ≤ d.P.length + 1 := by
      have : i ≤ (d.P ++ [d.newOp x y row]).length := hi'
      rw [List.length_append] at this
      exact this
    by_cases he : i ≤ d.P.length
    · rw [List.take_append_of_le_length he]
      exact h.top i he
    · rw [List.take_of_length_le (by rw [List.length_append]; show d.P.length + 1 ≤ i; omega), htot]
      omega
  · intro o ho
    rcases List.mem_append.1 (show o ∈ d.P ++ [d.newOp x y row] from ho) with ho | ho
    · exact h.row o ho
    · rcases List.mem_singleton.1 ho with rfl
      refine ⟨Nat.le_trans rl hl, fun u hu => ?_⟩
      have hok := okayR_of_fit rf u hu
      obtain ⟨v, hv, hk, _, hx, hy⟩ := fill_mem hu
      have hvr := hi v (clean_mem hv)
      exact ⟨hok, by rw [hk]; exact clean_k hv, hx.trans hvr.1, hy.trans hvr.2⟩
  · intro i hi
    have hi2 : i < d.P.length + 1 := by
      have : i < (d.P ++ [d.newOp x y row]).length := hi
      rw [List.length_append] at this
      exact this
    show (longL ((d.P ++ [d.newOp x y row]).getD i default).l (d.n + total ((d.P ++ [d.newOp x y row]).take i))).2 = 0
    rw [List.take_append_of_le_length (by omega)]
    by_cases he : i < d.P.length
    · have := h.fits i he
      rw [List.getD_eq_getElem?_getD, List.getElem?_append_left he, ← List.getD_eq_getElem?_getD]
      exact this
    · obtain rfl : i = d.P.length := by omega
      rw [List.getD_eq_getElem?_getD, List.getElem?_append_right (Nat.le_refl _), Nat.sub_self, List.take_length, ← h0]
      show (longL (d.ripe row) d.cs.length).2 = 0
      rw [long_of_fit rf]
theorem total_set_take (P : List Op) (k : Nat) (b : Bool) (i : Nat) (hi : i ≤ P.length) : total ((P.set k { P.getD k default with b := b }).take i) = total (P.take i) := by
  have h1 := lens_at 0 (P.set k { P.getD k default with b := b }) (i := i) (by rw [List.length_set]; exact hi)
  rw [lens_set, lens_at 0 P hi] at h1
  omega
theorem set_l (P : List Op) (k : Nat) (b : Bool) (i : Nat) : ((P.set k { P.getD k default with b := b }).getD i default).l = (P.getD i default).l := by
  by_cases hk : k < P.length
  · by_cases he : i = k
    · subst he
      rw [List.getD_eq_getElem?_getD, List.getElem?_set_self hk]
      rfl
    · rw [List.getD_eq_getElem?_getD, List.getElem?_set_ne (fun h => he h.symm), ← List.getD_eq_getElem?_getD]
  · rw [List.set_eq_of_length_le (by omega)]
theorem OkP.mark {d : Dc} (h : OkP d) (k : Nat) : OkP (d.mark k) := by
  refine ⟨?_, h.may, ?_, ?_, ?_, ?_, ?_⟩
  · show (d.cs.length : Int) = d.n + total (d.P.set k { d.P.getD k default with b := true })
    rw [total_set]
    exact h.len
  · show (d.P.set k _).length ≤ 256
    rw [List.length_set]
    exact h.cnt
  · show d.fr + (d.P.set k _).length ≤ _
    rw [List.length_set]
    exact h.rev
  · intro i hi
    have hi2 : i ≤ (d.P.set k { d.P.getD k default with b := true }).length := hi
    rw [List.length_set] at hi2
    show 0 ≤ d.n + total ((d.P.set k { d.P.getD k default with b := true }).take i) ∧ d.n + total ((d.P.set k { d.P.getD k default with b := true }).take i) ≤ 4096
    rw [total_set_take _ _ _ _ hi2]
    exact h.top i hi2
  · intro o ho
    rcases List.mem_or_eq_of_mem_set (show o ∈ d.P.set k { d.P.getD k default with b := true } from ho) with ho | rfl
    · exact h.row o ho
    · by_cases hk : k < d.P.length
      · exact h.row (d.P.getD k default) (by rw [List.getD_eq_getElem?_getD, List.getElem?_eq_getElem hk]; exact List.getElem_mem hk)
      · rw [List.getD_eq_getElem?_getD, List.getElem?_eq_none (by omega)]
        exact ⟨by decide, fun u hu => by cases hu⟩
  · intro i hi
    have hi2 : i < (d.P.set k { d.P.getD k default with b := true }).length := hi
    rw [List.length_set] at hi2
    show (longL ((d.P.set k { d.P.getD k default with b := true }).getD i default).l (d.n + total ((d.P.set k { d.P.getD k default with b := true }).take i))).2 = 0
    rw [set_l, total_set_take _ _ _ _ (by omega)]
    exact h.fits i hi2
end Dc
end Pl
end Go.Proofs.YtldmnkakpmplnaaGreat
namespace Go.Proofs.YtldmnkakpmplnaaGreat
open Go.RowKit
open Pl (Un)
namespace Pl
theorem get_drops (cs : List Int) : ∀ {M : Mks}, Rising M → ∀ c, getM (dropsM M cs) c = if c ∈ cs then none else getM M c := by
  induction cs with
  | nil => intro M _ c; simp [dropsM]
  | cons x r ih =>
    intro M h c
    show getM (dropsM (delM M x) r) c = _
    rw [ih (rising_del h x), get_del h]
    by_cases h1 : c = x
    · simp [h1]
    · simp [h1]
theorem mem_put {M : Mks} {c v : Int} {p : Int × Int} : p ∈ putM M c v ↔ p = (c, v) ∨ p ∈ M ∧ p.1 ≠ c := by
  unfold putM
  rw [mem_ins, mem_del]
theorem len_put_old {M : Mks} {c v : Int} (h : getM M c ≠ none) : (putM M c v).length ≤ M.length := by
  unfold putM
  rw [len_ins]
  have : ∃ p ∈ M, p.1 = c := by
    refine Classical.byContradiction fun hn => h (get_none.2 fun p hp hc => hn ⟨p, hp, hc⟩)
  obtain ⟨p, hp, hc⟩ := this
  show (M.filter _).length < M.length
  refine List.length_filter_lt_length_iff_exists.2 ⟨p, hp, ?_⟩
  simp [hc]
theorem live_get {L : Mks} {c t : Int} (h : liveM L c t = true) : getM L c ≠ none := by
  intro hn
  rw [live_none hn] at h
  cases h
namespace Dc
theorem goR_long {l : List Un} {n m p : Int} (h : longL l n = (m, 0)) (hb : n + l.length ≤ 1099511627776) (h0 : 0 ≤ p) (h1 : p ≤ n) : 0 ≤ placeR p l ∧ placeR p l ≤ m :=
  have := placeR_keeps h h0 (Int.le_refl p) h1 hb
  ⟨this.1, this.2.2⟩
structure OkM (d : Dc) : Prop where
  low : Rising d.L
  few : d.L.length ≤ 16
  far : ∀ p ∈ d.L, 0 ≤ p.1 ∧ p.1 ≤ 4294967295 ∧ 0 ≤ p.2 ∧ p.2 ≤ 1099511627840
  rsM : Rising d.M
  who : ∀ c, getM d.M c = none ↔ getM d.L c = none
  inn : ∀ p ∈ d.M, 0 ≤ p.2 ∧ p.2 ≤ d.cs.length
structure Ok (d : Dc) : Prop where
  p : OkP d
  m : OkM d
theorem core_touched (d : Dc) (t : Int) : Core d (d.touched t) := ⟨rfl, rfl, rfl, rfl⟩
theorem core_renewed (d : Dc) (c t : Int) : Core d (d.renewed c t) := ⟨rfl, rfl, rfl, rfl⟩
theorem ok_touched {d : Dc} (h : Ok d) (t : Int) : Ok (d.touched t) := by
  refine ⟨h.p.core (core_touched d t), ?_⟩
  have hw := get_drops (whichM false t d.L) h.m.low
  rw [drops_which h.m.low] at hw
  have hm := get_drops (whichM false t d.L) h.m.rsM
  refine ⟨rising_there h.m.low t, Nat.le_trans (List.length_filter_le _ _) h.m.few, fun p hp => h.m.far p (List.mem_filter.1 hp).1, rising_drops _ h.m.rsM, fun c => ?_, fun p hp => h.m.inn p ((drops_mem _ _ _).1 hp).1⟩
  show getM (dropsM d.M (whichM false t d.L)) c = none ↔ getM (thereM t d.L) c = none
  rw [hm c, hw c]
  split
  · simp
  · exact h.m.who c
theorem tick_le {L : Mks} {c t : Int} (hL : ∀ p ∈ L, 0 ≤ p.1 ∧ p.1 ≤ 4294967295 ∧ 0 ≤ p.2 ∧ p.2 ≤ 1099511627840) (hr : Rising L) (h0 : 0 ≤ t) (ht : t ≤ 1099511627776) : 0 ≤ tickM L c t ∧ tickM L c t ≤ 1099511627840 := by
  unfold tickM
  cases hg : getM L c with
  | none => simp only; omega
  | some u =>
    have := hL _ ((get_iff hr).1 hg)
    simp only at this ⊢
    split <;> omega
theorem setL_ok {L : Mks} {c t : Int} (hr : Rising L) (hf : L.length ≤ 16) (hL : ∀ p ∈ L, 0 ≤ p.1 ∧ p.1 ≤ 4294967295 ∧ 0 ≤ p.2 ∧ p.2 ≤ 1099511627840) (h0 : 0 ≤ t) (hc : 0 ≤ c ∧ c ≤ 4294967295) :
    Rising (setL L c t).2 ∧ (setL L c t).2.length ≤ 16 ∧ (∀ p ∈ (setL L c t).2, 0 ≤ p.1 ∧ p.1 ≤ 4294967295 ∧ 0 ≤ p.2 ∧ p.2 ≤ 1099511627840) := by
  unfold setL
  split
  · exact ⟨hr, hf, hL⟩
  · rename_i ht
    split
    · exact ⟨hr, hf, hL⟩
    · rename_i hn
      have htk := tick_le hL hr h0 (by omega) (c := c)
      refine ⟨rising_put hr _ _, ?_, fun p hp => ?_⟩
      · show (putM L c (tickM L c t)).length ≤ 16
        by_cases hg : getM L c = none
        · have := len_put_le L c (tickM L c t)
          have : ¬ 16 ≤ L.length := fun h => hn ⟨hg, h⟩
          omega
        · exact Nat.le_trans (len_put_old hg) hf
      · rcases mem_put.1 hp with rfl | hp
        · exact ⟨hc.1, hc.2, htk.1, htk.2⟩
        · exact hL p hp.1
theorem get_setL {L : Mks} {c t : Int} (hr : Rising L) (h : (setL L c t).1 = 0) (x : Int) : getM (setL L c t).2 x = if x = c then some (tickM L c t) else getM L x := by
  unfold setL at h ⊢
  split at h
  · cases h
  · rename_i h1
    split at h
    · cases h
    · rename_i h2
      rw [if_neg h1, if_neg h2]
      exact get_put hr _ _ _
theorem set_live {L : Mks} {c t : Int} (h : liveM L c t = true) (ht : t ≤ 1099511627776) : (setL L c t).1 = 0 := by
  unfold setL
  rw [if_neg (by omega), if_neg (fun hh => live_get h hh.1)]
theorem ok_renewed {d : Dc} (h : Ok d) {c t : Int} (hl : getM d.L c ≠ none) (h0 : 0 ≤ t) (ht : t ≤ 1099511627776) (hc : 0 ≤ c ∧ c ≤ 4294967295) : Ok (d.renewed c t) := by
  refine ⟨h.p.core (core_renewed d c t), ?_⟩
  have hs := setL_ok (c := c) h.m.low h.m.few h.m.far h0 hc
  have he : (setL d.L c t).1 = 0 := by unfold setL; rw [if_neg (by omega), if_neg (fun hh => hl hh.1)]
  refine ⟨hs.1, hs.2.1, hs.2.2, h.m.rsM, fun x => ?_, h.m.inn⟩
  show getM d.M x = none ↔ getM (setL d.L c t).2 x = none
  rw [get_setL h.m.low he]
  split
  · rename_i hx
    subst hx
    rw [h.m.who]
    simp [hl]
  · exact h.m.who x
theorem ok_behind {d : Dc} (h : Ok d) {x y : Int} {row : List Un} (hb : d.bars row = 0) (hl : row.length ≤ 256) (hi : ∀ u ∈ row, u.x = x ∧ u.y = y) : Ok (d.behind x y row) := by
  refine ⟨h.p.behind hb hl hi, ?_⟩
  obtain ⟨rf, rF, re, rg, rl⟩ := ripe_all h.p hb
  refine ⟨h.m.low, h.m.few, h.m.far, (rising_go h.m.rsM (fun p => placeR p (d.ripe row)) : Rising (goM (fun p => placeR p (d.ripe row)) d.M)), fun c => ?_, fun p hp => ?_⟩
  · show getM (goM (fun p => placeR p (d.ripe row)) d.M) c = none ↔ getM d.L c = none
    rw [get_go, ← h.m.who c]
    simp
  · obtain ⟨q, hq, rfl⟩ := List.mem_map.1 (show p ∈ goM (fun p => placeR p (d.ripe row)) d.M from hp)
    have hqi := h.m.inn q hq
    have h4 := h.p.lt4096
    have := goR_long (long_of_fit rf) (by omega) hqi.1 hqi.2
    rw [re] at this
    exact this
theorem ok_mark {d : Dc} (h : Ok d) (k : Nat) : Ok (d.mark k) := ⟨h.p.mark k, ⟨h.m.low, h.m.few, h.m.far, h.m.rsM, h.m.who, h.m.inn⟩⟩
theorem ok_opened {d : Dc} (h : Ok d) {c t : Int} (he : (setL d.L c t).1 = 0) (h0 : 0 ≤ t) (hc : 0 ≤ c ∧ c ≤ 4294967295) : Ok { d with L := (setL d.L c t).2, M := if getM d.M c = none then putM d.M c 0 else d.M } := by
  have hs := setL_ok (c := c) h.m.low h.m.few h.m.far h0 hc
  refine ⟨h.p.core ⟨rfl, rfl, rfl, rfl⟩, hs.1, hs.2.1, hs.2.2, ?_, fun x => ?_, fun p hp => ?_⟩
  · show Rising (if getM d.M c = none then putM d.M c 0 else d.M)
    split
    · exact rising_put h.m.rsM _ _
    · exact h.m.rsM
  · show getM (if getM d.M c = none then putM d.M c 0 else d.M) x = none ↔ getM (setL d.L c t).2 x = none
    rw [get_setL h.m.low he]
    split
    · rw [get_put h.m.rsM]
      split
      · simp
      · exact h.m.who x
    · rename_i hn
      split
      · rename_i hx
        subst hx
        simp [hn]
      · exact h.m.who x
  · have hp' : p ∈ (if getM d.M c = none then putM d.M c 0 else d.M) := hp
    show 0 ≤ p.2 ∧ p.2 ≤ d.cs.length
    split at hp'
    · rcases mem_put.1 hp' with rfl | hp'
      · exact ⟨Int.le_refl _, by omega⟩
      · exact h.m.inn p hp'.1
    · exact h.m.inn p hp'
theorem ok_zero : Ok Dc.zero :=
  ⟨⟨rfl, (fun c hc => by cases hc), by decide, by decide, (fun i _ => by simp [Dc.zero, total]), (fun o ho => by cases ho), (fun i hi => absurd hi (by simp [Dc.zero]))⟩,
    ⟨rising_nil, by decide, (fun p hp => by cases hp), rising_nil, (fun c => by simp [Dc.zero]), (fun p hp => by cases hp)⟩⟩
end Dc
end Pl
end Go.Proofs.YtldmnkakpmplnaaGreat
namespace Go.Proofs.YtldmnkakpmplnaaGreat
open Go.RowKit
open Pl (Un)
namespace Pl
namespace Dc
theorem call_late {d : Dc} {t : Int} (h : 1099511627776 < t) (f : Dc → Dc × An) : d.call t f = (d, fails 1) := by unfold call; rw [if_pos h]
theorem call_on {d : Dc} {t : Int} (h : ¬ 1099511627776 < t) (f : Dc → Dc × An) : d.call t f = ((f (d.touched t)).1, if (f (d.touched t)).2.e = 0 then { (f (d.touched t)).2 with rev := (f (d.touched t)).1.now } else (f (d.touched t)).2) := by unfold call; rw [if_neg h]
theorem editE_zero {d : Dc} {x y : Int} {base : Nat} {row : List Un} (h : d.editE x y base row = 0) :
    (∀ u ∈ row, Okay u ∧ u.x = x ∧ u.y = y) ∧ d.fr ≤ base ∧ base ≤ d.now ∧ row.length ≤ 256 ∧ (longL row (d.long base)).2 = 0 ∧ d.bars (d.editRow base row) = 0 := by
  unfold editE at h
  split at h
  · cases h
  · rename_i h1
    split at h
    · rename_i h2; exact absurd h h2
    · rename_i h2
      split at h
      · cases h
      · rename_i h3
        split at h
        · rename_i h4; exact absurd h h4
        · rename_i h4
          have hp := place_zero.1 (Decidable.not_not.1 h2)
          refine ⟨fun u hu => ?_, by omega, by unfold now; omega, by omega, Decidable.not_not.1 h4, h⟩
          refine Classical.byContradiction fun hn => h1 ⟨u, hu, ?_⟩
          by_cases ho : Okay u
          · by_cases hx : u.x = x
            · by_cases hy : u.y = y
              · exact absurd ⟨ho, hx, hy⟩ hn
              · exact .inr (.inr hy)
            · exact .inr (.inl hx)
          · exact .inl ho
theorem undoE_zero {d : Dc} {x y : Int} {rev : Nat} (h : d.undoE x y rev = 0) :
    d.fr + 1 ≤ rev ∧ rev ≤ d.now ∧ (d.opAt rev).x = x ∧ (d.opAt rev).b = false ∧ d.bars (d.undoRow x y rev) = 0 := by
  unfold undoE at h
  split at h
  · cases h
  · split at h
    · rename_i h2; exact absurd h h2
    · rename_i h2
      split at h
      · cases h
      · rename_i h3
        split at h
        · cases h
        · rename_i h4
          have hp := place_zero.1 (Decidable.not_not.1 h2)
          exact ⟨by omega, by unfold now; omega, Decidable.not_not.1 h3, by simpa using h4, h⟩
theorem edit_row {d : Dc} {x y : Int} {base : Nat} {row : List Un} (h : d.editE x y base row = 0) : (d.editRow base row).length ≤ 256 ∧ ∀ u ∈ d.editRow base row, u.x = x ∧ u.y = y := by
  obtain ⟨h1, _, _, h2, _, _⟩ := editE_zero h
  refine ⟨by unfold editRow; rw [past_len]; exact h2, fun u hu => ?_⟩
  obtain ⟨v, hv, e1, e2⟩ := past_ids _ _ u hu
  exact ⟨e1.trans (h1 v hv).2.1, e2.trans (h1 v hv).2.2⟩
theorem op_mem {d : Dc} {rev : Nat} (h1 : d.fr + 1 ≤ rev) (h2 : rev ≤ d.now) : d.opAt rev ∈ d.P := by
  unfold now at h2
  unfold opAt
  have : rev - d.fr - 1 < d.P.length := by omega
  rw [List.getD_eq_getElem?_getD, List.getElem?_eq_getElem this]
  exact List.getElem_mem this
theorem undo_row {d : Dc} (hd : Ok d) {x y : Int} {rev : Nat} (h : d.undoE x y rev = 0) : (d.undoRow x y rev).length ≤ 256 ∧ ∀ u ∈ d.undoRow x y rev, u.x = x ∧ u.y = y := by
  obtain ⟨h1, h2, _, _, _⟩ := undoE_zero h
  exact ⟨Nat.le_trans (back_len _ _ _ _) (hd.p.row _ (op_mem h1 h2)).1, back_ids _ _ _ _⟩
structure Kept (d : Dc) (r : Dc × An) : Prop where
  ok : Ok r.1
  L : r.1.L = d.L
theorem ok_call {d : Dc} (h : Ok d) {t : Int} {f : Dc → Dc × An} (hf : ¬ 1099511627776 < t → Ok (d.touched t) → Ok (f (d.touched t)).1) : Ok (d.call t f).1 := by
  by_cases ht : 1099511627776 < t
  · rw [call_late ht]; exact h
  · rw [call_on ht]; exact hf ht (ok_touched h t)
theorem ok_at {d : Dc} (h : Ok d) {c t : Int} (h0 : 0 ≤ t) (hc : 0 ≤ c ∧ c ≤ 4294967295) {f : Dc → Dc × An} (hf : ∀ d, Ok d → liveM d.L c t = true → Kept d (f d)) : Ok (d.at_ c t f).1 := by
  refine ok_call h fun ht ho => ?_
  by_cases hl : liveM (d.touched t).L c t = true
  · simp only [hl, if_true]
    have hk := hf _ ho hl
    split
    · exact ok_renewed hk.ok (by rw [hk.L]; exact live_get hl) h0 (by omega) hc
    · exact hk.ok
  · simp only [hl]
    exact ho
theorem ok_open {d : Dc} (h : Ok d) {c t : Int} (h0 : 0 ≤ t) (hc : 0 ≤ c ∧ c ≤ 4294967295) (rev : Nat) : Ok (d.open_ c rev t).1 := by
  refine ok_call h fun ht ho => ?_
  try dsimp only
  split
  · exact ho
  · split
    · exact ho
    · rename_i he
      exact ok_opened ho (Decidable.not_not.1 he) h0 hc
theorem ok_edit {d : Dc} (h : Ok d) {x y t : Int} (h0 : 0 ≤ t) (hc : 0 ≤ x ∧ x ≤ 4294967295) (base : Nat) (row : List Un) : Ok (d.edit x y base row t).1 := by
  refine ok_at h h0 hc fun d ho _ => ?_
  try dsimp only
  split
  · exact ⟨ho, rfl⟩
  · rename_i he
    have hr := edit_row (Decidable.not_not.1 he)
    exact ⟨ok_behind ho (editE_zero (Decidable.not_not.1 he)).2.2.2.2.2 hr.1 hr.2, rfl⟩
theorem ok_undo {d : Dc} (h : Ok d) {x y t : Int} (h0 : 0 ≤ t) (hc : 0 ≤ x ∧ x ≤ 4294967295) (rev : Nat) : Ok (d.undo x y rev t).1 := by
  refine ok_at h h0 hc fun d ho _ => ?_
  try dsimp only
  split
  · exact ⟨ho, rfl⟩
  · rename_i he
    have hr := undo_row ho (Decidable.not_not.1 he)
    exact ⟨ok_mark (ok_behind ho (undoE_zero (Decidable.not_not.1 he)).2.2.2.2 hr.1 hr.2) _, rfl⟩
structure Hist (d : Dc) (H : Nat → List Int) (O : Nat → List Un) : Prop where
  cur : H d.now = d.cs
  ops : ∀ i, i < d.P.length → (d.P.getD i default).l = O (d.fr + i + 1)
  step : ∀ r, r < d.now → FitR (O (r + 1)) (H r) ∧ leave (O (r + 1)) (H r) = H (r + 1)
def laid {α : Type} (H : Nat → α) (k : Nat) (x : α) : Nat → α := fun r => if r = k then x else H r
theorem laid_at {α : Type} (H : Nat → α) (k : Nat) (x : α) : laid H k x k = x := if_pos rfl
theorem laid_ne {α : Type} (H : Nat → α) {k r : Nat} (x : α) (h : r ≠ k) : laid H k x r = H r := if_neg h
theorem Hist.zero (H : Nat → List Int) (O : Nat → List Un) (h : H 0 = []) : Hist Dc.zero H O := ⟨h, fun i hi => absurd hi (by simp [Dc.zero]), fun r hr => absurd hr (by simp [Dc.now, Dc.zero])⟩
theorem Core.now {d d' : Dc} (c : Core d d') : d'.now = d.now := by unfold Dc.now; rw [c.fr, c.P]
theorem Hist.behind {d : Dc} {H : Nat → List Int} {O : Nat → List Un} (h : Hist d H O) (ho : OkP d) {x y : Int} {row : List Un} (hb : d.bars row = 0) :
    Hist (d.behind x y row) (laid H (d.now + 1) (leave (cleanL row) d.cs)) (laid O (d.now + 1) (d.ripe row)) := by
  obtain ⟨rf, rF, re, rg, rl⟩ := ripe_all ho hb
  refine ⟨?_, fun i hi => ?_, fun r hr => ?_⟩
  · rw [now_behind, laid_at]; rfl
  · have hi2 : i < d.P.length + 1 := by
      have : i < (d.P ++ [d.newOp x y row]).length := hi
      rw [List.length_append] at this
      exact this
    show ((d.P ++ [d.newOp x y row]).getD i default).l = laid O (d.now + 1) (d.ripe row) (d.fr + i + 1)
    by_cases he : i < d.P.length
    · rw [laid_ne _ _ (by unfold now; omega), ← h.ops i he, List.getD_eq_getElem?_getD, List.getElem?_append_left he, ← List.getD_eq_getElem?_getD]
    · obtain rfl : i = d.P.length := by omega
      rw [List.getD_eq_getElem?_getD, List.getElem?_append_right (Nat.le_refl _), Nat.sub_self]
      exact (laid_at O (d.now + 1) _).symm
  · rw [now_behind] at hr
    by_cases he : r = d.now
    · subst he
      rw [laid_at, laid_ne _ _ (by omega), laid_at, h.cur]
      exact ⟨rf, re⟩
    · rw [laid_ne _ _ (by omega), laid_ne _ _ (by omega), laid_ne _ _ (by omega)]
      exact h.step r (by omega)
theorem Hist.mark {d : Dc} {H : Nat → List Int} {O : Nat → List Un} (h : Hist d H O) (k : Nat) : Hist (d.mark k) H O := by
  have hn : (d.mark k).now = d.now := by
    show d.fr + (d.P.set k _).length = d.fr + d.P.length
    rw [List.length_set]
  refine ⟨by rw [hn]; exact h.cur, fun i hi => ?_, by rw [hn]; exact h.step⟩
  have hi2 : i < (d.P.set k { d.P.getD k default with b := true }).length := hi
  rw [List.length_set] at hi2
  show ((d.P.set k { d.P.getD k default with b := true }).getD i default).l = _
  rw [set_l]
  exact h.ops i hi2
theorem Hist.told {d : Dc} {H : Nat → List Int} {O : Nat → List Un} (h : Hist d H O) {rev k : Nat} (hr : d.fr ≤ rev) (hk : k < (d.later rev).length) : ((d.later rev).getD k default).l = O (rev + k + 1) := by
  unfold later at hk ⊢
  rw [List.length_drop] at hk
  rw [List.getD_eq_getElem?_getD, List.getElem?_drop, ← List.getD_eq_getElem?_getD, h.ops _ (by omega)]
  congr 1
  omega
end Dc
end Pl
end Go.Proofs.YtldmnkakpmplnaaGreat
namespace Go.Proofs.YtldmnkakpmplnaaGreat
open Go.RowKit
open Pl (Un)
set_option maxHeartbeats 400000 in
theorem own_big (A : Option Addr) (n c : Nat) (l : List Un) (w : World) (h1 : Uns w w.heap.size A n c l) (hr : n * 40 ≤ 140737488355328) :
    Calls Tryz.prog 234 #[.slice A n c] w (RetU w l) := by
  have HC := Lib.hid (cloneU_big A n c l w h1 hr)
  clear h1
  go_enter Tryz.func234, Tryz.ntmps234
  go_wp2_with fail
  refine HC.out.mono ?_
  rintro e w' ⟨B, d, rfl, ho, hb⟩
  have HO := Lib.hid ho
  have HB := Lib.hid hb
  clear ho hb HC
  go_wp2_with fail
  go_ret
  exact ⟨B, d, rfl, HO.out, HB.out⟩
end Go.Proofs.YtldmnkakpmplnaaGreat
