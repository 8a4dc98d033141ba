/-
  What takes a row back, in plain words, ahead of the code of layer 9: which code points a row touches (and that this stays when it is carried over another row), a row filled, its inverse. Nothing of a program is named here. Conditions: those that each lemma states.
-/
import Derived.Test.YtlnekhkdncccgaaEdQ
namespace Go.Proofs.Ytlnekhkdncccgaa
open Go.RowKit
open Pl (Un)
namespace Pl
/-! ### which code points a unit touches -/
/-- an Ins brings one of P, a Del takes one of P -/
def Only (P : Int → Prop) (u : Un) (cs : List Int) : Prop := (u.k = 1 → P u.c) ∧ (u.k = 2 → ∀ c, cs[u.p.toNat]? = some c → P c)
def OnlyR (P : Int → Prop) : List Un → List Int → Prop
  | [], _ => True
  | u :: r, cs => Only P u cs ∧ OnlyR P r (behind u cs)
theorem only_nop (P : Int → Prop) (x y : Int) (cs : List Int) : Only P ⟨0, 0, 0, x, y⟩ cs := ⟨(fun h => by cases h), fun h => by cases h⟩
theorem only_ins {P : Int → Prop} {p : Nat} {c x y : Int} {cs : List Int} : Only P ⟨1, (p : Int), c, x, y⟩ cs ↔ P c := ⟨fun h => h.1 rfl, fun h => ⟨fun _ => h, fun h => by cases h⟩⟩
theorem only_del {P : Int → Prop} {p : Nat} {c x y : Int} {cs : List Int} : Only P ⟨2, (p : Int), c, x, y⟩ cs ↔ ∀ d, cs[p]? = some d → P d := ⟨fun h d hd => h.2 rfl d (by simpa using hd), fun h => ⟨(fun h => by cases h), fun _ d hd => h d (by simpa using hd)⟩⟩
theorem only_over {P : Int → Prop} {a b : Un} {cs : List Int} (hn : cs.length ≤ 1000) (ha : Fit a cs.length) (hb : Fit b cs.length) (h : Only P a cs) : Only P (over a b) (behind b cs) := by
  rcases fit_cases ha with ⟨x, y, rfl⟩ | ⟨p, c, x, y, rfl, hp, hc⟩ | ⟨p, c, x, y, rfl, hp, hc⟩
  · rw [over_nop_left]; exact only_nop _ _ _ _
  · have hP : P c := only_ins.1 h
    rcases fit_cases hb with ⟨x', y', rfl⟩ | ⟨q, d, x', y', rfl, hq, hd⟩ | ⟨q, d, x', y', rfl, hq, hd⟩
    · rw [over_nop_right]; exact only_ins.2 hP
    · rw [over_ins_ins hc hd (by omega)]; split <;> exact only_ins.2 hP
    · rw [over_ins_del hc hd (by omega)]; split <;> exact only_ins.2 hP
  · have hP : ∀ d, cs[p]? = some d → P d := only_del.1 h
    rcases fit_cases hb with ⟨x', y', rfl⟩ | ⟨q, d, x', y', rfl, hq, hd⟩ | ⟨q, d, x', y', rfl, hq, hd⟩
    · rw [over_nop_right, behind_nop]; exact h
    · rw [over_del_ins hc hd (by omega), behind_ins]
      split
      · rename_i hqp
        refine only_del.2 fun z hz => hP z ?_
        rw [get_insL hq, if_neg (by omega), if_neg (by omega)] at hz
        simpa using hz
      · rename_i hqp
        refine only_del.2 fun z hz => hP z ?_
        rw [get_insL hq, if_pos (by omega)] at hz
        exact hz
    · rw [over_del_del hc hd (by omega), behind_del]
      split
      · rename_i hqp
        refine only_del.2 fun z hz => hP z ?_
        rw [get_delL (by omega), if_neg (by omega), show p - 1 + 1 = p by omega] at hz
        exact hz
      · split
        · exact only_nop _ _ _ _
        · refine only_del.2 fun z hz => hP z ?_
          rw [get_delL (by omega), if_pos (by omega)] at hz
          exact hz
theorem thru_only {P : Int → Prop} (x : Un) (bs : List Un) (cs : List Int) (hn : cs.length + bs.length ≤ 999) (hx : Fit x cs.length) (hb : FitR bs cs) (hid : ∀ y ∈ bs, x.x ≠ y.x) :
    (Only P x cs → Only P (thru x bs).1 (leave bs cs)) ∧ (OnlyR P bs cs → OnlyR P (thru x bs).2 (behind x cs)) := by
  induction bs generalizing x cs with
  | nil => exact ⟨fun h => h, fun _ => trivial⟩
  | cons y bs ih =>
    simp only [List.length_cons] at hn
    have hne : x.x ≠ y.x := hid y (List.mem_cons_self ..)
    obtain ⟨h1, h2, h3⟩ := both (a := x) (b := y) (cs := cs) (by omega) hx hb.1 (fun h => hne h.2.2.1)
    have hl := len_behind_le hb.1
    obtain ⟨g1, g2⟩ := ih (over x y) (behind y cs) (by omega) h2 hb.2 (fun z hz => by rw [(over_id x y).1]; exact hid z (List.mem_cons_of_mem _ hz))
    refine ⟨fun h => g1 (only_over (by omega) hx hb.1 h), fun h => ⟨only_over (by omega) hb.1 hx h.1, ?_⟩⟩
    rw [h3]; exact g2 h.2
theorem thru_ids (x : Un) (bs : List Un) : ∀ y ∈ (thru x bs).2, ∃ y0 ∈ bs, y.x = y0.x := by
  induction bs generalizing x with
  | nil => intro y hy; cases hy
  | cons y0 bs ih =>
    intro y hy
    rcases List.mem_cons.1 hy with rfl | hy
    · exact ⟨y0, List.mem_cons_self .., (over_id y0 x).1⟩
    · obtain ⟨y1, h1, h2⟩ := ih (over x y0) y hy
      exact ⟨y1, List.mem_cons_of_mem _ h1, h2⟩
/-- BOTH KEEP WHAT THEY TOUCH -/
theorem both_only {P : Int → Prop} (as bs : List Un) (cs : List Int) (hn : cs.length + as.length + bs.length ≤ 999) (ha : FitR as cs) (hb : FitR bs cs) (hid : ∀ x ∈ as, ∀ y ∈ bs, x.x ≠ y.x) :
    (OnlyR P as cs → OnlyR P (bothR as bs).1 (leave bs cs)) ∧ (OnlyR P bs cs → OnlyR P (bothR as bs).2 (leave as cs)) := by
  induction as generalizing bs cs with
  | nil => exact ⟨fun _ => trivial, fun h => h⟩
  | cons x as ih =>
    simp only [List.length_cons] at hn
    obtain ⟨h1, h2, h3⟩ := thru_square x bs cs (by omega) ha.1 hb (hid x (List.mem_cons_self ..))
    obtain ⟨o1, o2⟩ := thru_only (P := P) x bs cs (by omega) ha.1 hb (hid x (List.mem_cons_self ..))
    have hl := len_behind_le ha.1
    have hbl := len_thru x bs
    obtain ⟨g1, g2⟩ := ih (thru x bs).2 (behind x cs) (by omega) ha.2 h2 (fun z hz y hy => by
      obtain ⟨y0, hy0, e⟩ := thru_ids x bs y hy
      rw [e]
      exact hid z (List.mem_cons_of_mem _ hz) y0 hy0)
    refine ⟨fun h => ⟨o1 h.1, ?_⟩, fun h => g2 (o2 h)⟩
    rw [← h3]; exact g1 h.2
/-- what is none of P stands as it stood -/
theorem only_filter {P : Int → Prop} [DecidablePred P] {u : Un} {cs : List Int} (hf : Fit u cs.length) (h : Only P u cs) : (behind u cs).filter (fun c => !decide (P c)) = cs.filter (fun c => !decide (P c)) := by
  rcases fit_cases hf with ⟨x, y, rfl⟩ | ⟨p, c, x, y, rfl, hp, hc⟩ | ⟨p, c, x, y, rfl, hp, hc⟩
  · rw [behind_nop]
  · have hP : P c := only_ins.1 h
    rw [behind_ins]
    unfold insL
    rw [List.filter_append, List.filter_cons_of_neg (by simpa using hP), ← List.filter_append, List.take_append_drop]
  · have hP : P cs[p] := only_del.1 h _ (List.getElem?_eq_getElem hp)
    rw [behind_del]
    unfold delL
    have e : cs = cs.take p ++ cs[p] :: cs.drop (p + 1) := by rw [← List.drop_eq_getElem_cons hp, List.take_append_drop]
    rw [List.filter_append]
    conv => rhs; rw [e]
    rw [List.filter_append, List.filter_cons_of_neg (by simpa using hP)]
theorem onlyR_filter {P : Int → Prop} [DecidablePred P] : ∀ {r : List Un} {cs : List Int}, FitR r cs → OnlyR P r cs → (leave r cs).filter (fun c => !decide (P c)) = cs.filter (fun c => !decide (P c))
  | [], _, _, _ => rfl
  | _ :: _, _, hf, h => (onlyR_filter hf.2 h.2).trans (only_filter hf.1 h.1)
/-- all that a row leaves is what stood there or what it brought -/
theorem mem_behind {u : Un} {cs : List Int} {c : Int} (h : c ∈ behind u cs) : c ∈ cs ∨ u.k = 1 ∧ c = u.c := by
  unfold behind at h
  split at h
  · rename_i hk
    rcases List.mem_append.1 h with h | h
    · exact Or.inl (List.mem_of_mem_take h)
    · rcases List.mem_cons.1 h with h | h
      · exact Or.inr ⟨hk, h⟩
      · exact Or.inl (List.mem_of_mem_drop h)
  · split at h
    · rcases List.mem_append.1 h with h | h
      · exact Or.inl (List.mem_of_mem_take h)
      · exact Or.inl (List.mem_of_mem_drop h)
    · exact Or.inl h
theorem all_leave {Q : Int → Prop} : ∀ {r : List Un} {cs : List Int}, (∀ c ∈ cs, Q c) → (∀ u ∈ r, u.k = 1 → Q u.c) → ∀ c ∈ leave r cs, Q c
  | [], _, h, _ => h
  | u :: r, cs, h, hu => all_leave (r := r) (cs := behind u cs) (fun c hc => by
      rcases mem_behind hc with hc | ⟨hk, rfl⟩
      · exact h c hc
      · exact hu u (List.mem_cons_self ..) hk) (fun v hv => hu v (List.mem_cons_of_mem _ hv))
/-- a row that touches what is of P alone, where what it brings is of P -/
theorem only_all {P : Int → Prop} : ∀ {r : List Un} {cs : List Int}, (∀ c ∈ cs, P c) → (∀ u ∈ r, u.k = 1 → P u.c) → OnlyR P r cs
  | [], _, _, _ => trivial
  | u :: r, cs, h, hu => ⟨⟨hu u (List.mem_cons_self ..), fun _ c hc => h c (List.mem_of_getElem? hc)⟩, only_all (fun c hc => by
      rcases mem_behind hc with hc | ⟨hk, rfl⟩
      · exact h c hc
      · exact hu u (List.mem_cons_self ..) hk) (fun v hv => hu v (List.mem_cons_of_mem _ hv))⟩
/-- what an Ins brings stays, and what brings is an Ins -/
theorem over_kc (a b : Un) : (over a b).k = 0 ∨ (over a b).k = a.k ∧ (over a b).c = a.c := by
  unfold over pastIns pastDel
  repeat' split
  all_goals first | exact Or.inr ⟨rfl, rfl⟩ | exact Or.inl rfl
theorem over_c (a b : Un) (h : (over a b).k = 1) : a.k = 1 ∧ (over a b).c = a.c := by
  rcases over_kc a b with h2 | ⟨h2, h3⟩
  · rw [h2] at h; cases h
  · exact ⟨h2.symm.trans h, h3⟩
theorem thru_c (x : Un) (bs : List Un) : ((thru x bs).1.k = 1 → x.k = 1 ∧ (thru x bs).1.c = x.c) ∧ ∀ u ∈ (thru x bs).2, u.k = 1 → ∃ v ∈ bs, v.k = 1 ∧ u.c = v.c := by
  induction bs generalizing x with
  | nil => exact ⟨fun h => ⟨h, rfl⟩, fun u hu => by cases hu⟩
  | cons y bs ih =>
    obtain ⟨h1, h2⟩ := ih (over x y)
    refine ⟨fun h => ?_, fun u hu hk => ?_⟩
    · obtain ⟨a, b⟩ := h1 h
      obtain ⟨c, d⟩ := over_c x y a
      exact ⟨c, b.trans d⟩
    · rcases List.mem_cons.1 hu with rfl | hu
      · obtain ⟨c, d⟩ := over_c y x hk
        exact ⟨y, List.mem_cons_self .., c, d⟩
      · obtain ⟨v, hv, h⟩ := h2 u hu hk
        exact ⟨v, List.mem_cons_of_mem _ hv, h⟩
theorem both_c {Q : Int → Prop} (as bs : List Un) : ((∀ u ∈ as, u.k = 1 → Q u.c) → ∀ u ∈ (bothR as bs).1, u.k = 1 → Q u.c) ∧ ((∀ u ∈ bs, u.k = 1 → Q u.c) → ∀ u ∈ (bothR as bs).2, u.k = 1 → Q u.c) := by
  induction as generalizing bs with
  | nil => exact ⟨(fun _ u hu => by cases hu), fun h => h⟩
  | cons x as ih =>
    obtain ⟨h1, h2⟩ := thru_c x bs
    obtain ⟨g1, g2⟩ := ih (thru x bs).2
    refine ⟨fun h u hu hk => ?_, fun h => g2 fun u hu hk => ?_⟩
    · rcases List.mem_cons.1 hu with rfl | hu
      · obtain ⟨a, b⟩ := h1 hk
        rw [b]; exact h x (List.mem_cons_self ..) a
      · exact g1 (fun v hv => h v (List.mem_cons_of_mem _ hv)) u hu hk
    · obtain ⟨v, hv, hvk, e⟩ := h2 u hu hk
      rw [e]; exact h v hv hvk
/-! ### filled, and taken back -/
def fillU (u : Un) (cs : List Int) : Un := if u.k = 2 then ⟨u.k, u.p, cs.getD u.p.toNat 0, u.x, u.y⟩ else u
def fillL : List Un → List Int → List Un
  | [], _ => []
  | u :: r, cs => fillU u cs :: fillL r (behind u cs)
/-- each Del has what it takes out -/
def Filled : List Un → List Int → Prop
  | [], _ => True
  | u :: r, cs => (u.k = 2 → cs[u.p.toNat]? = some u.c) ∧ Filled r (behind u cs)
theorem fillU_k (u : Un) (cs : List Int) : (fillU u cs).k = u.k ∧ (fillU u cs).p = u.p ∧ (fillU u cs).x = u.x ∧ (fillU u cs).y = u.y := by
  unfold fillU; split <;> exact ⟨rfl, rfl, rfl, rfl⟩
theorem fillU_behind (u : Un) (cs ds : List Int) : behind (fillU u cs) ds = behind u ds := by
  unfold fillU
  split
  · rename_i h; unfold behind; simp only [h]; rfl
  · rfl
theorem fill_len (r : List Un) (cs : List Int) : (fillL r cs).length = r.length := by
  induction r generalizing cs with
  | nil => rfl
  | cons u r ih => simp [fillL, ih]
theorem fill_append (a b : List Un) (cs : List Int) : fillL (a ++ b) cs = fillL a cs ++ fillL b (leave a cs) := by
  induction a generalizing cs with
  | nil => rfl
  | cons u a ih => simp [fillL, ih, leave]
theorem fill_all {r : List Un} {cs : List Int} (hf : FitR r cs) (hm : ∀ c ∈ cs, May c) : FitR (fillL r cs) cs ∧ Filled (fillL r cs) cs ∧ leave (fillL r cs) cs = leave r cs := by
  induction r generalizing cs with
  | nil => exact ⟨trivial, trivial, rfl⟩
  | cons u r ih =>
    have hm2 : ∀ c ∈ behind u cs, May c := fun c hc => by
      rcases mem_behind hc with hc | ⟨hk, rfl⟩
      · exact hm c hc
      · rcases hf.1.1 with ⟨h0, _⟩ | ⟨_, _, h⟩
        · rw [h0] at hk; cases hk
        · exact h
    obtain ⟨g1, g2, g3⟩ := ih hf.2 hm2
    have hfu : Fit (fillU u cs) cs.length := by
      rcases fit_cases hf.1 with ⟨x, y, rfl⟩ | ⟨p, c, x, y, rfl, hp, hc⟩ | ⟨p, c, x, y, rfl, hp, hc⟩
      · exact hf.1
      · exact hf.1
      · refine fit_del x y hp ?_
        rw [Int.toNat_natCast, List.getD_eq_getElem?_getD, List.getElem?_eq_getElem hp]
        exact hm _ (List.getElem_mem hp)
    refine ⟨⟨hfu, by rw [fillU_behind]; exact g1⟩, ⟨fun hk => ?_, by rw [fillU_behind]; exact g2⟩, ?_⟩
    · rw [(fillU_k u cs).1] at hk
      have hp : u.p.toNat < cs.length := by have := hf.1.2.2 hk; have h0 : 0 ≤ u.p := by rcases hf.1.1 with ⟨h, _⟩ | ⟨_, h, _⟩ <;> omega
                                            omega
      rw [(fillU_k u cs).2.1, List.getElem?_eq_getElem hp]
      unfold fillU
      rw [if_pos hk]
      simp [List.getD_eq_getElem?_getD, hp]
    · show leave (fillL r (behind u cs)) (behind (fillU u cs) cs) = leave r (behind u cs)
      rw [fillU_behind]; exact g3
def invU (x y : Int) (u : Un) : Un := if u.k = 1 then ⟨2, u.p, 0, x, y⟩ else if u.k = 2 then ⟨1, u.p, u.c, x, y⟩ else ⟨0, 0, 0, x, y⟩
/-- the inverse of a row -/
def invR (x y : Int) (r : List Un) : List Un := (r.map (invU x y)).reverse
/-- the inverse, with what its Dels take out -/
def invF (x y : Int) (u : Un) : Un := if u.k = 1 then ⟨2, u.p, u.c, x, y⟩ else if u.k = 2 then ⟨1, u.p, u.c, x, y⟩ else ⟨0, 0, 0, x, y⟩
theorem inv_len (x y : Int) (r : List Un) : (invR x y r).length = r.length := by simp [invR]
theorem inv_cons (x y : Int) (u : Un) (r : List Un) : invR x y (u :: r) = invR x y r ++ [invU x y u] := by simp [invR]
theorem inv_ids (x y : Int) (r : List Un) : ∀ u ∈ invR x y r, u.x = x ∧ u.y = y := by
  intro u hu
  obtain ⟨v, _, rfl⟩ := List.mem_map.1 (List.mem_reverse.1 hu)
  unfold invU; split
  · exact ⟨rfl, rfl⟩
  · split <;> exact ⟨rfl, rfl⟩
theorem may_zero : May 0 := by unfold May; omega
theorem ins_again {p : Nat} {c : Int} {l : List Int} (h : l[p]? = some c) : insL p c (delL p l) = l := by
  have hp : p < l.length := (List.getElem?_eq_some_iff.1 h).1
  have e : l[p] = c := (List.getElem?_eq_some_iff.1 h).2
  have ht : (l.take p).length = p := by rw [List.length_take]; omega
  unfold insL delL
  rw [List.take_left' ht, List.drop_left' ht, ← e, ← List.drop_eq_getElem_cons hp, List.take_append_drop]
theorem inv_one {u : Un} {cs : List Int} (hf : Fit u cs.length) (hc : u.k = 2 → cs[u.p.toNat]? = some u.c) (x y : Int) :
    Fit (invU x y u) (behind u cs).length ∧ behind (invU x y u) (behind u cs) = cs ∧ fillU (invU x y u) (behind u cs) = invF x y u := by
  rcases fit_cases hf with ⟨x', y', rfl⟩ | ⟨p, c, x', y', rfl, hp, hm⟩ | ⟨p, c, x', y', rfl, hp, hm⟩
  · rw [behind_nop]
    exact ⟨fit_nop x y _, behind_nop 0 0 x y cs, rfl⟩
  · have e : invU x y ⟨1, (p : Int), c, x', y'⟩ = ⟨2, (p : Int), 0, x, y⟩ := rfl
    rw [e, behind_ins, behind_del]
    refine ⟨fit_del x y (by rw [len_insL hp]; omega) may_zero, del_back hp, ?_⟩
    unfold fillU invF
    simp only [if_true, Int.toNat_natCast]
    rw [List.getD_eq_getElem?_getD, get_insL hp, if_neg (by omega), if_pos rfl]
    rfl
  · have h := hc rfl
    rw [Int.toNat_natCast] at h
    have e : invU x y ⟨2, (p : Int), c, x', y'⟩ = ⟨1, (p : Int), c, x, y⟩ := rfl
    rw [e, behind_del, behind_ins]
    refine ⟨fit_ins x y (by have := len_delL hp; omega) hm, ins_again h, rfl⟩
/-- THERE AND BACK -/
theorem inv_back {r : List Un} {cs : List Int} (hf : FitR r cs) (hc : Filled r cs) (x y : Int) :
    FitR (invR x y r) (leave r cs) ∧ leave (invR x y r) (leave r cs) = cs ∧ fillL (invR x y r) (leave r cs) = (r.map (invF x y)).reverse := by
  induction r generalizing cs with
  | nil => exact ⟨trivial, rfl, rfl⟩
  | cons u r ih =>
    obtain ⟨g1, g2, g3⟩ := ih hf.2 hc.2
    obtain ⟨h1, h2, h3⟩ := inv_one hf.1 hc.1 x y
    rw [inv_cons, fitR_append, leave_append, fill_append]
    show (FitR _ (leave r (behind u cs)) ∧ FitR _ (leave _ (leave r (behind u cs)))) ∧ leave _ (leave _ (leave r (behind u cs))) = cs ∧ fillL _ (leave r (behind u cs)) ++ fillL _ (leave _ (leave r (behind u cs))) = _
    rw [g2, g3]
    refine ⟨⟨g1, h1, trivial⟩, h2, ?_⟩
    show _ ++ [fillU (invU x y u) (behind u cs)] = _
    rw [h3]
    simp
/-- the inverse touches what the row touched -/
theorem inv_only {P : Int → Prop} {r : List Un} {cs : List Int} (hf : FitR r cs) (hc : Filled r cs) (h : OnlyR P r cs) (x y : Int) : OnlyR P (invR x y r) (leave r cs) := by
  have happ : ∀ (a b : List Un) (ds : List Int), OnlyR P a ds → OnlyR P b (leave a ds) → OnlyR P (a ++ b) ds := by
    intro a
    induction a with
    | nil => intro b ds _ h; exact h
    | cons u a ih => intro b ds h1 h2; exact ⟨h1.1, ih b _ h1.2 h2⟩
  induction r generalizing cs with
  | nil => trivial
  | cons u r ih =>
    have g := ih hf.2 hc.2 h.2
    rw [inv_cons]
    refine happ _ _ _ g ?_
    show OnlyR P [invU x y u] (leave (invR x y r) (leave r (behind u cs)))
    rw [(inv_back hf.2 hc.2 x y).2.1]
    refine ⟨?_, trivial⟩
    rcases fit_cases hf.1 with ⟨x', y', rfl⟩ | ⟨p, c, x', y', rfl, hp, hm⟩ | ⟨p, c, x', y', rfl, hp, hm⟩
    · exact only_nop _ _ _ _
    · show Only P ⟨2, (p : Int), 0, x, y⟩ _
      rw [behind_ins]
      refine only_del.2 fun d hd => ?_
      rw [get_insL hp, if_neg (by omega), if_pos rfl] at hd
      injection hd with hd
      rw [← hd]
      exact only_ins.1 h.1
    · show Only P ⟨1, (p : Int), c, x, y⟩ _
      have h2 := hc.1 rfl
      rw [Int.toNat_natCast] at h2
      exact only_ins.2 (only_del.1 h.1 c h2)
end Pl
end Go.Proofs.Ytlnekhkdncccgaa
