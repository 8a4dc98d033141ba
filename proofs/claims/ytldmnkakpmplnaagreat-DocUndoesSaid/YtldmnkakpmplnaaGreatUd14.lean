/-
  What takes a row back, in plain words, ahead of the code of layer 9: which code points a row touches (and that this stays when it is carried over another row), a row filled, its inverse. Nothing of a program is named here. Conditions: those that each lemma states.
  Places by clients in plain words (a rising list), and as a map's datum; a map from clients to places in memory. Nothing of a program is named: the types' numbers are left open. Conditions: those that each states.
  What a range over a map of places has collected, in whatever order; the same, sorted; the map's laws at clients and places. Nothing of a program is named. Conditions: those that each states.
-/
import Derived.Test.YtldmnkakpmplnaaGreatUd11
import Derived.Test.YtldmnkakpmplnaaGreatUd00
import Derived.Maps.OwnSet
import Derived.Maps.OwnOps
import Derived.Maps.Ext
import Derived.Maps.RangeWalk
set_option maxRecDepth 100000
namespace Go.Proofs.YtldmnkakpmplnaaGreat
open Go.RowKit
open Pl (Un)
namespace Pl
def Only (P : Int → Prop) (u : Un) (cs : List Int) : Prop := (u.k = 1 → P u.c) ∧ (u.k = 2 → ∀ c, cs[u.p.toNat]? = some c → P c)
def OnlyR (P : Int → Prop) : List Un → List Int → Prop
  | [], _ => True
  | u :: r, cs => Only P u cs ∧ OnlyR P r (behind u cs)
theorem only_nop (P : Int → Prop) (x y : Int) (cs : List Int) : Only P ⟨0, 0, 0, x, y⟩ cs := ⟨(fun h => by cases h), fun h => by cases h⟩
theorem only_ins {P : Int → Prop} {p : Nat} {c x y : Int} {cs : List Int} : Only P ⟨1, (p : Int), c, x, y⟩ cs ↔ P c := ⟨fun h => h.1 rfl, fun h => ⟨fun _ => h, fun h => by cases h⟩⟩
theorem only_del {P : Int → Prop} {p : Nat} {c x y : Int} {cs : List Int} : Only P ⟨2, (p : Int), c, x, y⟩ cs ↔ ∀ d, cs[p]? = some d → P d := ⟨fun h d hd => h.2 rfl d (by simpa using hd), fun h => ⟨(fun h => by cases h), fun _ d hd => h d (by simpa using hd)⟩⟩
theorem only_over {P : Int → Prop} {a b : Un} {cs : List Int} (hn : cs.length ≤ 1000) (ha : Fit a cs.length) (hb : Fit b cs.length) (h : Only P a cs) : Only P (over a b) (behind b cs) := by
  rcases fit_cases ha with ⟨x, y, rfl⟩ | ⟨p, c, x, y, rfl, hp, hc⟩ | ⟨p, c, x, y, rfl, hp, hc⟩
  · rw [over_nop_left]; exact only_nop _ _ _ _
  · have hP : P c := only_ins.1 h
    rcases fit_cases hb with ⟨x', y', rfl⟩ | ⟨q, d, x', y', rfl, hq, hd⟩ | ⟨q, d, x', y', rfl, hq, hd⟩
    · rw [over_nop_right]; exact only_ins.2 hP
    · rw [over_ins_ins hc hd (by omega)]; split <;> exact only_ins.2 hP
    · rw [over_ins_del hc hd (by omega)]; split <;> exact only_ins.2 hP
  · have hP : ∀ d, cs[p]? = some d → P d := only_del.1 h
    rcases fit_cases hb with ⟨x', y', rfl⟩ | ⟨q, d, x', y', rfl, hq, hd⟩ | ⟨q, d, x', y', rfl, hq, hd⟩
    · rw [over_nop_right, behind_nop]; exact h
    · rw [over_del_ins hc hd (by omega), behind_ins]
      split
      · rename_i hqp
        refine only_del.2 fun z hz => hP z ?_
        rw [get_insL hq, if_neg (by omega), if_neg (by omega)] at hz
        simpa using hz
      · rename_i hqp
        refine only_del.2 fun z hz => hP z ?_
        rw [get_insL hq, if_pos (by omega)] at hz
        exact hz
    · rw [over_del_del hc hd (by omega), behind_del]
      split
      · rename_i hqp
        refine only_del.2 fun z hz => hP z ?_
        rw [get_delL (by omega), if_neg (by omega), show p - 1 + 1 = p by omega] at hz
        exact hz
      · split
        · exact only_nop _ _ _ _
        · refine only_del.2 fun z hz => hP z ?_
          rw [get_delL (by omega), if_pos (by omega)] at hz
          exact hz
theorem thru_only {P : Int → Prop} (x : Un) (bs : List Un) (cs : List Int) (hn : cs.length + bs.length ≤ 999) (hx : Fit x cs.length) (hb : FitR bs cs) (hid : ∀ y ∈ bs, x.x ≠ y.x) :
    (Only P x cs → Only P (thru x bs).1 (leave bs cs)) ∧ (OnlyR P bs cs → OnlyR P (thru x bs).2 (behind x cs)) := by
  induction bs generalizing x cs with
  | nil => exact ⟨fun h => h, fun _ => trivial⟩
  | cons y bs ih =>
    simp only [List.length_cons] at hn
    have hne : x.x ≠ y.x := hid y (List.mem_cons_self ..)
    obtain ⟨h1, h2, h3⟩ := both (a := x) (b := y) (cs := cs) (by omega) hx hb.1 (fun h => hne h.2.2.1)
    have hl := len_behind_le hb.1
    obtain ⟨g1, g2⟩ := ih (over x y) (behind y cs) (by omega) h2 hb.2 (fun z hz => by rw [(over_id x y).1]; exact hid z (List.mem_cons_of_mem _ hz))
    refine ⟨fun h => g1 (only_over (by omega) hx hb.1 h), fun h => ⟨only_over (by omega) hb.1 hx h.1, ?_⟩⟩
    rw [h3]; exact g2 h.2
theorem thru_ids (x : Un) (bs : List Un) : ∀ y ∈ (thru x bs).2, ∃ y0 ∈ bs, y.x = y0.x := by
  induction bs generalizing x with
  | nil => intro y hy; cases hy
  | cons y0 bs ih =>
    intro y hy
    rcases List.mem_cons.1 hy with rfl | hy
    · exact ⟨y0, List.mem_cons_self .., (over_id y0 x).1⟩
    · obtain ⟨y1, h1, h2⟩ := ih (over x y0) y hy
      exact ⟨y1, List.mem_cons_of_mem _ h1, h2⟩
theorem both_only {P : Int → Prop} (aas bs : List Un) (cs : List Int) (hn : cs.length + aas.length + bs.length ≤ 999) (ha : FitR aas cs) (hb : FitR bs cs) (hid : ∀ x ∈ aas, ∀ y ∈ bs, x.x ≠ y.x) :
    (OnlyR P aas cs → OnlyR P (bothR aas bs).1 (leave bs cs)) ∧ (OnlyR P bs cs → OnlyR P (bothR aas bs).2 (leave aas cs)) := by
  induction aas generalizing bs cs with
  | nil => exact ⟨fun _ => trivial, fun h => h⟩
  | cons x aas ih =>
    simp only [List.length_cons] at hn
    obtain ⟨h1, h2, h3⟩ := thru_square x bs cs (by omega) ha.1 hb (hid x (List.mem_cons_self ..))
    obtain ⟨o1, o2⟩ := thru_only (P := P) x bs cs (by omega) ha.1 hb (hid x (List.mem_cons_self ..))
    have hl := len_behind_le ha.1
    have hbl := len_thru x bs
    obtain ⟨g1, g2⟩ := ih (thru x bs).2 (behind x cs) (by omega) ha.2 h2 (fun z hz y hy => by
      obtain ⟨y0, hy0, e⟩ := thru_ids x bs y hy
      rw [e]
      exact hid z (List.mem_cons_of_mem _ hz) y0 hy0)
    refine ⟨fun h => ⟨o1 h.1, ?_⟩, fun h => g2 (o2 h)⟩
    rw [← h3]; exact g1 h.2
theorem only_filter {P : Int → Prop} [DecidablePred P] {u : Un} {cs : List Int} (hf : Fit u cs.length) (h : Only P u cs) : (behind u cs).filter (fun c => !decide (P c)) = cs.filter (fun c => !decide (P c)) := by
  rcases fit_cases hf with ⟨x, y, rfl⟩ | ⟨p, c, x, y, rfl, hp, hc⟩ | ⟨p, c, x, y, rfl, hp, hc⟩
  · rw [behind_nop]
  · have hP : P c := only_ins.1 h
    rw [behind_ins]
    unfold insL
    rw [List.filter_append, List.filter_cons_of_neg (by simpa using hP), ← List.filter_append, List.take_append_drop]
  · have hP : P cs[p] := only_del.1 h _ (List.getElem?_eq_getElem hp)
    rw [behind_del]
    unfold delL
    have e : cs = cs.take p ++ cs[p] :: cs.drop (p + 1) := by rw [← List.drop_eq_getElem_cons hp, List.take_append_drop]
    rw [List.filter_append]
    conv => rhs; rw [e]
    rw [List.filter_append, List.filter_cons_of_neg (by simpa using hP)]
theorem onlyR_filter {P : Int → Prop} [DecidablePred P] : ∀ {r : List Un} {cs : List Int}, FitR r cs → OnlyR P r cs → (leave r cs).filter (fun c => !decide (P c)) = cs.filter (fun c => !decide (P c))
  | [], _, _, _ => rfl
  | _ :: _, _, hf, h => (onlyR_filter hf.2 h.2).trans (only_filter hf.1 h.1)
theorem mem_behind {u : Un} {cs : List Int} {c : Int} (h : c ∈ behind u cs) : c ∈ cs ∨ u.k = 1 ∧ c = u.c := by
  unfold behind at h
  split at h
  · rename_i hk
    rcases List.mem_append.1 h with h | h
    · exact Or.inl (List.mem_of_mem_take h)
    · rcases List.mem_cons.1 h with h | h
      · exact Or.inr ⟨hk, h⟩
      · exact Or.inl (List.mem_of_mem_drop h)
  · split at h
    · rcases List.mem_append.1 h with h | h
      · exact Or.inl (List.mem_of_mem_take h)
      · exact Or.inl (List.mem_of_mem_drop h)
    · exact Or.inl h
theorem all_leave {Q : Int → Prop} : ∀ {r : List Un} {cs : List Int}, (∀ c ∈ cs, Q c) → (∀ u ∈ r, u.k = 1 → Q u.c) → ∀ c ∈ leave r cs, Q c
  | [], _, h, _ => h
  | u :: r, cs, h, hu => all_leave (r := r) (cs := behind u cs) (fun c hc => by
      rcases mem_behind hc with hc | ⟨hk, rfl⟩
      · exact h c hc
      · exact hu u (List.mem_cons_self ..) hk) (fun v hv => hu v (List.mem_cons_of_mem _ hv))
theorem only_all {P : Int → Prop} : ∀ {r : List Un} {cs : List Int}, (∀ c ∈ cs, P c) → (∀ u ∈ r, u.k = 1 → P u.c) → OnlyR P r cs
  | [], _, _, _ => trivial
  | u :: r, cs, h, hu => ⟨⟨hu u (List.mem_cons_self ..), fun _ c hc => h c (List.mem_of_getElem? hc)⟩, only_all (fun c hc => by
      rcases mem_behind hc with hc | ⟨hk, rfl⟩
      · exact h c hc
      · exact hu u (List.mem_cons_self ..) hk) (fun v hv => hu v (List.mem_cons_of_mem _ hv))⟩
theorem over_kc (a b : Un) : (over a b).k = 0 ∨ (over a b).k = a.k ∧ (over a b).c = a.c := by
  unfold over pastIns pastDel
  repeat' split
  all_goals first | exact Or.inr ⟨rfl, rfl⟩ | exact Or.inl rfl
theorem over_c (a b : Un) (h : (over a b).k = 1) : a.k = 1 ∧ (over a b).c = a.c := by
  rcases over_kc a b with h2 | ⟨h2, h3⟩
  · rw [h2] at h; cases h
  · exact ⟨h2.symm.trans h, h3⟩
theorem thru_c (x : Un) (bs : List Un) : ((thru x bs).1.k = 1 → x.k = 1 ∧ (thru x bs).1.c = x.c) ∧ ∀ u ∈ (thru x bs).2, u.k = 1 → ∃ v ∈ bs, v.k = 1 ∧ u.c = v.c := by
  induction bs generalizing x with
  | nil => exact ⟨fun h => ⟨h, rfl⟩, fun u hu => by cases hu⟩
  | cons y bs ih =>
    obtain ⟨h1, h2⟩ := ih (over x y)
    refine ⟨fun h => ?_, fun u hu hk => ?_⟩
    · obtain ⟨a, b⟩ := h1 h
      obtain ⟨c, d⟩ := over_c x y a
      exact ⟨c, b.trans d⟩
    · rcases List.mem_cons.1 hu with rfl | hu
      · obtain ⟨c, d⟩ := over_c y x hk
        exact ⟨y, List.mem_cons_self .., c, d⟩
      · obtain ⟨v, hv, h⟩ := h2 u hu hk
        exact ⟨v, List.mem_cons_of_mem _ hv, h⟩
theorem both_c {Q : Int → Prop} (aas bs : List Un) : ((∀ u ∈ aas, u.k = 1 → Q u.c) → ∀ u ∈ (bothR aas bs).1, u.k = 1 → Q u.c) ∧ ((∀ u ∈ bs, u.k = 1 → Q u.c) → ∀ u ∈ (bothR aas bs).2, u.k = 1 → Q u.c) := by
  induction aas generalizing bs with
  | nil => exact ⟨(fun _ u hu => by cases hu), fun h => h⟩
  | cons x aas ih =>
    obtain ⟨h1, h2⟩ := thru_c x bs
    obtain ⟨g1, g2⟩ := ih (thru x bs).2
    refine ⟨fun h u hu hk => ?_, fun h => g2 fun u hu hk => ?_⟩
    · rcases List.mem_cons.1 hu with rfl | hu
      · obtain ⟨a, b⟩ := h1 hk
        rw [b]; exact h x (List.mem_cons_self ..) a
      · exact g1 (fun v hv => h v (List.mem_cons_of_mem _ hv)) u hu hk
    · obtain ⟨v, hv, hvk, e⟩ := h2 u hu hk
      rw [e]; exact h v hv hvk
def fillU (u : Un) (cs : List Int) : Un := if u.k = 2 then ⟨u.k, u.p, cs.getD u.p.toNat 0, u.x, u.y⟩ else u
def fillL : List Un → List Int → List Un
  | [], _ => []
  | u :: r, cs => fillU u cs :: fillL r (behind u cs)
def Filled : List Un → List Int → Prop
  | [], _ => True
  | u :: r, cs => (u.k = 2 → cs[u.p.toNat]? = some u.c) ∧ Filled r (behind u cs)
theorem fillU_k (u : Un) (cs : List Int) : (fillU u cs).k = u.k ∧ (fillU u cs).p = u.p ∧ (fillU u cs).x = u.x ∧ (fillU u cs).y = u.y := by
  unfold fillU; split <;> exact ⟨rfl, rfl, rfl, rfl⟩
theorem fillU_behind (u : Un) (cs ds : List Int) : behind (fillU u cs) ds = behind u ds := by
  unfold fillU
  split
  · rename_i h; unfold behind; simp only [h]; rfl
  · rfl
theorem fill_len (r : List Un) (cs : List Int) : (fillL r cs).length = r.length := by
  induction r generalizing cs with
  | nil => rfl
  | cons u r ih => simp [fillL, ih]
theorem fill_append (a b : List Un) (cs : List Int) : fillL (a ++ b) cs = fillL a cs ++ fillL b (leave a cs) := by
  induction a generalizing cs with
  | nil => rfl
  | cons u a ih => simp [fillL, ih, leave]
theorem fill_all {r : List Un} {cs : List Int} (hf : FitR r cs) (hm : ∀ c ∈ cs, May c) : FitR (fillL r cs) cs ∧ Filled (fillL r cs) cs ∧ leave (fillL r cs) cs = leave r cs := by
  induction r generalizing cs with
  | nil => exact ⟨trivial, trivial, rfl⟩
  | cons u r ih =>
    have hm2 : ∀ c ∈ behind u cs, May c := fun c hc => by
      rcases mem_behind hc with hc | ⟨hk, rfl⟩
      · exact hm c hc
      · rcases hf.1.1 with ⟨h0, _⟩ | ⟨_, _, h⟩
        · rw [h0] at hk; cases hk
        · exact h
    obtain ⟨g1, g2, g3⟩ := ih hf.2 hm2
    have hfu : Fit (fillU u cs) cs.length := by
      rcases fit_cases hf.1 with ⟨x, y, rfl⟩ | ⟨p, c, x, y, rfl, hp, hc⟩ | ⟨p, c, x, y, rfl, hp, hc⟩
      · exact hf.1
      · exact hf.1
      · refine fit_del x y hp ?_
        rw [Int.toNat_natCast, List.getD_eq_getElem?_getD, List.getElem?_eq_getElem hp]
        exact hm _ (List.getElem_mem hp)
    refine ⟨⟨hfu, by rw [fillU_behind]; exact g1⟩, ⟨fun hk => ?_, by rw [fillU_behind]; exact g2⟩, ?_⟩
    · rw [(fillU_k u cs).1] at hk
      have hp : u.p.toNat < cs.length := by have := hf.1.2.2 hk; have h0 : 0 ≤ u.p := by rcases hf.1.1 with ⟨h, _⟩ | ⟨_, h, _⟩ <;> omega
                                            omega
      rw [(fillU_k u cs).2.1, List.getElem?_eq_getElem hp]
      unfold fillU
      rw [if_pos hk]
      simp [List.getD_eq_getElem?_getD, hp]
    · show leave (fillL r (behind u cs)) (behind (fillU u cs) cs) = leave r (behind u cs)
      rw [fillU_behind]; exact g3
def invU (x y : Int) (u : Un) : Un := if u.k = 1 then ⟨2, u.p, 0, x, y⟩ else if u.k = 2 then ⟨1, u.p, u.c, x, y⟩ else ⟨0, 0, 0, x, y⟩
def invR (x y : Int) (r : List Un) : List Un := (r.map (invU x y)).reverse
def invF (x y : Int) (u : Un) : Un := if u.k = 1 then ⟨2, u.p, u.c, x, y⟩ else if u.k = 2 then ⟨1, u.p, u.c, x, y⟩ else ⟨0, 0, 0, x, y⟩
theorem inv_len (x y : Int) (r : List Un) : (invR x y r).length = r.length := by simp [invR]
theorem inv_cons (x y : Int) (u : Un) (r : List Un) : invR x y (u :: r) = invR x y r ++ [invU x y u] := by simp [invR]
theorem inv_ids (x y : Int) (r : List Un) : ∀ u ∈ invR x y r, u.x = x ∧ u.y = y := by
  intro u hu
  obtain ⟨v, _, rfl⟩ := List.mem_map.1 (List.mem_reverse.1 hu)
  unfold invU; split
  · exact ⟨rfl, rfl⟩
  · split <;> exact ⟨rfl, rfl⟩
theorem may_zero : May 0 := by unfold May; omega
theorem ins_again {p : Nat} {c : Int} {l : List Int} (h : l[p]? = some c) : insL p c (delL p l) = l := by
  have hp : p < l.length := (List.getElem?_eq_some_iff.1 h).1
  have e : l[p] = c := (List.getElem?_eq_some_iff.1 h).2
  have ht : (l.take p).length = p := by rw [List.length_take]; omega
  unfold insL delL
  rw [List.take_left' ht, List.drop_left' ht, ← e, ← List.drop_eq_getElem_cons hp, List.take_append_drop]
theorem inv_one {u : Un} {cs : List Int} (hf : Fit u cs.length) (hc : u.k = 2 → cs[u.p.toNat]? = some u.c) (x y : Int) :
    Fit (invU x y u) (behind u cs).length ∧ behind (invU x y u) (behind u cs) = cs ∧ fillU (invU x y u) (behind u cs) = invF x y u := by
  rcases fit_cases hf with ⟨x', y', rfl⟩ | ⟨p, c, x', y', rfl, hp, hm⟩ | ⟨p, c, x', y', rfl, hp, hm⟩
  · rw [behind_nop]
    exact ⟨fit_nop x y _, behind_nop 0 0 x y cs, rfl⟩
  · have e : invU x y ⟨1, (p : Int), c, x', y'⟩ = ⟨2, (p : Int), 0, x, y⟩ := rfl
    rw [e, behind_ins, behind_del]
    refine ⟨fit_del x y (by rw [len_insL hp]; omega) may_zero, del_back hp, ?_⟩
    unfold fillU invF
    simp only [if_true, Int.toNat_natCast]
    rw [List.getD_eq_getElem?_getD, get_insL hp, if_neg (by omega), if_pos rfl]
    rfl
  · have h := hc rfl
    rw [Int.toNat_natCast] at h
    have e : invU x y ⟨2, (p : Int), c, x', y'⟩ = ⟨1, (p : Int), c, x, y⟩ := rfl
    rw [e, behind_del, behind_ins]
    refine ⟨fit_ins x y (by have := len_delL hp; omega) hm, ins_again h, rfl⟩
theorem inv_back {r : List Un} {cs : List Int} (hf : FitR r cs) (hc : Filled r cs) (x y : Int) :
    FitR (invR x y r) (leave r cs) ∧ leave (invR x y r) (leave r cs) = cs ∧ fillL (invR x y r) (leave r cs) = (r.map (invF x y)).reverse := by
  induction r generalizing cs with
  | nil => exact ⟨trivial, rfl, rfl⟩
  | cons u r ih =>
    obtain ⟨g1, g2, g3⟩ := ih hf.2 hc.2
    obtain ⟨h1, h2, h3⟩ := inv_one hf.1 hc.1 x y
    rw [inv_cons, fitR_append, leave_append, fill_append]
    show (FitR _ (leave r (behind u cs)) ∧ FitR _ (leave _ (leave r (behind u cs)))) ∧ leave _ (leave _ (leave r (behind u cs))) = cs ∧ fillL _ (leave r (behind u cs)) ++ fillL _ (leave _ (leave r (behind u cs))) = _
    rw [g2, g3]
    refine ⟨⟨g1, h1, trivial⟩, h2, ?_⟩
    show _ ++ [fillU (invU x y u) (behind u cs)] = _
    rw [h3]
    simp
theorem inv_only {P : Int → Prop} {r : List Un} {cs : List Int} (hf : FitR r cs) (hc : Filled r cs) (h : OnlyR P r cs) (x y : Int) : OnlyR P (invR x y r) (leave r cs) := by
  have happ : ∀ (a b : List Un) (ds : List Int), OnlyR P a ds → OnlyR P b (leave a ds) → OnlyR P (a ++ b) ds := by
    intro a
    induction a with
    | nil => intro b ds _ h; exact h
    | cons u a ih => intro b ds h1 h2; exact ⟨h1.1, ih b _ h1.2 h2⟩
  induction r generalizing cs with
  | nil => trivial
  | cons u r ih =>
    have g := ih hf.2 hc.2 h.2
    rw [inv_cons]
    refine happ _ _ _ g ?_
    show OnlyR P [invU x y u] (leave (invR x y r) (leave r (behind u cs)))
    rw [(inv_back hf.2 hc.2 x y).2.1]
    refine ⟨?_, trivial⟩
    rcases fit_cases hf.1 with ⟨x', y', rfl⟩ | ⟨p, c, x', y', rfl, hp, hm⟩ | ⟨p, c, x', y', rfl, hp, hm⟩
    · exact only_nop _ _ _ _
    · show Only P ⟨2, (p : Int), 0, x, y⟩ _
      rw [behind_ins]
      refine only_del.2 fun d hd => ?_
      rw [get_insL hp, if_neg (by omega), if_pos rfl] at hd
      injection hd with hd
      rw [← hd]
      exact only_ins.1 h.1
    · show Only P ⟨1, (p : Int), c, x, y⟩ _
      have h2 := hc.1 rfl
      rw [Int.toNat_natCast] at h2
      exact only_ins.2 (only_del.1 h.1 c h2)
end Pl
end Go.Proofs.YtldmnkakpmplnaaGreat
namespace Go.Proofs.YtldmnkakpmplnaaGreat
open Go.RowKit
namespace Pl
abbrev Mks := List (Int × Int)
def Rising (M : Mks) : Prop := M.Pairwise (fun a b => a.1 < b.1)
def getM (M : Mks) (c : Int) : Option Int := (M.find? (fun p => p.1 == c)).map (·.2)
def delM (M : Mks) (c : Int) : Mks := M.filter (fun p => !(p.1 == c))
def insM (x : Int × Int) : Mks → Mks
  | [] => [x]
  | y :: r => if x.1 < y.1 then x :: y :: r else y :: insM x r
def putM (M : Mks) (c v : Int) : Mks := insM (c, v) (delM M c)
def goM (f : Int → Int) (M : Mks) : Mks := M.map (fun p => (p.1, f p.2))
theorem mem_ins {x p : Int × Int} : ∀ {M : Mks}, p ∈ insM x M ↔ p = x ∨ p ∈ M
  | [] => by simp [insM]
  | y :: r => by
    unfold insM
    split
    · simp
    · simp only [List.mem_cons, mem_ins (M := r)]
      constructor
      · rintro (h | h | h) <;> simp [h]
      · rintro (h | h | h) <;> simp [h]
theorem mem_del {M : Mks} {c : Int} {p : Int × Int} : p ∈ delM M c ↔ p ∈ M ∧ p.1 ≠ c := by simp [delM]
theorem rising_del {M : Mks} (h : Rising M) (c : Int) : Rising (delM M c) := List.Pairwise.filter _ h
theorem rising_ins {x : Int × Int} : ∀ {M : Mks}, Rising M → (∀ p ∈ M, p.1 ≠ x.1) → Rising (insM x M)
  | [], _, _ => by simp [insM, Rising]
  | y :: r, h, hn => by
    have h1 := List.pairwise_cons.1 h
    unfold insM
    split
    · rename_i hxy
      refine List.pairwise_cons.2 ⟨fun p hp => ?_, h⟩
      rcases List.mem_cons.1 hp with rfl | hp
      · exact hxy
      · have := h1.1 p hp; omega
    · rename_i hxy
      refine List.pairwise_cons.2 ⟨fun p hp => ?_, rising_ins h1.2 (fun p hp => hn p (List.mem_cons_of_mem _ hp))⟩
      rcases mem_ins.1 hp with rfl | hp
      · have := hn y (List.mem_cons_self ..); omega
      · exact h1.1 p hp
theorem rising_put {M : Mks} (h : Rising M) (c v : Int) : Rising (putM M c v) := rising_ins (rising_del h c) (fun _ hp => (mem_del.1 hp).2)
theorem rising_go {M : Mks} (h : Rising M) (f : Int → Int) : Rising (goM f M) := by
  unfold goM Rising
  rw [List.pairwise_map]
  exact h
theorem rising_nil : Rising [] := List.Pairwise.nil
theorem get_iff {M : Mks} (h : Rising M) {c v : Int} : getM M c = some v ↔ (c, v) ∈ M := by
  induction M with
  | nil => simp [getM]
  | cons y r ih =>
    have h1 := List.pairwise_cons.1 h
    obtain ⟨a, x⟩ := y
    unfold getM at ih ⊢
    rw [List.find?_cons]
    by_cases e : a = c
    · subst e
      simp only [beq_self_eq_true, Option.map_some, Option.some.injEq, List.mem_cons, Prod.mk.injEq, true_and]
      constructor
      · intro h; exact Or.inl h.symm
      · rintro (h2 | h2)
        · exact h2.symm
        · have := h1.1 _ h2; simp at this
    · have e2 : (a == c) = false := by simpa using e
      simp only [e2, List.mem_cons, Prod.mk.injEq]
      rw [ih h1.2]
      constructor
      · intro h; exact Or.inr h
      · rintro (⟨h2, _⟩ | h2)
        · exact absurd h2.symm e
        · exact h2
theorem get_none {M : Mks} {c : Int} : getM M c = none ↔ ∀ p ∈ M, p.1 ≠ c := by
  unfold getM
  rw [Option.map_eq_none_iff, List.find?_eq_none]
  simp
theorem opt_ext {a b : Option Int} (h : ∀ v, a = some v ↔ b = some v) : a = b := by
  cases a with
  | none =>
    cases b with
    | none => rfl
    | some y => exact absurd ((h y).2 rfl) (by simp)
  | some x => exact ((h x).1 rfl).symm
theorem get_put {M : Mks} (h : Rising M) (c v d : Int) : getM (putM M c v) d = if d = c then some v else getM M d := by
  refine opt_ext fun z => ?_
  rw [get_iff (rising_put h c v)]
  unfold putM
  rw [mem_ins, mem_del, Prod.mk.injEq]
  split
  · rename_i e
    subst e
    constructor
    · rintro (⟨_, h2⟩ | ⟨_, h2⟩)
      · rw [h2]
      · exact absurd rfl h2
    · intro h2; exact Or.inl ⟨rfl, (Option.some.inj h2).symm⟩
  · rename_i e
    rw [get_iff h]
    constructor
    · rintro (⟨h2, _⟩ | ⟨h2, _⟩)
      · exact absurd h2 e
      · exact h2
    · intro h2; exact Or.inr ⟨h2, e⟩
theorem get_del {M : Mks} (h : Rising M) (c d : Int) : getM (delM M c) d = if d = c then none else getM M d := by
  refine opt_ext fun z => ?_
  rw [get_iff (rising_del h c), mem_del]
  split
  · rename_i e
    subst e
    simp
  · rename_i e
    rw [get_iff h]
    exact ⟨fun h2 => h2.1, fun h2 => ⟨h2, e⟩⟩
theorem get_go {M : Mks} (f : Int → Int) (d : Int) : getM (goM f M) d = (getM M d).map f := by
  unfold getM goM
  rw [List.find?_map, Option.map_map, Option.map_map]
  rfl
theorem mks_ext {M N : Mks} (hM : Rising M) (hN : Rising N) (h : ∀ c, getM M c = getM N c) : M = N := by
  have hp : ∀ p, p ∈ M ↔ p ∈ N := fun p => by
    obtain ⟨c, v⟩ := p
    rw [← get_iff hM, ← get_iff hN, h c]
  induction M generalizing N with
  | nil =>
    cases N with
    | nil => rfl
    | cons y r => exact absurd ((hp y).2 (List.mem_cons_self ..)) (by simp)
  | cons x r ih =>
    cases N with
    | nil => exact absurd ((hp x).1 (List.mem_cons_self ..)) (by simp)
    | cons y s =>
      have h1 := List.pairwise_cons.1 hM
      have h2 := List.pairwise_cons.1 hN
      have e : x = y := by
        rcases List.mem_cons.1 ((hp x).1 (List.mem_cons_self ..)) with e | hx
        · exact e
        · rcases List.mem_cons.1 ((hp y).2 (List.mem_cons_self ..)) with e | hy
          · exact e.symm
          · have := h1.1 y hy; have := h2.1 x hx; omega
      subst e
      congr 1
      refine ih h1.2 h2.2 (fun c => ?_) (fun p => ?_)
      · refine opt_ext fun v => ?_
        rw [get_iff h1.2, get_iff h2.2]
        constructor
        · intro hr
          rcases List.mem_cons.1 ((hp (c, v)).1 (List.mem_cons_of_mem _ hr)) with e | hs
          · rw [← e] at h1; exact absurd (h1.1 _ hr) (by simp)
          · exact hs
        · intro hs
          rcases List.mem_cons.1 ((hp (c, v)).2 (List.mem_cons_of_mem _ hs)) with e | hr
          · rw [← e] at h2; exact absurd (h2.1 _ hs) (by simp)
          · exact hr
      · constructor
        · intro hr
          rcases List.mem_cons.1 ((hp p).1 (List.mem_cons_of_mem _ hr)) with e | hs
          · subst e; exact absurd (h1.1 _ hr) (by omega)
          · exact hs
        · intro hs
          rcases List.mem_cons.1 ((hp p).2 (List.mem_cons_of_mem _ hs)) with e | hr
          · subst e; exact absurd (h2.1 _ hs) (by omega)
          · exact hr
end Pl
section
variable {H : Type}
def ent (p : Int × Int) : Lit × DataW H := (Lit.int .u32 p.1, DataW.lit (Lit.int .i64 p.2))
def dat (M : Pl.Mks) : DataW H := .map (M.map ent)
theorem same_u32 (a c : Int) : (Lit.int .u32 a).sameKey (Lit.int .u32 c) = (a == c) := by
  unfold Lit.sameKey
  rw [Bool.eq_iff_iff, decide_eq_true_iff, beq_iff_eq]
  simp
theorem before_u32 (a c : Int) : (Lit.int .u32 a).before (Lit.int .u32 c) = decide (a < c) := rfl
theorem find_dat (M : Pl.Mks) (c : Int) : (M.map (ent (H := H))).find? (fun p => p.1.sameKey (.int .u32 c)) = (M.find? (fun p => p.1 == c)).map ent := by
  rw [List.find?_map]
  congr 2
  funext p
  exact same_u32 p.1 c
theorem has_dat (M : Pl.Mks) (c : Int) : Maps.has (dat M : DataW H) (.int .u32 c) = (Pl.getM M c).isSome := by
  unfold dat Pl.getM
  rw [Maps.has_eq, Option.isSome_map]
  induction M with
  | nil => rfl
  | cons y r ih =>
    rw [List.map_cons, List.any_cons, ih, List.find?_cons]
    have e : (ent (H := H) y).1.sameKey (.int .u32 c) = (y.1 == c) := same_u32 y.1 c
    rw [e]
    cases h : (y.1 == c) <;> simp
theorem at_dat (M : Pl.Mks) (c : Int) (z : DataW H) : (dat M).atKey (.int .u32 c) z = ((Pl.getM M c).map fun v => DataW.lit (Lit.int .i64 v)).getD z := by
  unfold dat DataW.atKey Pl.getM
  simp only
  rw [find_dat, Option.map_map]
  cases M.find? (fun p => p.1 == c) <;> rfl
theorem del_dat (M : Pl.Mks) (c : Int) : (dat M : DataW H).del (.int .u32 c) = dat (Pl.delM M c) := by
  unfold dat DataW.del Pl.delM
  simp only
  rw [List.filter_map]
  congr 3
  funext p
  show (!(Lit.int .u32 p.1).sameKey (.int .u32 c)) = _
  rw [same_u32]
theorem ins_dat (x : Int × Int) : ∀ M : Pl.Mks, DataW.insert (ent (H := H) x) (M.map ent) = (Pl.insM x M).map ent
  | [] => rfl
  | y :: r => by
    rw [List.map_cons]
    unfold DataW.insert Pl.insM
    have e : (ent (H := H) x).1.before (ent (H := H) y).1 = decide (x.1 < y.1) := before_u32 x.1 y.1
    rw [e, ins_dat x r]
    by_cases h : x.1 < y.1
    · rw [decide_eq_true h, if_pos rfl, if_pos h]; rfl
    · rw [decide_eq_false h, if_neg (by simp), if_neg h]; rfl
theorem put_dat (M : Pl.Mks) (c v : Int) : (dat M : DataW H).put (.int .u32 c) (.lit (.int .i64 v)) = dat (Pl.putM M c v) := by
  have h := del_dat (H := H) M c
  unfold dat DataW.del at h
  simp only [DataW.map.injEq] at h
  unfold dat DataW.put Pl.putM
  simp only
  rw [h]
  exact congrArg _ (ins_dat (c, v) (Pl.delM M c))
theorem size_dat (M : Pl.Mks) : Maps.size (dat M : DataW H) = M.length := by
  unfold dat
  rw [Maps.size_eq, List.length_map]
end
end Go.Proofs.YtldmnkakpmplnaaGreat
namespace Go.Proofs.YtldmnkakpmplnaaGreat
open Go.RowKit
namespace Pl
structure Coll (M : Mks) (left : Lit → Bool) (Cs : Mks) : Prop where
  apart : Cs.Pairwise (fun a b => a.1 ≠ b.1)
  mem : ∀ p, p ∈ Cs ↔ p ∈ M ∧ left (.int .u32 p.1) = false
theorem coll_step {M : Mks} {left : Lit → Bool} {Cs : Mks} (h : Coll M left Cs) (hM : Rising M) {x c : Int} (hl : left (.int .u32 x) = true) (hg : getM M x = some c) : Coll M (fun z => left z && !z.sameKey (.int .u32 x)) (Cs ++ [(x, c)]) := by
  have hx := (get_iff hM).1 hg
  refine ⟨?_, fun p => ?_⟩
  · rw [List.pairwise_append]
    refine ⟨h.apart, by simp, fun a ha b hb => ?_⟩
    rw [List.mem_singleton] at hb
    subst hb
    intro e
    have h2 := ((h.mem a).1 ha).2
    rw [e, hl] at h2
    cases h2
  · rw [List.mem_append, h.mem, List.mem_singleton, Bool.and_eq_false_iff, same_u32]
    obtain ⟨d, v⟩ := p
    constructor
    · rintro (⟨h1, h2⟩ | e)
      · exact ⟨h1, Or.inl h2⟩
      · cases e
        exact ⟨hx, Or.inr (by simp)⟩
    · rintro ⟨h1, h2 | h2⟩
      · exact Or.inl ⟨h1, h2⟩
      · have e : d = x := by simpa using h2
        subst e
        have := (get_iff hM).2 h1
        rw [hg] at this
        cases this
        exact Or.inr rfl
theorem coll_end {M : Mks} {left : Lit → Bool} {Cs : Mks} (h : Coll M left Cs) (hM : Rising M) (hl : ∀ k, left k = false) : Cs.Perm M := by
  have hn : ∀ {L : Mks}, L.Pairwise (fun a b => a.1 ≠ b.1) → L.Nodup := fun h => h.imp fun h e => h (by rw [e])
  refine (List.perm_ext_iff_of_nodup (hn h.apart) (hn (hM.imp fun h e => by omega))).2 fun p => ?_
  rw [h.mem]
  exact ⟨fun h => h.1, fun h => ⟨h, hl _⟩⟩
end Pl
end Go.Proofs.YtldmnkakpmplnaaGreat
