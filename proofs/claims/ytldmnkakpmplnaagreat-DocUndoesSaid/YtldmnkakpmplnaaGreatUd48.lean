/-
  A document in plain words: an operation taken back behind another one's, and that taken back again (what DocUndoes looks at).
  Small calls of layer 9's law and of the document's own answer: numbered, Contains, the document's Clean. Conditions: those that each states.
-/
import Derived.Test.YtldmnkakpmplnaaGreatUd16
import Derived.Test.YtldmnkakpmplnaaGreatUd05
import Derived.Test.YtldmnkakpmplnaaGreatUd38
import Derived.Test.YtldmnkakpmplnaaGreatUd15
import Derived.BigQuiet
set_option maxRecDepth 100000
namespace Go.Proofs.YtldmnkakpmplnaaGreat
open Go.RowKit
open Pl (Un)
namespace Pl
structure Alike (u v : Un) : Prop where
  k : u.k = v.k
  p : u.p = v.p
  x : u.x = v.x
  y : u.y = v.y
  z : u.k = 0 → u.c = v.c
  m : May u.c ↔ May v.c
theorem Alike.refl (u : Un) : Alike u u := ⟨rfl, rfl, rfl, rfl, fun _ => rfl, Iff.rfl⟩
theorem Alike.okay {u v : Un} (h : Alike u v) : Okay u ↔ Okay v := by
  unfold Okay
  have h1 := h.k
  have h2 := h.p
  have h3 := h.z
  have h4 := h.m
  by_cases hk : u.k = 0
  · rw [h3 hk, h1, h2]
  · rw [← h1, ← h2, h4]
    constructor
    · rintro (h | h)
      · exact absurd h.1 hk
      · exact .inr h
    · rintro (h | h)
      · exact absurd h.1 hk
      · exact .inr h
theorem over_alike (a : Un) {u v : Un} (h : Alike u v) : over a u = over a v := by
  have h1 := h.k
  have h2 := h.p
  have h3 := h.x
  have h4 := h.y
  have h5 := h.okay
  have hi : pastIns a u = pastIns a v := by unfold pastIns; rw [h2, h3, h4]
  have hd : pastDel a u = pastDel a v := by unfold pastDel; rw [h2]
  unfold over
  rw [hi, hd, h1]
  by_cases hu : Okay u
  · simp only [hu, h5.1 hu]
  · have hv : ¬ Okay v := fun hv => hu (h5.2 hv)
    simp only [hu, hv]
theorem alike_over (a : Un) {u v : Un} (h : Alike u v) : Alike (over u a) (over v a) := by
  have h1 := h.k
  have h2 := h.p
  have h3 := h.x
  have h4 := h.y
  have h5 := h.okay
  have hi : Alike (pastIns u a) (pastIns v a) := by
    unfold pastIns
    rw [h1, h2, h3, h4]
    by_cases hc : a.p < v.p ∨ v.p = a.p ∧ (v.k = 2 ∨ First a.x a.y v.x v.y)
    · rw [if_pos hc, if_pos hc]
      exact ⟨rfl, rfl, rfl, rfl, (fun hz => h.z (h1.trans hz)), h.m⟩
    · rw [if_neg hc, if_neg hc]
      exact h
  have hd : Alike (pastDel u a) (pastDel v a) := by
    unfold pastDel
    rw [h1, h2, h3, h4]
    by_cases hc : a.p < v.p
    · rw [if_pos hc, if_pos hc]
      exact ⟨rfl, rfl, rfl, rfl, (fun hz => h.z (h1.trans hz)), h.m⟩
    · rw [if_neg hc, if_neg hc]
      by_cases he : v.p = a.p ∧ v.k = 2
      · rw [if_pos he, if_pos he]
        exact Alike.refl _
      · rw [if_neg he, if_neg he]
        exact h
  unfold over
  by_cases hu : Okay u ∧ Okay a ∧ u.k ≠ 0
  · have hv : Okay v ∧ Okay a ∧ v.k ≠ 0 := ⟨h5.1 hu.1, hu.2.1, fun hh => hu.2.2 (h1.trans hh)⟩
    rw [if_pos hu, if_pos hv]
    by_cases ha : a.k = 1
    · rw [if_pos ha, if_pos ha]; exact hi
    · rw [if_neg ha, if_neg ha]
      by_cases hb : a.k = 2
      · rw [if_pos hb, if_pos hb]; exact hd
      · rw [if_neg hb, if_neg hb]; exact h
  · rw [if_neg hu, if_neg (fun hv : Okay v ∧ Okay a ∧ v.k ≠ 0 => hu ⟨h5.2 hv.1, hv.2.1, fun hh => hv.2.2 (h1.symm.trans hh)⟩)]
    exact h
inductive AlikeR : List Un → List Un → Prop
  | nil : AlikeR [] []
  | cons {u v : Un} {a b : List Un} : Alike u v → AlikeR a b → AlikeR (u :: a) (v :: b)
theorem thru_alike (x : Un) {a b : List Un} (h : AlikeR a b) : (thru x a).1 = (thru x b).1 ∧ AlikeR (thru x a).2 (thru x b).2 := by
  induction h generalizing x with
  | nil => exact ⟨rfl, .nil⟩
  | @cons u v a b h1 _ ih =>
    simp only [thru, over_alike x h1]
    exact ⟨(ih (over x v)).1, .cons (alike_over x h1) (ih (over x v)).2⟩
theorem both_alike (aas : List Un) {a b : List Un} (h : AlikeR a b) : (bothR aas a).1 = (bothR aas b).1 := by
  induction aas generalizing a b with
  | nil => rfl
  | cons x r ih =>
    simp only [bothR, (thru_alike x h).1, ih (thru_alike x h).2]
theorem may_behind {u : Un} {cs : List Int} (h : Fit u cs.length) (hm : ∀ c ∈ cs, May c) : ∀ c ∈ behind u cs, May c := by
  intro c hc
  rcases mem_behind hc with h1 | ⟨h1, rfl⟩
  · exact hm c h1
  · have := h.1
    unfold Okay at this
    rcases this with h | h
    · omega
    · exact h.2.2
theorem fill_alike : ∀ {r : List Un} {cs : List Int}, FitR r cs → (∀ c ∈ cs, May c) → AlikeR (fillL r cs) r
  | [], _, _, _ => .nil
  | u :: r, cs, h, hm => by
    refine .cons ?_ (fill_alike h.2 (may_behind h.1 hm))
    unfold fillU
    split
    · rename_i hk
      have ho := h.1
      have hlt := ho.2.2 hk
      have h0 : 0 ≤ u.p := by
        have := ho.1
        unfold Okay at this
        omega
      have hin : u.p.toNat < cs.length := by omega
      have hmm : May (cs.getD u.p.toNat 0) := by
        rw [List.getD_eq_getElem?_getD, List.getElem?_eq_getElem hin]
        exact hm _ (List.getElem_mem hin)
      have hmu : May u.c := by
        have := ho.1
        unfold Okay at this
        rcases this with h | h
        · omega
        · exact h.2.2
      exact ⟨rfl, rfl, rfl, rfl, (fun hz => absurd (hk.symm.trans hz) (by decide)), ⟨fun _ => hmu, fun _ => hmm⟩⟩
    · exact Alike.refl _
namespace Dc
structure St (d : Dc) (P : List Op) (cs : List Int) : Prop where
  ok : Ok d
  on : ∀ c, c = 1 ∨ c = 2 ∨ c = 3 → getM d.L c = some 64
  fr : d.fr = 0
  P : d.P = P
  cs : d.cs = cs
variable {d : Dc} {P : List Op} {cs : List Int}
theorem St.core {d' : Dc} (h : St d P cs) (c : Core d d') (ho : Ok d') (hl : ∀ c, c = 1 ∨ c = 2 ∨ c = 3 → getM d'.L c = some 64) : St d' P cs := ⟨ho, hl, c.fr.trans h.fr, c.P.trans h.P, c.cs.trans h.cs⟩
theorem St.touch (h : St d P cs) : St (d.touched 0) P cs := h.core (core_touched d 0) (ok_touched h.ok 0) fun c hc => by
  have hw := get_drops (whichM false 0 d.L) h.ok.m.low c
  rw [drops_which h.ok.m.low] at hw
  show getM (thereM 0 d.L) c = some 64
  rw [hw, if_neg, h.on c hc]
  intro hin
  obtain ⟨p, hp, rfl⟩ := List.mem_map.1 hin
  have h1 := List.mem_filter.1 hp
  have h2 := h.on _ hc
  rw [get_iff h.ok.m.low] at h2
  have h3 := (get_iff h.ok.m.low).2 h1.1
  rw [(get_iff h.ok.m.low).2 h2] at h3
  have h4 : (64 : Int) = p.2 := by injection h3
  have h5 := h1.2
  rw [← h4] at h5
  exact absurd h5 (by decide)
theorem St.live (h : St d P cs) {c : Int} (hc : c = 1 ∨ c = 2 ∨ c = 3) : liveM d.L c 0 = true := by
  rw [live_some (h.on c hc)]; rfl
theorem St.now (h : St d P cs) : d.now = P.length := by unfold Dc.now; rw [h.fr, h.P, Nat.zero_add]
theorem St.renew (h : St d P cs) {c : Int} (hc : c = 1 ∨ c = 2 ∨ c = 3) : St (d.renewed c 0) P cs := by
  have hl := h.on c hc
  refine h.core (core_renewed d c 0) (ok_renewed h.ok (by rw [hl]; simp) (by omega) (by omega) (by omega)) fun x hx => ?_
  show getM (setL d.L c 0).2 x = some 64
  rw [get_setL h.ok.m.low (set_live (h.live hc) (by omega))]
  split
  · unfold tickM
    rw [hl]
    rfl
  · exact h.on x hx
theorem bars_fit {row : List Un} (hf : FitR (cleanL row) d.cs) (hl : (leave (cleanL row) d.cs).length ≤ 4096) (hc : d.P.length < 256) (hr : d.now < 1099511627776) : d.bars row = 0 := by
  unfold bars
  rw [long_of_fit hf, if_neg (by simp), if_neg (by omega), if_neg (by omega)]
theorem later_now (d : Dc) : d.later d.now = [] := by
  unfold later now
  rw [Nat.add_sub_cancel_left, List.drop_length]
theorem at_on {c : Int} (h : liveM (d.touched 0).L c 0 = true) (f : Dc → Dc × An) (he : (f (d.touched 0)).2.e = 0) : d.at_ c 0 f = ((f (d.touched 0)).1.renewed c 0, { (f (d.touched 0)).2 with rev := (f (d.touched 0)).1.now }) := by
  unfold at_
  rw [call_on (by omega)]
  simp only [h, if_true, he]
  rfl
theorem at_off {c e : Int} (h : liveM (d.touched 0).L c 0 = true) (f : Dc → Dc × An) (hf : f (d.touched 0) = (d.touched 0, fails e)) (he : e ≠ 0) : d.at_ c 0 f = (d.touched 0, fails e) := by
  unfold at_
  rw [call_on (by omega)]
  simp only [h, if_true, hf]
  have : ¬ (fails e).e = 0 := he
  simp only [this, if_false]
theorem St.edit (h : St d P cs) {x y : Int} (hx : x = 1 ∨ x = 2 ∨ x = 3) {row : List Un} (hi : ∀ u ∈ row, Okay u ∧ u.x = x ∧ u.y = y) (hk : ∀ u ∈ row, u.k ≠ 0) (hl : row.length ≤ 256) (hf : FitR row cs) (h4 : (leave row cs).length ≤ 4096) (hc : P.length < 256) :
    (d.edit x y P.length row 0).2.e = 0 ∧ St (d.edit x y P.length row 0).1 (P ++ [⟨x, y, fillL row cs, false⟩]) (leave row cs) := by
  have ht := h.touch
  have hcl : cleanL row = row := List.filter_eq_self.2 fun u hu => by simpa using hk u hu
  have hnow := ht.now
  have hlater := later_now (d.touched 0)
  rw [hnow] at hlater
  have hrow : (d.touched 0).editRow P.length row = row := by unfold editRow; rw [hlater]; rfl
  have hb : (d.touched 0).bars row = 0 := bars_fit (by rw [hcl, ht.cs]; exact hf) (by rw [hcl, ht.cs]; exact h4) (by rw [ht.P]; exact hc) (by rw [hnow]; omega)
  have hlong : (d.touched 0).long P.length = cs.length := by
    have := ht.ok.p.len
    rw [ht.cs] at this
    unfold long
    rw [this, ht.fr, Nat.sub_zero, ht.P, List.take_length]
  have he : (d.touched 0).editE x y P.length row = 0 := by
    unfold editE
    rw [if_neg (by
      rintro ⟨u, hu, hh⟩
      have := hi u hu
      rcases hh with hh | hh | hh
      · exact hh this.1
      · exact hh this.2.1
      · exact hh this.2.2)]
    have hp : (place (d.touched 0).fr (d.touched 0).P.length 0 P.length).2 = 0 := place_zero.2 (by rw [ht.fr, ht.P]; omega)
    rw [if_neg (fun hh => hh hp), if_neg (by omega), hlong, long_of_fit hf, if_neg (by simp), hrow, hb]
  have hbeh : St ((d.touched 0).behind x y row) (P ++ [⟨x, y, fillL row cs, false⟩]) (leave row cs) := by
    refine ⟨ok_behind ht.ok hb hl fun u hu => (hi u hu).2, ht.on, ht.fr, ?_, ?_⟩
    · show (d.touched 0).P ++ [⟨x, y, fillL (cleanL row) (d.touched 0).cs, false⟩] = _
      rw [ht.P, ht.cs, hcl]
    · show leave (cleanL row) (d.touched 0).cs = _
      rw [ht.cs, hcl]
  unfold Dc.edit
  have hne : ¬ (d.touched 0).editE x y P.length row ≠ 0 := fun hh => hh he
  rw [at_on (ht.live hx) _ (by simp only [if_neg hne])]
  simp only [if_neg hne, hrow]
  exact ⟨trivial, hbeh.renew hx⟩
theorem St.undo_no (h : St d P cs) {x y : Int} (hx : x = 1 ∨ x = 2 ∨ x = 3) {rev : Nat} {e : Int} (hr : (d.touched 0).undoE x y rev = e) (he : e ≠ 0) : d.undo x y rev 0 = (d.touched 0, fails e) := by
  unfold Dc.undo
  refine at_off (h.touch.live hx) _ ?_ he
  rw [if_pos (by rw [hr]; exact he), hr]
theorem St.undo (h : St d P cs) {x y : Int} (hx : x = 1 ∨ x = 2 ∨ x = 3) {rev : Nat} (h1 : 1 ≤ rev) (h2 : rev ≤ P.length) {R : List Un} (hR : backR x y (P.getD (rev - 1) default).l (rowsO (P.drop rev)) = R) (ho : (P.getD (rev - 1) default).x = x) (hu : (P.getD (rev - 1) default).b = false)
    (hf : FitR R cs) (h4 : (leave R cs).length ≤ 4096) (hc : P.length < 256) :
    (d.undo x y rev 0).2.e = 0 ∧ St (d.undo x y rev 0).1 ((P ++ [(⟨x, y, fillL R cs, false⟩ : Op)]).set (rev - 1) { (P ++ [(⟨x, y, fillL R cs, false⟩ : Op)]).getD (rev - 1) default with b := true }) (leave R cs) := by
  have ht := h.touch
  have hcl : cleanL R = R := by rw [← hR]; exact clean_clean _
  have hop : (d.touched 0).opAt rev = P.getD (rev - 1) default := by unfold opAt; rw [ht.P, ht.fr, Nat.sub_zero]
  have hrow : (d.touched 0).undoRow x y rev = R := by unfold undoRow later; rw [hop, ht.P, ht.fr, Nat.sub_zero]; exact hR
  have hb : (d.touched 0).bars R = 0 := bars_fit (by rw [hcl, ht.cs]; exact hf) (by rw [hcl, ht.cs]; exact h4) (by rw [ht.P]; exact hc) (by rw [ht.now]; omega)
  have he : (d.touched 0).undoE x y rev = 0 := by
    unfold undoE
    have hp : (place (d.touched 0).fr (d.touched 0).P.length 1 rev).2 = 0 := place_zero.2 (by rw [ht.fr, ht.P]; omega)
    rw [if_neg (by omega), if_neg (fun hh => hh hp), hop, if_neg (fun hh => hh ho), hu, if_neg (by decide), hrow, hb]
  have hr := undo_row ht.ok he
  rw [hrow] at hr
  have hbeh : St (((d.touched 0).behind x y R).mark (rev - 1)) ((P ++ [(⟨x, y, fillL R cs, false⟩ : Op)]).set (rev - 1) { (P ++ [(⟨x, y, fillL R cs, false⟩ : Op)]).getD (rev - 1) default with b := true }) (leave R cs) := by
    refine ⟨ok_mark (ok_behind ht.ok hb hr.1 hr.2) _, ht.on, ht.fr, ?_, ?_⟩
    · show (((d.touched 0).P ++ [(⟨x, y, fillL (cleanL R) (d.touched 0).cs, false⟩ : Op)]).set (rev - 1) { ((d.touched 0).P ++ [(⟨x, y, fillL (cleanL R) (d.touched 0).cs, false⟩ : Op)]).getD (rev - 1) default with b := true }) = _
      rw [ht.P, ht.cs, hcl]
    · show leave (cleanL R) (d.touched 0).cs = _
      rw [ht.cs, hcl]
  unfold Dc.undo
  have hne : ¬ (d.touched 0).undoE x y rev ≠ 0 := fun hh => hh he
  rw [at_on (ht.live hx) _ (by simp only [if_neg hne])]
  simp only [if_neg hne, hrow]
  rw [ht.fr]
  exact ⟨trivial, hbeh.renew hx⟩
theorem both_undone {T : List Int} {A B : List Un} {P0 : List Op} (h : St d P0 T) (h0 : P0.length = 1) (hT : ∀ c ∈ T, 1000 ≤ c ∧ c < 2000) (hT1 : T.Nodup) (hTn : T.length ≤ 30)
    (hA : ∀ u ∈ A, Okay u ∧ u.x = 1 ∧ u.y = 1) (hAk : ∀ u ∈ A, u.k ≠ 0) (hAn : A.length ≤ 12) (hAf : FitR A T) (hAb : Brings R2 A)
    (hB : ∀ u ∈ B, Okay u ∧ u.x = 2 ∧ u.y = 1) (hBk : ∀ u ∈ B, u.k ≠ 0) (hBn : B.length ≤ 12) (hBf : FitR B (leave A T)) (hBb : Brings (fun c => 3000 ≤ c) B) :
    ∃ d2 d3 d4 d5 : Dc, (d.edit 1 1 1 A 0).2.e = 0 ∧ (d.edit 1 1 1 A 0).1 = d2 ∧ d2.cs = leave A T ∧ Ok d2 ∧
      (d2.edit 2 1 2 B 0).2.e = 0 ∧ (d2.edit 2 1 2 B 0).1 = d3 ∧ d3.cs = leave B (leave A T) ∧ Ok d3 ∧
      d3.undo 2 2 2 0 = (d3.touched 0, fails 33) ∧
      ((d3.touched 0).undo 1 2 2 0).2.e = 0 ∧ ((d3.touched 0).undo 1 2 2 0).1 = d4 ∧ FitR (backR 1 2 (fillL A T) [B]) (leave B (leave A T)) ∧ d4.cs = leave (backR 1 2 (fillL A T) [B]) (leave B (leave A T)) ∧ Ok d4 ∧ (∀ c ∈ d4.cs, ¬ R2 c) ∧
      d4.undo 1 3 2 0 = (d4.touched 0, fails 34) ∧
      ((d4.touched 0).undo 1 4 4 0).2.e = 0 ∧ ((d4.touched 0).undo 1 4 4 0).1 = d5 ∧ d5.cs = leave B (leave A T) ∧ Ok d5 := by
  obtain ⟨o0, hP0⟩ : ∃ o, P0 = [o] := by
    match P0, h0 with
    | [o], _ => exact ⟨o, rfl⟩
  subst hP0
  have hmT : ∀ c ∈ T, May c := fun c hc => by have := hT c hc; unfold May; omega
  have lA := len_leave_le hAf
  have e2 := h.edit (x := 1) (y := 1) (.inl rfl) hA hAk (by omega) hAf (by omega) (by show 1 < 256; decide)
  obtain ⟨d2, hd2⟩ : ∃ x, x = (d.edit 1 1 1 A 0).1 := ⟨_, rfl⟩
  have s2 := e2.2
  rw [show ([o0] : List Op).length = 1 from rfl, ← hd2] at s2
  have lB := len_leave_le hBf
  have e3 := s2.edit (x := 2) (y := 1) (.inr (.inl rfl)) hB hBk (by omega) hBf (by omega) (by show 2 < 256; decide)
  obtain ⟨d3, hd3⟩ : ∃ x, x = (d2.edit 2 1 2 B 0).1 := ⟨_, rfl⟩
  have s3 := e3.2
  rw [show ([o0] ++ [(⟨1, 1, fillL A T, false⟩ : Op)]).length = 2 from rfl, ← hd3] at s3
  obtain ⟨fA1, fA2, fA3⟩ := fill_all hAf hmT
  have hmA : ∀ c ∈ leave A T, May c := may_leave hAf hmT
  obtain ⟨fB1, fB2, fB3⟩ := fill_all hBf hmA
  have hal : backR 1 2 (fillL A T) [fillL B (leave A T)] = backR 1 2 (fillL A T) [B] := by
    show cleanL (bothR _ _).1 = cleanL (bothR _ _).1
    rw [both_alike _ (fill_alike hBf hmA)]
  have hsel := selects (A := fillL A T) (B := fillL B (leave A T)) (T := T) (x := 1) (y := 2) (by rw [fill_len, fill_len]; omega) fA1 fA2 (fill_brings hAb) (by rw [fA3]; exact fB1) (fill_brings hBb)
    (fun v hv => by
      obtain ⟨u, hu, _, _, hx, _⟩ := fill_mem hv
      rw [hx, (hB u hu).2.1]
      decide) hT hT1
  have hback : back1 1 2 (fillL A T) (fillL B (leave A T)) = backR 1 2 (fillL A T) [B] := hal
  rw [hback, fA3, fB3] at hsel
  obtain ⟨R, hR⟩ : ∃ R, R = backR 1 2 (fillL A T) [B] := ⟨_, rfl⟩
  obtain ⟨Z, hZ⟩ : ∃ Z, Z = leave B (leave A T) := ⟨_, rfl⟩
  rw [← hR, ← hZ] at hsel
  rw [← hZ] at s3 lB
  rw [← hR] at hal
  have hRn : R.length ≤ 12 := by
    rw [hR]
    exact Nat.le_trans (back_len _ _ _ _) (by rw [fill_len]; exact hAn)
  have lR := len_leave_le hsel.1
  have h33 := s3.undo_no (x := 2) (y := 2) (.inr (.inl rfl)) (rev := 2) (e := 33) (by
    unfold undoE opAt
    rw [s3.touch.fr, s3.touch.P]
    rfl) (by decide)
  have s3' := s3.touch
  have e4 := s3'.undo (x := 1) (y := 2) (.inl rfl) (rev := 2) (R := R) (by decide) (by show 2 ≤ 3; decide) (by rw [← hal]; rfl) rfl rfl hsel.1 (by omega) (by show 3 < 256; decide)
  obtain ⟨d4, hd4⟩ : ∃ x, x = ((d3.touched 0).undo 1 2 2 0).1 := ⟨_, rfl⟩
  have s4 := e4.2
  rw [← hd4] at s4
  have h34 := s4.undo_no (x := 1) (y := 3) (.inl rfl) (rev := 2) (e := 34) (by
    unfold undoE opAt
    rw [s4.touch.fr, s4.touch.P]
    rfl) (by decide)
  have s4' := s4.touch
  have hmZ : ∀ c ∈ Z, May c := by rw [hZ]; exact may_leave hBf hmA
  obtain ⟨fR1, fR2, fR3⟩ := fill_all hsel.1 hmZ
  obtain ⟨g1, g2, _⟩ := inv_back fR1 fR2 1 4
  rw [fR3] at g1 g2
  have hlen5 : (leave (cleanL (invR 1 4 (fillL R Z))) (leave R Z)).length ≤ 4096 := by rw [leave_clean, g2]; omega
  have e5 := s4'.undo (x := 1) (y := 4) (.inl rfl) (rev := 4) (R := cleanL (invR 1 4 (fillL R Z))) (by decide) (by show 4 ≤ 4; decide) rfl rfl rfl (fit_clean _ _ g1) hlen5 (by show 4 < 256; decide)
  refine ⟨d2, d3, d4, _, e2.1, hd2.symm, s2.cs, s2.ok, e3.1, hd3.symm, s3.cs.trans hZ, s3.ok, h33, e4.1, hd4.symm, ?_, ?_, s4.ok, ?_, h34, e5.1, rfl, ?_, e5.2.ok⟩
  · rw [← hR, ← hZ]; exact hsel.1
  · rw [← hR, ← hZ]; exact s4.cs
  · rw [s4.cs]; exact hsel.2.1
  · rw [e5.2.cs, leave_clean, g2, hZ]
end Dc
end Pl
end Go.Proofs.YtldmnkakpmplnaaGreat
namespace Go.Proofs.YtldmnkakpmplnaaGreat
open Go.RowKit
open Pl (Un)
def Pl.numL (n : Nat) : List Int := (List.range n).map fun i : Nat => 1000 + (i : Int)
theorem Pl.num_len (n : Nat) : (Pl.numL n).length = n := by simp [Pl.numL]
theorem Pl.num_succ (n : Nat) : Pl.numL (n + 1) = Pl.numL n ++ [1000 + (n : Int)] := by unfold Pl.numL; rw [List.range_succ, List.map_append]; rfl
theorem Pl.num_mem {n : Nat} {c : Int} (h : c ∈ Pl.numL n) : ∃ i, i < n ∧ c = 1000 + (i : Int) := by
  obtain ⟨i, hi, rfl⟩ := List.mem_map.1 h
  exact ⟨i, List.mem_range.1 hi, rfl⟩
theorem Pl.num_nodup (n : Nat) : (Pl.numL n).Nodup := by
  unfold Pl.numL
  rw [List.nodup_iff_pairwise_ne, List.pairwise_map]
  refine List.Pairwise.imp ?_ (List.nodup_iff_pairwise_ne.1 (List.nodup_range (n := n)))
  intro a b h e
  apply h; omega
def NuR (w : World) (s i : Value) (wr : World) : Prop := ∃ (j : Nat) (A : Option Addr) (c : Nat), i = .int .i64 (j : Int) ∧ s = .slice A j c ∧ OwnC wr w.heap.size (.slice A j c) (Pl.numL j) ∧ Below w.heap.size w wr
end Go.Proofs.YtldmnkakpmplnaaGreat
