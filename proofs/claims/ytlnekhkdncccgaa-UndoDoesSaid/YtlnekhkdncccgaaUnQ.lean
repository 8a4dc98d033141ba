/-
  What layer 9's statements ask, in plain words, ahead of the code: there and back, selective, what stands apart, both in either order. Nothing of a program is named here. Conditions: those that each lemma states.
-/
import Derived.Test.YtlnekhkdncccgaaUnP
namespace Go.Proofs.Ytlnekhkdncccgaa
open Go.RowKit
open Pl (Un)
namespace Pl
theorem OnlyR.mono {P Q : Int → Prop} (hPQ : ∀ c, P c → Q c) : ∀ {r : List Un} {cs : List Int}, OnlyR P r cs → OnlyR Q r cs
  | [], _, _ => trivial
  | _ :: _, _, h => ⟨⟨fun hk => hPQ _ (h.1.1 hk), fun hk c hc => hPQ _ (h.1.2 hk c hc)⟩, OnlyR.mono hPQ h.2⟩
/-- what a row brings -/
def Brings (Q : Int → Prop) (r : List Un) : Prop := ∀ u ∈ r, u.k = 1 → Q u.c
theorem fill_brings {Q : Int → Prop} {r : List Un} {cs : List Int} (h : Brings Q r) : Brings Q (fillL r cs) := by
  induction r generalizing cs with
  | nil => intro u hu; cases hu
  | cons u r ih =>
    intro v hv hk
    rcases List.mem_cons.1 hv with rfl | hv
    · have hk2 := (fillU_k u cs).1
      rw [hk2] at hk
      have e : fillU u cs = u := by unfold fillU; rw [if_neg (by omega)]
      rw [e]; exact h u (List.mem_cons_self ..) hk
    · exact ih (fun z hz => h z (List.mem_cons_of_mem _ hz)) v hv hk
theorem fill_of {c : Int} {r : List Un} {cs : List Int} (h : Of c r) : Of c (fillL r cs) := by
  induction r generalizing cs with
  | nil => intro u hu; cases hu
  | cons u r ih =>
    intro v hv
    rcases List.mem_cons.1 hv with rfl | hv
    · rw [(fillU_k u cs).2.2.1]; exact h u (List.mem_cons_self ..)
    · exact ih (fun z hz => h z (List.mem_cons_of_mem _ hz)) v hv
/-- of what stands and is none of Q nothing stands twice -/
def Once (Q : Int → Prop) [DecidablePred Q] (cs : List Int) : Prop := (cs.filter (fun c => !decide (Q c))).Nodup
theorem once_gone {Q : Int → Prop} [DecidablePred Q] {cs : List Int} {p : Nat} {c : Int} (h : Once Q cs) (hc : cs[p]? = some c) (hq : ¬ Q c) : c ∉ delL p cs := by
  have hp : p < cs.length := (List.getElem?_eq_some_iff.1 hc).1
  have e : cs[p] = c := (List.getElem?_eq_some_iff.1 hc).2
  have e2 : cs = cs.take p ++ c :: cs.drop (p + 1) := by rw [← e, ← List.drop_eq_getElem_cons hp, List.take_append_drop]
  unfold Once at h
  rw [e2, List.filter_append, List.filter_cons_of_pos (by simpa using hq), List.nodup_append] at h
  obtain ⟨_, h2, h3⟩ := h
  rw [List.nodup_cons] at h2
  intro hm
  unfold delL at hm
  rcases List.mem_append.1 hm with hm | hm
  · exact h3 c (List.mem_filter.2 ⟨hm, by simpa using hq⟩) c (List.mem_cons_self ..) rfl
  · exact h2.1 (List.mem_filter.2 ⟨hm, by simpa using hq⟩)
theorem once_behind {Q : Int → Prop} [DecidablePred Q] {u : Un} {cs : List Int} (h : Once Q cs) (hb : u.k = 1 → Q u.c) : Once Q (behind u cs) := by
  unfold Once at *
  unfold behind
  split
  · rename_i hk
    rw [List.filter_append, List.filter_cons_of_neg (by simpa using hb hk), ← List.filter_append, List.take_append_drop]
    exact h
  · split
    · refine List.Nodup.sublist (List.Sublist.filter _ ?_) h
      conv => rhs; rw [← List.take_append_drop u.p.toNat cs]
      exact List.Sublist.append (List.Sublist.refl _) (List.drop_sublist_drop_left cs (Nat.le_succ _))
    · exact h
/-- a row that brings only of Q touches only what is of Q, or what it takes for good -/
theorem took_only {Q : Int → Prop} [DecidablePred Q] : ∀ {r : List Un} {cs : List Int}, FitR r cs → Brings Q r → Once Q cs → OnlyR (fun c => Q c ∨ c ∈ cs ∧ c ∉ leave r cs) r cs
  | [], _, _, _, _ => trivial
  | u :: r, cs, hf, hb, ho => by
    have hbr : Brings Q r := fun v hv => hb v (List.mem_cons_of_mem _ hv)
    have ih := took_only hf.2 hbr (once_behind ho (hb u (List.mem_cons_self ..)))
    refine ⟨⟨fun hk => Or.inl (hb u (List.mem_cons_self ..) hk), fun hk c hc => ?_⟩, OnlyR.mono (fun c h => ?_) ih⟩
    · by_cases hq : Q c
      · exact Or.inl hq
      · refine Or.inr ⟨List.mem_of_getElem? hc, fun hm => ?_⟩
        have hg := once_gone ho hc hq
        have hall := all_leave (Q := fun d => d ≠ c) (r := r) (cs := behind u cs) (fun d hd e => by
          rw [e] at hd
          rcases mem_behind hd with h1 | ⟨h1, _⟩
          · apply hg
            have e3 : behind u cs = delL u.p.toNat cs := by unfold behind delL; rw [if_neg (by omega), if_pos hk]
            rw [e3] at hd; exact hd
          · omega) (fun v hv hk2 e => hq (e ▸ hbr v hv hk2))
        exact hall c hm rfl
    · rcases h with h | ⟨h1, h2⟩
      · exact Or.inl h
      · rcases mem_behind h1 with h3 | ⟨h3, h4⟩
        · exact Or.inr ⟨h3, h2⟩
        · exact Or.inl (h4 ▸ hb u (List.mem_cons_self ..) h3)
/-- of what is none of Q, what a row that brings only of Q leaves stands in its order -/
theorem leave_sub {Q : Int → Prop} [DecidablePred Q] : ∀ {r : List Un} {cs : List Int}, Brings Q r → ((leave r cs).filter (fun c => !decide (Q c))).Sublist (cs.filter (fun c => !decide (Q c)))
  | [], _, _ => List.Sublist.refl _
  | u :: r, cs, hb => by
    refine (leave_sub (r := r) (cs := behind u cs) fun v hv => hb v (List.mem_cons_of_mem _ hv)).trans ?_
    unfold behind
    split
    · rename_i hk
      rw [List.filter_append, List.filter_cons_of_neg (by simpa using hb u (List.mem_cons_self ..) hk), ← List.filter_append, List.take_append_drop]
      exact List.Sublist.refl _
    · split
      · refine List.Sublist.filter _ ?_
        conv => rhs; rw [← List.take_append_drop u.p.toNat cs]
        exact List.Sublist.append (List.Sublist.refl _) (List.drop_sublist_drop_left cs (Nat.le_succ _))
      · exact List.Sublist.refl _
/-! ### the selective one -/
def R2 (c : Int) : Prop := 2000 ≤ c ∧ c < 3000
instance : DecidablePred R2 := fun c => by unfold R2; infer_instance
/-- what takes a row back, behind one later row -/
def back1 (x y : Int) (a b : List Un) : List Un := cleanL (bothR (invR x y a) b).1
/-- UndoSelects -/
theorem selects {A B : List Un} {T : List Int} {x y : Int} (hn : T.length + 2 * A.length + B.length ≤ 999) (hfA : FitR A T) (hc : Filled A T) (hbA : Brings R2 A) (hfB : FitR B (leave A T)) (hbB : Brings (fun c => 3000 ≤ c) B) (hid : ∀ v ∈ B, v.x ≠ x)
    (hT : ∀ c ∈ T, 1000 ≤ c ∧ c < 2000) (hT1 : T.Nodup) :
    FitR (back1 x y A B) (leave B (leave A T)) ∧ (∀ c ∈ leave (back1 x y A B) (leave B (leave A T)), ¬ R2 c) ∧
      (leave (back1 x y A B) (leave B (leave A T))).filter (fun c => !decide (c ∈ T ∧ c ∉ leave A T)) = (leave B (leave A T)).filter (fun c => !decide (R2 c)) ∧
      (leave (back1 x y A B) (leave B (leave A T))).filter (fun c => decide (c ∈ T ∧ c ∉ leave A T)) = T.filter (fun c => decide (c ∈ T ∧ c ∉ leave A T)) ∧
      ((leave (back1 x y A B) (leave B (leave A T))).filter (fun c => decide (c < 2000))).Sublist (T.filter (fun c => decide (c < 2000))) := by
  obtain ⟨N, hN⟩ : ∃ N, N = leave A T := ⟨_, rfl⟩
  obtain ⟨g1, g2, _⟩ := inv_back hfA hc x y
  rw [← hN] at g1 g2 hfB ⊢
  have hNl : N.length ≤ T.length + A.length := by rw [hN]; exact len_leave_le hfA
  have hlen : N.length + (invR x y A).length + B.length ≤ 999 := by rw [inv_len]; omega
  have hids : ∀ u ∈ invR x y A, ∀ v ∈ B, u.x ≠ v.x := fun u hu v hv => by rw [(inv_ids x y A u hu).1]; exact fun e => hid v hv e.symm
  obtain ⟨s1, s2, s3⟩ := square (invR x y A) B N hlen g1 hfB hids
  rw [g2] at s2 s3
  obtain ⟨E, hE⟩ : ∃ E, E = leave (back1 x y A B) (leave B N) := ⟨_, rfl⟩
  have hE1 : E = leave (bothR (invR x y A) B).1 (leave B N) := by rw [hE]; exact leave_clean _ _
  have hE2 : E = leave (bothR (invR x y A) B).2 T := hE1.trans s3.symm
  have hb2 : Brings (fun c => 3000 ≤ c) (bothR (invR x y A) B).2 := (both_c (invR x y A) B).2 hbB
  rw [← hE]
  have hno : ∀ c ∈ E, ¬ R2 c := by
    rw [hE2]
    exact all_leave (Q := fun c => ¬ R2 c) (fun c hc h => by have := hT c hc; unfold R2 at h; omega) (fun u hu hk h => by have := hb2 u hu hk; unfold R2 at h; omega)
  have hR2T : ∀ c ∈ T, ¬ R2 c := fun c hc h => by have := hT c hc; unfold R2 at h; omega
  have hth : ∀ c ∈ leave B N, c ∈ N ∨ 3000 ≤ c := all_leave (Q := fun c => c ∈ N ∨ 3000 ≤ c) (fun c hc => Or.inl hc) (fun u hu hk => Or.inr (hbB u hu hk))
  refine ⟨fit_clean _ _ s1, hno, ?_, ?_, ?_⟩
  · have ho : OnlyR (fun c => R2 c ∨ c ∈ T ∧ c ∉ N) A T := by
      have := took_only (Q := R2) hfA hbA (List.Nodup.sublist List.filter_sublist hT1)
      rw [← hN] at this; exact this
    have ho2 := inv_only hfA hc ho x y
    rw [← hN] at ho2
    have ho3 := (both_only (P := fun c => R2 c ∨ c ∈ T ∧ c ∉ N) (invR x y A) B N hlen g1 hfB hids).1 ho2
    have hfl := onlyR_filter s1 ho3
    rw [← hE1] at hfl
    have e1 : E.filter (fun c => !decide (c ∈ T ∧ c ∉ N)) = E.filter (fun c => !decide (R2 c ∨ c ∈ T ∧ c ∉ N)) := List.filter_congr fun c hc => by
      have := hno c hc
      simp [this]
    have e2 : (leave B N).filter (fun c => !decide (R2 c)) = (leave B N).filter (fun c => !decide (R2 c ∨ c ∈ T ∧ c ∉ N)) := List.filter_congr fun c hc => by
      have hnt : ¬ (c ∈ T ∧ c ∉ N) := fun h => by
        rcases hth c hc with h1 | h1
        · exact h.2 h1
        · have := hT c h.1; omega
      simp [hnt]
    rw [e1, e2, hfl]
  · have ho : OnlyR (fun c => ¬ (c ∈ T ∧ c ∉ N)) B N := only_all (fun c hc h => h.2 hc) (fun u hu hk h => by have := hbB u hu hk; have := hT _ h.1; omega)
    have ho2 := (both_only (P := fun c => ¬ (c ∈ T ∧ c ∉ N)) (invR x y A) B N hlen g1 hfB hids).2 ho
    rw [g2] at ho2
    have hfl := onlyR_filter s2 ho2
    rw [← hE2] at hfl
    have hd : ∀ l : List Int, l.filter (fun c => decide (c ∈ T ∧ c ∉ N)) = l.filter (fun c => !decide (¬ (c ∈ T ∧ c ∉ N))) := fun l => List.filter_congr fun c _ => by simp
    rw [hd, hd, hfl]
  · have hs := leave_sub (Q := fun c => ¬ c < 2000) (r := (bothR (invR x y A) B).2) (cs := T) (fun u hu hk => by have := hb2 u hu hk; omega)
    rw [← hE2] at hs
    have hd : ∀ l : List Int, l.filter (fun c => decide (c < 2000)) = l.filter (fun c => !decide (¬ c < 2000)) := fun l => List.filter_congr fun c _ => by by_cases h : c < 2000 <;> simp [h]
    rw [hd, hd]; exact hs
/-! ### what stands apart -/
/-- Ins far behind a length -/
def Far (q : Nat) (b : List Un) : Prop := ∀ u ∈ b, u.k = 1 ∧ May u.c ∧ ∃ p : Nat, u.p = (p : Int) ∧ q ≤ p ∧ p ≤ 50000
theorem far_over {x y : Un} {n q : Nat} (hn : n ≤ 1000) (hx : Fit x n) (hq : n < q) (hy : y.k = 1 ∧ May y.c ∧ ∃ p : Nat, y.p = (p : Int) ∧ q ≤ p ∧ p ≤ 50000) : over x y = x ∧ (over y x).k = 1 ∧ May (over y x).c ∧ ∃ p p' : Nat, y.p = (p : Int) ∧ (over y x).p = (p' : Int) ∧ (p' : Int) = p + grows x.k := by
  obtain ⟨k, yp, c, yx, yy⟩ := y
  obtain ⟨rfl, hc, p, rfl, hqp, hp5⟩ := hy
  simp only at hc
  rcases fit_cases hx with ⟨x', y', rfl⟩ | ⟨o, d, x', y', rfl, ho, hd⟩ | ⟨o, d, x', y', rfl, ho, hd⟩
  · rw [over_nop_left, over_nop_right]
    exact ⟨rfl, rfl, hc, p, p, rfl, rfl, by simp [grows]⟩
  · rw [over_ins_ins hd hc (by omega), if_neg (by omega), over_ins_ins hc hd (by omega), if_pos (by omega)]
    exact ⟨rfl, rfl, hc, p, p + 1, rfl, rfl, by simp [grows]⟩
  · rw [over_del_ins hd hc (by omega), if_neg (by omega), over_ins_del hc hd (by omega), if_pos (by omega)]
    exact ⟨rfl, rfl, hc, p, p - 1, rfl, rfl, by simp [grows]; omega⟩
theorem thru_far {x : Un} {n : Nat} (hn : n ≤ 1000) (hx : Fit x n) : ∀ (b : List Un) {q : Nat}, n < q → q ≤ 40000 → Far q b → (thru x b).1 = x ∧ ∀ q' : Nat, (q' : Int) = q + grows x.k → (∀ u ∈ b, ∃ p : Nat, u.p = (p : Int) ∧ p ≤ 45000) → Far q' (thru x b).2
  | [], _, _, _, _ => ⟨rfl, fun _ _ _ u hu => by cases hu⟩
  | y :: b, q, hq, hq2, hf => by
    obtain ⟨h1, h2, h3, p, p', h4, h5, h6⟩ := far_over hn hx hq (hf y (List.mem_cons_self ..))
    obtain ⟨i1, i2⟩ := thru_far hn hx b hq hq2 (fun u hu => hf u (List.mem_cons_of_mem _ hu))
    refine ⟨?_, fun q' hq' hb u hu => ?_⟩
    · show (thru (over x y) b).1 = x
      rw [h1]; exact i1
    · have hu' : u = over y x ∨ u ∈ (thru (over x y) b).2 := List.mem_cons.1 hu
      rw [h1] at hu'
      rcases hu' with rfl | hu'
      · obtain ⟨_, _, p2, e2, hp2, _⟩ := hf y (List.mem_cons_self ..)
        obtain ⟨p3, e3, hp3⟩ := hb y (List.mem_cons_self ..)
        have hg : -1 ≤ grows x.k ∧ grows x.k ≤ 1 := by unfold grows; split <;> (try split) <;> omega
        exact ⟨h2, h3, p', h5, by omega, by omega⟩
      · exact i2 q' hq' (fun v hv => hb v (List.mem_cons_of_mem _ hv)) u hu'
/-- a row behind what stands far behind it is as it was -/
theorem both_far : ∀ (a : List Un) {cs : List Int} {b : List Un} {q : Nat}, cs.length + a.length ≤ 900 → FitR a cs → cs.length < q → q + a.length ≤ 40000 → Far q b → (∀ u ∈ b, ∃ p : Nat, u.p = (p : Int) ∧ p + a.length ≤ 45000) → (bothR a b).1 = a
  | [], _, _, _, _, _, _, _, _, _ => rfl
  | x :: a, cs, b, q, hn, hf, hq, hq2, hb, hp => by
    simp only [List.length_cons] at hn hq2 hp
    have hg : -1 ≤ grows x.k ∧ grows x.k ≤ 1 := by unfold grows; split <;> (try split) <;> omega
    obtain ⟨q', hq'⟩ : ∃ q' : Nat, (q' : Int) = q + grows x.k := ⟨(q + grows x.k).toNat, by omega⟩
    obtain ⟨h1, h2⟩ := thru_far (n := cs.length) (by omega) hf.1 b hq (by omega) hb
    have h3 := h2 q' hq' (fun u hu => by obtain ⟨p, e, hp⟩ := hp u hu; exact ⟨p, e, by omega⟩)
    have hl := len_behind hf.1
    have hb2 : ∀ u ∈ (thru x b).2, ∃ p : Nat, u.p = (p : Int) ∧ p + a.length ≤ 45000 := by
      intro u hu
      have key : ∀ (b : List Un), Far q b → (∀ u ∈ b, ∃ p : Nat, u.p = (p : Int) ∧ p + (a.length + 1) ≤ 45000) → ∀ u ∈ (thru x b).2, ∃ p : Nat, u.p = (p : Int) ∧ p + a.length ≤ 45000 := by
        intro b
        induction b with
        | nil => intro _ _ u hu; cases hu
        | cons y b ih =>
          intro hf2 hp2 u hu
          obtain ⟨g1, _, _, p, p', g4, g5, g6⟩ := far_over (n := cs.length) (by omega) hf.1 hq (hf2 y (List.mem_cons_self ..))
          have hu' : u = over y x ∨ u ∈ (thru (over x y) b).2 := List.mem_cons.1 hu
          rw [g1] at hu'
          rcases hu' with rfl | hu'
          · obtain ⟨p2, e2, hp2⟩ := hp2 y (List.mem_cons_self ..)
            exact ⟨p', g5, by omega⟩
          · exact ih (fun v hv => hf2 v (List.mem_cons_of_mem _ hv)) (fun v hv => hp2 v (List.mem_cons_of_mem _ hv)) u hu'
      exact key b hb hp u hu
    have ih := both_far a (cs := behind x cs) (b := (thru x b).2) (q := q') (by have := len_behind_le hf.1; omega) hf.2 (by omega) (by omega) h3 hb2
    show (thru x b).1 :: (bothR a (thru x b).2).1 = x :: a
    rw [h1, ih]
/-- a text that goes on behind what a row touches -/
theorem leave_tail : ∀ {r : List Un} {cs t : List Int}, FitR r cs → leave r (cs ++ t) = leave r cs ++ t ∧ FitR r (cs ++ t)
  | [], _, _, _ => ⟨rfl, trivial⟩
  | u :: r, cs, t, h => by
    have e : behind u (cs ++ t) = behind u cs ++ t := by
      rcases fit_cases h.1 with ⟨x, y, rfl⟩ | ⟨p, c, x, y, rfl, hp, hc⟩ | ⟨p, c, x, y, rfl, hp, hc⟩
      · rw [behind_nop, behind_nop]
      · rw [behind_ins, behind_ins]; unfold insL
        rw [List.take_append_of_le_length hp, List.drop_append_of_le_length hp]; simp
      · rw [behind_del, behind_del]; unfold delL
        rw [List.take_append_of_le_length (by omega), List.drop_append_of_le_length (by omega)]; simp
    obtain ⟨h1, h2⟩ := leave_tail (t := t) h.2
    refine ⟨by show leave r (behind u (cs ++ t)) = _; rw [e]; exact h1, ?_, by show FitR r (behind u (cs ++ t)); rw [e]; exact h2⟩
    rcases fit_cases h.1 with ⟨x, y, rfl⟩ | ⟨p, c, x, y, rfl, hp, hc⟩ | ⟨p, c, x, y, rfl, hp, hc⟩
    · exact fit_nop _ _ _
    · exact fit_ins _ _ (by rw [List.length_append]; omega) hc
    · exact fit_del _ _ (by rw [List.length_append]; omega) hc
/-! ### both, in either order -/
def R3 (c : Int) : Prop := 3000 ≤ c
instance : DecidablePred R3 := fun c => by unfold R3; infer_instance
theorem clean_only {P : Int → Prop} : ∀ {r : List Un} {cs : List Int}, OnlyR P r cs → OnlyR P (cleanL r) cs
  | [], _, _ => trivial
  | u :: r, cs, h => by
    by_cases hk : u.k = 0
    · rw [show cleanL (u :: r) = cleanL r by simp [cleanL, hk]]
      have := clean_only h.2
      rw [behind_zero hk] at this
      exact this
    · rw [show cleanL (u :: r) = u :: cleanL r by simp [cleanL, hk]]
      exact ⟨h.1, clean_only h.2⟩
theorem clean_mem {r : List Un} {u : Un} (h : u ∈ cleanL r) : u ∈ r := (List.mem_filter.1 h).1
theorem filter_all {P : Int → Prop} [DecidablePred P] {l : List Int} (h : ∀ c ∈ l, P c) : l.filter (fun c => decide (P c)) = l := List.filter_eq_self.2 fun c hc => by simpa using h c hc
theorem filter_none {P : Int → Prop} [DecidablePred P] {l : List Int} (h : ∀ c ∈ l, ¬ P c) : l.filter (fun c => !decide (P c)) = l := List.filter_eq_self.2 fun c hc => by simpa using h c hc
/-- a row of Ins alone -/
def AllIns (r : List Un) : Prop := ∀ u ∈ r, u.k = 1
theorem ins_filled {r : List Un} {cs : List Int} (h : AllIns r) : Filled r cs := by
  induction r generalizing cs with
  | nil => trivial
  | cons u r ih => exact ⟨fun hk => by have := h u (List.mem_cons_self ..); omega, ih fun v hv => h v (List.mem_cons_of_mem _ hv)⟩
theorem ins_only {P : Int → Prop} {r : List Un} {cs : List Int} (h : AllIns r) (hb : Brings P r) : OnlyR P r cs := by
  induction r generalizing cs with
  | nil => trivial
  | cons u r ih => exact ⟨⟨fun hk => hb u (List.mem_cons_self ..) hk, fun hk => by have := h u (List.mem_cons_self ..); omega⟩, ih (fun v hv => h v (List.mem_cons_of_mem _ hv)) (fun v hv => hb v (List.mem_cons_of_mem _ hv))⟩
theorem inv_ins {r : List Un} (h : AllIns r) (x y : Int) (Q : Int → Prop) : Brings Q (invR x y r) := by
  intro u hu hk
  obtain ⟨v, hv, rfl⟩ := List.mem_map.1 (List.mem_reverse.1 hu)
  unfold invU at hk
  rw [if_pos (h v hv)] at hk
  cases hk
theorem pair_filter {P : Int → Prop} [DecidablePred P] {l m : List Int} (h : l.filter (fun c => !decide (P c)) = m.filter (fun c => !decide (P c))) (hl : ∀ c ∈ l, ¬ P c) (hm : ∀ c ∈ m, ¬ P c) : l = m := by
  rwa [filter_none hl, filter_none hm] at h
/-- UndoBoth: first the one's, then the other's, behind that -/
theorem both_first {A B : List Un} {T : List Int} {x y x' y' : Int} (hn : T.length + 2 * A.length + 3 * B.length ≤ 900) (hiA : AllIns A) (hiB : AllIns B) (hfA : FitR A T) (hfB : FitR B (leave A T)) (hbA : Brings R2 A) (hbB : Brings R3 B) (hid : ∀ v ∈ B, v.x ≠ x) (hxx : x ≠ x') (hT : ∀ c ∈ T, 1000 ≤ c ∧ c < 2000) :
    FitR (back1 x y A B) (leave B (leave A T)) ∧ FitR (cleanL (bothR (invR x' y' B) (back1 x y A B)).1) (leave (back1 x y A B) (leave B (leave A T))) ∧ leave (cleanL (bothR (invR x' y' B) (back1 x y A B)).1) (leave (back1 x y A B) (leave B (leave A T))) = T := by
  obtain ⟨g1, g2, _⟩ := inv_back hfA (ins_filled hiA) x y
  obtain ⟨k1, k2, _⟩ := inv_back hfB (ins_filled hiB) x' y'
  have hNl := len_leave_le hfA
  have hDl := len_leave_le hfB
  obtain ⟨N, hN⟩ : ∃ N, N = leave A T := ⟨_, rfl⟩
  obtain ⟨D, hD⟩ : ∃ D, D = leave B N := ⟨_, rfl⟩
  rw [← hN] at g1 g2 hfB k1 k2 hNl hDl ⊢
  rw [← hD] at k1 k2 hDl ⊢
  have hlen : N.length + (invR x y A).length + B.length ≤ 999 := by rw [inv_len]; omega
  have hids : ∀ u ∈ invR x y A, ∀ v ∈ B, u.x ≠ v.x := fun u hu v hv => by rw [(inv_ids x y A u hu).1]; exact fun e => hid v hv e.symm
  obtain ⟨s1, s2, s3⟩ := square (invR x y A) B N hlen g1 hfB hids
  rw [g2] at s2 s3
  rw [← hD] at s1 s3
  obtain ⟨X, hX⟩ : ∃ X, X = back1 x y A B := ⟨_, rfl⟩
  have hXf : FitR X D := by rw [hX]; exact fit_clean _ _ s1
  have hXl : X.length ≤ A.length := by
    rw [hX]; unfold back1
    have := len_clean (bothR (invR x y A) B).1
    have h2 := (len_both (invR x y A) B).1
    rw [inv_len] at h2; omega
  have hXx : ∀ u ∈ X, u.x = x := fun u hu => by
    rw [hX] at hu
    have hu := clean_mem hu
    have key : ∀ (as bs : List Un) (u : Un), u ∈ (bothR as bs).1 → ∃ v ∈ as, u.x = v.x := by
      intro as
      induction as with
      | nil => intro bs u hu; cases hu
      | cons z as ih =>
        intro bs u hu
        rcases List.mem_cons.1 hu with rfl | hu
        · exact ⟨z, List.mem_cons_self .., (thru_id z bs).1⟩
        · obtain ⟨v, hv, e⟩ := ih _ u hu
          exact ⟨v, List.mem_cons_of_mem _ hv, e⟩
    obtain ⟨v, hv, e⟩ := key _ _ u hu
    rw [e, (inv_ids x y A v hv).1]
  have hXb : ∀ Q : Int → Prop, Brings Q X := fun Q u hu hk => by
    rw [hX] at hu
    exact (both_c (Q := Q) (invR x y A) B).1 (inv_ins hiA x y Q) u (clean_mem hu) hk
  obtain ⟨p, hp⟩ : ∃ p, p = leave X D := ⟨_, rfl⟩
  have hp1 : p = leave (bothR (invR x y A) B).2 T := by
    rw [hp, hX]; unfold back1
    rw [leave_clean]; exact s3.symm
  rw [← hX, ← hp]
  have hlen2 : D.length + (invR x' y' B).length + X.length ≤ 999 := by rw [inv_len]; omega
  have hids2 : ∀ u ∈ invR x' y' B, ∀ v ∈ X, u.x ≠ v.x := fun u hu v hv => by rw [(inv_ids x' y' B u hu).1, hXx v hv]; exact fun e => hxx e.symm
  obtain ⟨t1, t2, t3⟩ := square (invR x' y' B) X D hlen2 k1 hXf hids2
  rw [k2] at t2 t3
  rw [← hp] at t1 t3
  refine ⟨hXf, fit_clean _ _ t1, ?_⟩
  rw [leave_clean]
  -- what stands at the end is none of R3
  have hTn : ∀ c ∈ T, ¬ R3 c := fun c hc h => by have := hT c hc; unfold R3 at h; omega
  have hNn : ∀ c ∈ N, ¬ R3 c := by rw [hN]; exact all_leave (Q := fun c => ¬ R3 c) hTn (fun u hu hk h => by have := hbA u hu hk; unfold R2 at this; unfold R3 at h; omega)
  have hq1 : ∀ c ∈ leave (bothR (invR x' y' B) X).1 p, ¬ R3 c := by
    rw [← t3]
    exact all_leave (Q := fun c => ¬ R3 c) hNn ((both_c (Q := fun c => ¬ R3 c) (invR x' y' B) X).2 (hXb (fun c => ¬ R3 c)))
  -- y touches R3 alone
  have hyo : OnlyR R3 (bothR (invR x' y' B) X).1 p := by
    have h1 := inv_only hfB (ins_filled hiB) (ins_only hiB hbB) x' y'
    rw [← hD] at h1
    have := (both_only (P := R3) (invR x' y' B) X D hlen2 k1 hXf hids2).1 h1
    rwa [← hp] at this
  have hf1 := onlyR_filter t1 hyo
  -- b behind what takes a back touches R3 alone
  have hbo : OnlyR R3 (bothR (invR x y A) B).2 T := by
    have := (both_only (P := R3) (invR x y A) B N hlen g1 hfB hids).2 (ins_only hiB hbB)
    rwa [g2] at this
  have hf2 := onlyR_filter s2 hbo
  rw [← hp1] at hf2
  exact pair_filter (hf1.trans hf2) hq1 hTn
/-- .. first the other's, then the one's, behind that -/
theorem both_second {A B : List Un} {T : List Int} {x y x' y' : Int} (hn : T.length + 2 * A.length + 3 * B.length ≤ 900) (hiA : AllIns A) (hiB : AllIns B) (hfA : FitR A T) (hfB : FitR B (leave A T)) (hbA : Brings R2 A) (hbB : Brings R3 B) (hid : ∀ v ∈ B, v.x ≠ x) (hxx : x ≠ x') (hT : ∀ c ∈ T, 1000 ≤ c ∧ c < 2000) :
    FitR (cleanL (invR x' y' B)) (leave B (leave A T)) ∧ leave (cleanL (invR x' y' B)) (leave B (leave A T)) = leave A T ∧
      FitR (cleanL (pastR (invR x y A) [B, cleanL (invR x' y' B)])) (leave A T) ∧ leave (cleanL (pastR (invR x y A) [B, cleanL (invR x' y' B)])) (leave A T) = T := by
  obtain ⟨g1, g2, _⟩ := inv_back hfA (ins_filled hiA) x y
  obtain ⟨k1, k2, _⟩ := inv_back hfB (ins_filled hiB) x' y'
  have hNl := len_leave_le hfA
  obtain ⟨N, hN⟩ : ∃ N, N = leave A T := ⟨_, rfl⟩
  rw [← hN] at g1 g2 hfB k1 k2 hNl ⊢
  obtain ⟨Z, hZ⟩ : ∃ Z, Z = cleanL (invR x' y' B) := ⟨_, rfl⟩
  have hZf : FitR Z (leave B N) := by rw [hZ]; exact fit_clean _ _ k1
  have hZl : leave Z (leave B N) = N := by rw [hZ, leave_clean]; exact k2
  have hZn : Z.length ≤ B.length := by rw [hZ]; have := len_clean (invR x' y' B); rw [inv_len] at this; omega
  have hZx : ∀ u ∈ Z, u.x = x' := fun u hu => by rw [hZ] at hu; exact (inv_ids x' y' B u (clean_mem hu)).1
  rw [← hZ]
  refine ⟨hZf, hZl, ?_⟩
  rw [past_two]
  have hfBZ : FitR (B ++ Z) N := (fitR_append B Z N).2 ⟨hfB, hZf⟩
  have hlBZ : leave (B ++ Z) N = N := by rw [leave_append]; exact hZl
  have hlen : N.length + (invR x y A).length + (B ++ Z).length ≤ 999 := by rw [inv_len, List.length_append]; omega
  have hids : ∀ u ∈ invR x y A, ∀ v ∈ B ++ Z, u.x ≠ v.x := fun u hu v hv => by
    rw [(inv_ids x y A u hu).1]
    rcases List.mem_append.1 hv with hv | hv
    · exact fun e => hid v hv e.symm
    · rw [hZx v hv]; exact hxx
  obtain ⟨s1, s2, s3⟩ := square (invR x y A) (B ++ Z) N hlen g1 hfBZ hids
  rw [g2] at s2 s3
  rw [hlBZ] at s1 s3
  refine ⟨fit_clean _ _ s1, ?_⟩
  rw [leave_clean]
  have hTn : ∀ c ∈ T, ¬ R2 c := fun c hc h => by have := hT c hc; unfold R2 at h; omega
  have hbs : Brings R3 (B ++ Z) := fun u hu hk => by
    rcases List.mem_append.1 hu with hu | hu
    · exact hbB u hu hk
    · rw [hZ] at hu; exact inv_ins hiB x' y' R3 u (clean_mem hu) hk
  have hq1 : ∀ c ∈ leave (bothR (invR x y A) (B ++ Z)).1 N, ¬ R2 c := by
    rw [← s3]
    exact all_leave (Q := fun c => ¬ R2 c) hTn (fun u hu hk h => by have := (both_c (Q := R3) (invR x y A) (B ++ Z)).2 hbs u hu hk; unfold R2 at h; unfold R3 at this; omega)
  have hwo : OnlyR R2 (bothR (invR x y A) (B ++ Z)).1 N := by
    have h1 := inv_only hfA (ins_filled hiA) (ins_only hiA hbA) x y
    rw [← hN] at h1
    have := (both_only (P := R2) (invR x y A) (B ++ Z) N hlen g1 hfBZ hids).1 h1
    rwa [hlBZ] at this
  have hf1 := onlyR_filter s1 hwo
  have hf2 := onlyR_filter hfA (ins_only (cs := T) hiA hbA)
  rw [← hN] at hf2
  exact pair_filter (hf1.trans hf2) hq1 hTn
end Pl
end Go.Proofs.Ytlnekhkdncccgaa
