/-
  Contract of the closure that copybooklaw04.UtfOrder makes texts fit with. Condition: the text is within the form's reach.
-/
import Derived.Test.YtillndchojaniaaDoorUtfL
namespace Go.Proofs.YtillndchojaniaaDoor
open Go.RowKit

theorem OwnC.pos_ {w : World} {base n c : Nat} {A : Option Addr} {cs : List Int} (h : OwnC w base (.slice A n c) cs) (hn : 0 < n) : ∃ g, A = some ⟨g, 0, none⟩ ∧ base ≤ g := by
  rcases h.1.2 with ⟨e, _⟩ | ⟨g, cap, cur, e, hb, _⟩
  · injection e with e1 e2; omega
  · injection e with e1 e2 e3
    exact ⟨g, e1, hb⟩
/-- one code point turned -/
theorem OwnC.set_ {w : World} {base g n c : Nat} {cs : List Int} (h : OwnC w base (.slice (some ⟨g, 0, none⟩) n c) cs) (i : Nat) (x : Int) (hx : Pl.J x) :
    OwnC (w.setCell ⟨g, i, none⟩ (.int .i32 x)) base (.slice (some ⟨g, 0, none⟩) n c) (cs.set i x) ∧ w.grownBy (w.setCell ⟨g, i, none⟩ (.int .i32 x)) (some g) := by
  obtain ⟨hn, _⟩ := h.crs
  have h1 := h.1
  rw [← hn] at h1
  have hs := h1.stored i (.int .i32 x)
  refine ⟨⟨?_, ?_⟩, hs.2⟩
  · rw [List.length_set, cellsC_set, ← hn]; exact hs.1
  · intro y hy
    rcases List.mem_or_eq_of_mem_set hy with hy | rfl
    · exact h.2 y hy
    · exact hx
namespace Pl
theorem fit_step (cs : List Int) (j : Nat) (h : j < cs.length) : (fit (cs.take j) ++ cs.drop j).set j (fit1 (cs.getD j 0)) = fit (cs.take (j + 1)) ++ cs.drop (j + 1) := by
  have hl : (fit (cs.take j)).length = j := by rw [fit, List.length_map, List.length_take]; omega
  have e1 : fit (cs.take (j + 1)) = fit (cs.take j) ++ [fit1 (cs.getD j 0)] := by
    rw [take_snoc' cs j h, fit, fit, List.map_append]; rfl
  rw [List.set_append_right _ _ (by omega), hl, Nat.sub_self, List.drop_eq_getElem_cons h, List.set_cons_zero, e1, List.append_assoc]; rfl
theorem fit_at (cs : List Int) (j : Nat) (h : j < cs.length) : (fit (cs.take j) ++ cs.drop j).getD j 0 = cs.getD j 0 := by
  have hl : (fit (cs.take j)).length = j := by rw [fit, List.length_map, List.length_take]; omega
  rw [List.getD_eq_getElem?_getD, List.getElem?_append_right (by omega), hl, Nat.sub_self, List.getElem?_drop, List.getD_eq_getElem?_getD]; rfl
theorem fit_keep (cs : List Int) (j : Nat) (h : j < cs.length) (hm : May (cs.getD j 0)) : fit (cs.take j) ++ cs.drop j = fit (cs.take (j + 1)) ++ cs.drop (j + 1) := by
  have h1 := fit_step cs j h
  rw [fit1, if_pos hm] at h1
  have hl : (fit (cs.take j)).length = j := by rw [fit, List.length_map, List.length_take]; omega
  have h3 := h1
  rw [List.set_append_right _ _ (by omega), hl, Nat.sub_self, List.drop_eq_getElem_cons h, List.set_cons_zero] at h3
  rw [List.drop_eq_getElem_cons h, ← h3, List.getD_eq_getElem?_getD, List.getElem?_eq_getElem h]; rfl
end Pl
/-- fit's loop: the first j are made such as may be -/
def FtRel (w : World) (n : Nat) (cs : List Int) (A : Option Addr) (c : Nat) (i : Value) (wr : World) : Prop :=
  ∃ j : Nat, i = .int .i64 (j : Int) ∧ j ≤ n ∧ OwnC wr w.heap.size (.slice A n c) (Pl.fit (cs.take j) ++ cs.drop j) ∧ Below w.heap.size w wr

set_option maxRecDepth 100000 in
set_option maxHeartbeats 2000000 in
theorem fit_any (A : Option Addr) (n c : Nat) (cs : List Int) (w : World) (hA : Crs w w.heap.size A n c cs) (hr : n * 4 ≤ 140737488351232) :
    Calls Tryd.prog 21 #[.slice A n c] w fun e w' => ∃ A2 c2, e = .returned (.slice A2 n c2) ∧ OwnC w' w.heap.size (.slice A2 n c2) (Pl.fit cs) ∧ Below w.heap.size w w' := by
  have hle := hA.le
  have hcap := hA.cap
  unfold maxLen at hcap
  have HA := Lib.hid hA
  have HL := Lib.hid hA.len
  have HV := Lib.hid (OwnC.nil_ w w.heap.size)
  have HR := Lib.hid (show (0 + n) * 4 ≤ 140737488355328 by omega)
  have hn45 : n ≤ 35184372087808 := by omega
  clear hA hr
  go_enter Tryd.func21, Tryd.ntmps21
  go_wp2_with (at_builtin; refine wpList_append_crs w rfl (.const (.slice none 0 0)) (.tmp 5) rfl w.heap.size none 0 0 [] (by rfl) HV.out w.heap.size A n c cs (by rfl) HA.out HR.out (Nat.le_refl _) ?_)
  intro A2 c2 w2 hO2 hg2
  intros
  have hb2 := below_appendC HV.out hg2 (Below.refl _ w) (Nat.le_refl _)
  have HO2 := Lib.hid (show OwnC w2 w.heap.size (.slice A2 n c2) cs by simpa using hO2)
  have HB2 := Lib.hid hb2
  clear hO2 hg2 hb2
  have hc2 : n ≤ c2 ∧ c2 ≤ 9223372036854775807 := by
    have h1 := HO2.out.crs.2.le
    have h2 := HO2.out.crs.2.cap
    unfold maxLen at h2
    omega
  obtain ⟨hc21, hc22⟩ := hc2
  go_wp2_with fail
  go_loopw [4] (fun i wr => FtRel w n cs A2 c2 i wr) (fun i _ => n - (intOf i).toNat)
  case atStart => exact ⟨0, rfl, Nat.zero_le _, HO2.out, HB2.out⟩
  case round =>
    obtain ⟨j, rfl, hj, hO, hb⟩ := hrel
    have HB := Lib.hid hb
    clear hb
    by_cases hlt : j < n
    · obtain ⟨g, rfl, hbg⟩ := hO.pos_ (by omega)
      have hjl : j < cs.length := by have := HL.out; omega
      have hl : (Pl.fit (cs.take j) ++ cs.drop j).length = n := by rw [List.length_append, Pl.fit, List.length_map, List.length_take, List.length_drop, HL.out]; omega
      have hc := (hO.crs.2.at_ hlt)
      obtain ⟨g', o', e, _, hcell⟩ := hc
      cases e
      have hc := hcell j hlt
      rw [Pl.fit_at cs j hjl, Nat.zero_add] at hc
      have hf : wr.frozen? ⟨g, j, none⟩ = false := by
        have h1 := hO.1
        rw [hl] at h1
        exact h1.frozenAt j
      have hJ := Lib.hid (HA.out.getJ j)
      have HKEEP := Lib.hid (Pl.fit_keep cs j hjl)
      have HSTEP := Lib.hid (Pl.fit_step cs j hjl)
      have HSET := Lib.hid (fun x hx => hO.set_ j x hx)
      have HO := Lib.hid hO
      clear hcell hl hjl hO
      obtain ⟨x, hx⟩ : ∃ x, x = cs.getD j 0 := ⟨_, rfl⟩
      rw [← hx] at hc hJ HKEEP HSTEP
      clear hx
      have HM := Lib.hid (may_any x wr hJ.out)
      by_cases hm : Pl.May x
      · rw [decide_eq_true hm] at HM
        have HKE := Lib.hid (HKEEP.out hm)
        clear hm
        go_wp2_with fail
        refine HM.out.mono ?_
        rintro e w' ⟨rfl, rfl⟩
        go_wp2_with fail
        refine HM.out.mono ?_
        rintro e w' ⟨rfl, rfl⟩
        go_wp2_with fail
        go_roundw
        case rel => exact ⟨j + 1, by go_num, by omega, by rw [← HKE.out]; exact HO.out, HB.out⟩
        case measure => simp [intOf]; omega
      · rw [decide_eq_false hm] at HM
        have hfx : Pl.fit1 x = x % 32768 := by rw [Pl.fit1, if_neg hm]
        have hmy := Pl.fit1_may x
        rw [hfx] at hmy HSTEP
        have ha := and15 x
        obtain ⟨y, hy⟩ : ∃ y, y = x % 32768 := ⟨_, rfl⟩
        rw [← hy] at hmy HSTEP ha
        have hset := HSET.out y hmy.J
        rw [HSTEP.out] at hset
        have HO3 := Lib.hid hset.1
        have HB3 := Lib.hid (show Below w.heap.size w (wr.setCell ⟨g, j, none⟩ (.int .i32 y)) from HB.out.grown hset.2 HB.out.size (fun k e => by cases e; exact hbg))
        have HM2 := Lib.hid (may_any y (wr.setCell ⟨g, j, none⟩ (.int .i32 y)) hmy.J)
        rw [decide_eq_true hmy] at HM2
        clear hm hfx hmy hset hy
        go_wp2_with fail
        refine HM.out.mono ?_
        rintro e w' ⟨rfl, rfl⟩
        go_wp2_with fail
        refine HM2.out.mono ?_
        rintro e w' ⟨rfl, rfl⟩
        go_wp2_with fail
        go_roundw
        case rel => exact ⟨j + 1, by go_num, by omega, HO3.out, HB3.out⟩
        case measure => simp [intOf]; omega
    · have hjn : j = n := by omega
      have HE := Lib.hid (show Pl.fit (cs.take j) ++ cs.drop j = Pl.fit cs by
        rw [hjn, List.take_of_length_le (by rw [HL.out]; exact Nat.le_refl _), List.drop_of_length_le (by rw [HL.out]; exact Nat.le_refl _), List.append_nil])
      have HO := Lib.hid hO
      clear hjn hO
      go_wp2_with fail
      go_ret
      exact ⟨A2, c2, rfl, by rw [← HE.out]; exact HO.out, HB.out⟩
end Go.Proofs.YtillndchojaniaaDoor
