/-
  Words for a region that calls Over twice and lays both answers into two units of its own (allocs at operations 6 and 7, stores at 8 and 9). No conditions.
-/
import Derived.Test.YtogmddneimhpeaaUniF
import Derived.Test.YtogmddneimhpeaaBaseV
namespace Go.Proofs.Ytogmddneimhpeaa
open Go.RowKit
open Pl (Un)

theorem eval_other {a : Act} {t d : Nat} {v : Value} (h : t ≠ d) : (a.put (some d) v).eval (.tmp t) = a.eval (.tmp t) := by
  simp only [Act.eval, Act.put, Array.getD_eq_getD_getElem?, Array.getElem?_setIfInBounds]
  simp [Ne.symm h]
theorem eval_same {a : Act} {d : Nat} {v : Value} (h : d < a.tmps.size) : (a.put (some d) v).eval (.tmp d) = v := by
  simp only [Act.eval, Act.put, Array.getD_eq_getD_getElem?, Array.getElem?_setIfInBounds]
  simp [h]
/-- nothing is asked between one operation and the next -/
def PR (_ : Nat) (_ _ : World) : Prop := True
/-- one unit of the region's own: made by operation i, laid by operation j -/
def PH (W0 : World) (t i j : Nat) (k p c x y : Int) (L : Nat → Bool) (a : Act) (w : World) : Prop :=
  L i = true → ∃ b, a.eval (.tmp t) = .pointer (some ⟨b, 0, none⟩) ∧ W0.heap.size ≤ b ∧ (L j = false → UAt w b 0 0 0 0 0) ∧ (L j = true → UAt w b k p c x y)
/-- both, and all that was there -/
def PS (W0 : World) (t1 t2 : Nat) (k p c x y k' p' c' x' y' : Int) (L : Nat → Bool) (a : Act) (w : World) : Prop :=
  t1 < a.tmps.size ∧ t2 < a.tmps.size ∧ PH W0 t1 6 8 k p c x y L a w ∧ PH W0 t2 7 9 k' p' c' x' y' L a w ∧ (L 6 = true → L 7 = true → a.eval (.tmp t1) ≠ a.eval (.tmp t2)) ∧ Below W0.heap.size W0 w ∧ (L 6 = false → L 8 = false) ∧ (L 7 = false → L 9 = false)
section
variable {W0 w w' : World} {t i j m d t1 t2 b : Nat} {k p c x y k' p' c' x' y' : Int} {L : Nat → Bool} {a : Act} {v : Value}
theorem up_other (h : m ≠ i) : Rv.up L m i = L i := by simp [Rv.up, h]
theorem up_same : Rv.up L i i = true := by simp [Rv.up]
theorem PH.put (h : PH W0 t i j k p c x y L a w) (hd : t ≠ d) (h1 : m ≠ i) (h2 : m ≠ j) (hb : Below w.heap.size w w') : PH W0 t i j k p c x y (Rv.up L m) (a.put (some d) v) w' := by
  intro hL
  rw [up_other h1] at hL
  obtain ⟨b, e, hge, hz, hl⟩ := h hL
  refine ⟨b, by rw [eval_other hd]; exact e, hge, fun h => ?_, fun h => ?_⟩
  · rw [up_other h2] at h; exact (hz h).then_ hb
  · rw [up_other h2] at h; exact (hl h).then_ hb
theorem PS.put (h : PS W0 t1 t2 k p c x y k' p' c' x' y' L a w) (h1 : t1 ≠ d) (h2 : t2 ≠ d) (hm : m < 6) (hb : Below w.heap.size w w') : PS W0 t1 t2 k p c x y k' p' c' x' y' (Rv.up L m) (a.put (some d) v) w' := by
  obtain ⟨s1, s2, g1, g2, g3, g4, g5, g6⟩ := h
  refine ⟨by rw [Rv.put_len]; exact s1, by rw [Rv.put_len]; exact s2, g1.put h1 (by omega) (by omega) hb, g2.put h2 (by omega) (by omega) hb, ?_, g4.trans (hb.mono g4.size), ?_, ?_⟩
  · rw [up_other (by omega), up_other (by omega), eval_other h1, eval_other h2]; exact g3
  · rw [up_other (by omega), up_other (by omega)]; exact g5
  · rw [up_other (by omega), up_other (by omega)]; exact g6
theorem PS.new1 (h : PS W0 t1 t2 k p c x y k' p' c' x' y' L a w) (h12 : t1 ≠ t2) (hL : L 6 = false) :
    PS W0 t1 t2 k p c x y k' p' c' x' y' (Rv.up L 6) (a.put (some t1) (.pointer (some ⟨w.heap.size, 0, none⟩))) (w.alloc (.cells #[.int .i64 0, .int .i64 0, .int .i32 0, .int .u32 0, .int .u64 0] 65)) := by
  obtain ⟨s1, s2, g1, g2, g3, g4, g5, g6⟩ := h
  have hb := below_box w (.cells #[.int .i64 0, .int .i64 0, .int .i32 0, .int .u32 0, .int .u64 0] 65)
  have h8 := g5 hL
  refine ⟨by rw [Rv.put_len]; exact s1, by rw [Rv.put_len]; exact s2, fun _ => ⟨w.heap.size, eval_same s1, g4.size, fun _ => uat_new w 0 0 0 0 0, fun h => ?_⟩, g2.put (Ne.symm h12) (by omega) (by omega) hb, fun _ h7 => ?_, below_alloc g4 _, fun h => ?_, ?_⟩
  · rw [up_other (by omega), h8] at h; cases h
  · rw [up_other (by omega)] at h7
    obtain ⟨b, e, _, hz, hl⟩ := g2 h7
    have hlt : b < w.heap.size := by
      cases h9 : L 9 with
      | true => exact (hl h9).lt
      | false => exact (hz h9).lt
    rw [eval_same s1, eval_other (Ne.symm h12), e]
    intro h; injection h with h; injection h with h; injection h with h; omega
  · rw [up_same] at h; cases h
  · rw [up_other (by omega), up_other (by omega)]; exact g6
theorem PS.new2 (h : PS W0 t1 t2 k p c x y k' p' c' x' y' L a w) (h12 : t1 ≠ t2) (hL : L 7 = false) :
    PS W0 t1 t2 k p c x y k' p' c' x' y' (Rv.up L 7) (a.put (some t2) (.pointer (some ⟨w.heap.size, 0, none⟩))) (w.alloc (.cells #[.int .i64 0, .int .i64 0, .int .i32 0, .int .u32 0, .int .u64 0] 65)) := by
  obtain ⟨s1, s2, g1, g2, g3, g4, g5, g6⟩ := h
  have hb := below_box w (.cells #[.int .i64 0, .int .i64 0, .int .i32 0, .int .u32 0, .int .u64 0] 65)
  have h9 := g6 hL
  refine ⟨by rw [Rv.put_len]; exact s1, by rw [Rv.put_len]; exact s2, g1.put h12 (by omega) (by omega) hb, fun _ => ⟨w.heap.size, eval_same s2, g4.size, fun _ => uat_new w 0 0 0 0 0, fun h => ?_⟩, fun h6 _ => ?_, below_alloc g4 _, ?_, fun h => ?_⟩
  · rw [up_other (by omega), h9] at h; cases h
  · rw [up_other (by omega)] at h6
    obtain ⟨b, e, _, hz, hl⟩ := g1 h6
    have hlt : b < w.heap.size := by
      cases h8 : L 8 with
      | true => exact (hl h8).lt
      | false => exact (hz h8).lt
    rw [eval_same s2, eval_other h12, e]
    intro h; injection h with h; injection h with h; injection h with h; omega
  · rw [up_other (by omega), up_other (by omega)]; exact g5
  · rw [up_same] at h; cases h
theorem PS.laid1 (h : PS W0 t1 t2 k p c x y k' p' c' x' y' L a w) (hb : a.eval (.tmp t1) = .pointer (some ⟨b, 0, none⟩)) (h6 : L 6 = true) (h8 : L 8 = false) :
    UAt w b 0 0 0 0 0 ∧ PS W0 t1 t2 k p c x y k' p' c' x' y' (Rv.up L 8) a (((((w.setCell ⟨b, 0, none⟩ (.int .i64 k)).setCell ⟨b, 1, none⟩ (.int .i64 p)).setCell ⟨b, 2, none⟩ (.int .i32 c)).setCell ⟨b, 3, none⟩ (.int .u32 x)).setCell ⟨b, 4, none⟩ (.int .u64 y)) := by
  obtain ⟨s1, s2, g1, g2, g3, g4, g5, g6⟩ := h
  obtain ⟨b', e, hge, hz, _⟩ := g1 h6
  rw [hb] at e
  injection e with e; injection e with e; injection e with e
  subst e
  refine ⟨hz h8, s1, s2, fun _ => ⟨b, hb, hge, fun h => ?_, fun _ => (hz h8).sets _ _ _ _ _⟩, fun h7 => ?_, ?_, below_sets g4 hge _ _ _ _ _, ?_, ?_⟩
  · rw [up_same] at h; cases h
  · rw [up_other (by omega)] at h7
    obtain ⟨b2, e2, hge2, hz2, hl2⟩ := g2 h7
    have hne : b2 ≠ b := fun h => g3 h6 h7 (by rw [hb, e2, h])
    refine ⟨b2, e2, hge2, fun h => ?_, fun h => ?_⟩
    · rw [up_other (by omega)] at h
      exact (((((hz2 h).far hne _).far hne _).far hne _).far hne _).far hne _
    · rw [up_other (by omega)] at h
      exact (((((hl2 h).far hne _).far hne _).far hne _).far hne _).far hne _
  · rw [up_other (by omega), up_other (by omega)]; exact g3
  · rw [up_other (by omega), h6]; intro h; cases h
  · rw [up_other (by omega), up_other (by omega)]; exact g6
theorem PS.laid2 (h : PS W0 t1 t2 k p c x y k' p' c' x' y' L a w) (hb : a.eval (.tmp t2) = .pointer (some ⟨b, 0, none⟩)) (h7 : L 7 = true) (h9 : L 9 = false) :
    UAt w b 0 0 0 0 0 ∧ PS W0 t1 t2 k p c x y k' p' c' x' y' (Rv.up L 9) a (((((w.setCell ⟨b, 0, none⟩ (.int .i64 k')).setCell ⟨b, 1, none⟩ (.int .i64 p')).setCell ⟨b, 2, none⟩ (.int .i32 c')).setCell ⟨b, 3, none⟩ (.int .u32 x')).setCell ⟨b, 4, none⟩ (.int .u64 y')) := by
  obtain ⟨s1, s2, g1, g2, g3, g4, g5, g6⟩ := h
  obtain ⟨b', e, hge, hz, _⟩ := g2 h7
  rw [hb] at e
  injection e with e; injection e with e; injection e with e
  subst e
  refine ⟨hz h9, s1, s2, fun h6 => ?_, fun _ => ⟨b, hb, hge, fun h => ?_, fun _ => (hz h9).sets _ _ _ _ _⟩, ?_, below_sets g4 hge _ _ _ _ _, ?_, ?_⟩
  · rw [up_other (by omega)] at h6
    obtain ⟨b2, e2, hge2, hz2, hl2⟩ := g1 h6
    have hne : b2 ≠ b := fun h => g3 h6 h7 (by rw [hb, e2, h])
    refine ⟨b2, e2, hge2, fun h => ?_, fun h => ?_⟩
    · rw [up_other (by omega)] at h
      exact (((((hz2 h).far hne _).far hne _).far hne _).far hne _).far hne _
    · rw [up_other (by omega)] at h
      exact (((((hl2 h).far hne _).far hne _).far hne _).far hne _).far hne _
  · rw [up_same] at h; cases h
  · rw [up_other (by omega), up_other (by omega)]; exact g3
  · rw [up_other (by omega), up_other (by omega)]; exact g5
  · rw [up_other (by omega), h7]; intro h; cases h
theorem PS.below (h : PS W0 t1 t2 k p c x y k' p' c' x' y' L a w) : Below W0.heap.size W0 w := h.2.2.2.2.2.1
theorem PS.half1 (h : PS W0 t1 t2 k p c x y k' p' c' x' y' L a w) (h6 : L 6 = true) : ∃ b, a.eval (.tmp t1) = .pointer (some ⟨b, 0, none⟩) ∧ W0.heap.size ≤ b := by
  obtain ⟨b, e, hge, _⟩ := h.2.2.1 h6
  exact ⟨b, e, hge⟩
theorem PS.half2 (h : PS W0 t1 t2 k p c x y k' p' c' x' y' L a w) (h7 : L 7 = true) : ∃ b, a.eval (.tmp t2) = .pointer (some ⟨b, 0, none⟩) ∧ W0.heap.size ≤ b := by
  obtain ⟨b, e, hge, _⟩ := h.2.2.2.1 h7
  exact ⟨b, e, hge⟩
/-- at the beginning -/
theorem PS.begin (h1 : t1 < a.tmps.size) (h2 : t2 < a.tmps.size) : PS w t1 t2 k p c x y k' p' c' x' y' (fun _ => false) a w.drew :=
  ⟨h1, h2, (fun h => by cases h), (fun h => by cases h), (fun h => by cases h), below_drawn (Below.refl _ _), fun _ => rfl, fun _ => rfl⟩
/-- at the end -/
theorem PS.done (h : PS W0 t1 t2 k p c x y k' p' c' x' y' L a w) (hall : ∀ i, i < 10 → L i = true) : ∃ b b', a.eval (.tmp t1) = .pointer (some ⟨b, 0, none⟩) ∧ a.eval (.tmp t2) = .pointer (some ⟨b', 0, none⟩) ∧ b ≠ b' ∧ W0.heap.size ≤ b ∧ W0.heap.size ≤ b' ∧ UAt w b k p c x y ∧ UAt w b' k' p' c' x' y' ∧ Below W0.heap.size W0 w := by
  obtain ⟨s1, s2, g1, g2, g3, g4, g5, g6⟩ := h
  obtain ⟨b, e, hge, _, hl⟩ := g1 (hall 6 (by omega))
  obtain ⟨b', e', hge', _, hl'⟩ := g2 (hall 7 (by omega))
  exact ⟨b, b', e, e', fun h => g3 (hall 6 (by omega)) (hall 7 (by omega)) (by rw [e, e', h]), hge, hge', hl (hall 8 (by omega)), hl' (hall 9 (by omega)), g4⟩
end
end Go.Proofs.Ytogmddneimhpeaa
