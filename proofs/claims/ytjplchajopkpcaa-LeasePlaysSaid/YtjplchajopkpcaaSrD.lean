/-
  slices.medianOrdered, choosePivotOrdered at uint32. Conditions: rows of at most a million; fewer than fifty for the pivot.
-/
import Derived.Test.YtjplchajopkpcaaSrC
namespace Go.Proofs.Ytjplchajopkpcaa
open Go.RowKit Go.Sort

theorem order2_in (d : Array Int) {a b s n : Nat} (ha : a < n) (hb : b < n) : (order2 ltInt d a b s).1 < n ∧ (order2 ltInt d a b s).2.1 < n ∧ (order2 ltInt d a b s).2.2 ≤ s + 1 := by
  unfold order2
  split <;> simp [ha, hb]
set_option maxRecDepth 100000 in
set_option maxHeartbeats 4000000 in
theorem median_u {w0 w : World} {base g n c k s a b m : Nat} {d : Array Int} (h : Cnt w0 base g n c d k s w) (ha : a < n) (hb : b < n) (hm : m < n) (hs : s < 900000) :
    Calls Try.prog 55 #[.slice (some ⟨g, 0, none⟩) n c, .int .i64 (a : Int), .int .i64 (b : Int), .int .i64 (m : Int), .pointer (some ⟨k, 0, none⟩)] w fun e w' => e = .returned (.int .i64 ((median ltInt d a b m s).1 : Int)) ∧ Cnt w0 base g n c d k (median ltInt d a b m s).2 w' ∧ (median ltInt d a b m s).1 < n ∧ (median ltInt d a b m s).2 ≤ s + 3 := by
  have i1 := order2_in d (s := s) ha hb
  have H1 := Lib.hid (order2_u h ha hb (by omega))
  obtain ⟨⟨p1, q1, s1⟩, hr1⟩ : ∃ r, r = order2 ltInt d a b s := ⟨_, rfl⟩
  rw [← hr1] at i1 H1
  have i2 := order2_in d (s := s1) i1.2.1 hm
  obtain ⟨⟨p2, q2, s2⟩, hr2⟩ : ∃ r, r = order2 ltInt d q1 m s1 := ⟨_, rfl⟩
  rw [← hr2] at i2
  have i3 := order2_in d (s := s2) i1.1 i2.1
  obtain ⟨⟨p3, q3, s3⟩, hr3⟩ : ∃ r, r = order2 ltInt d p1 p2 s2 := ⟨_, rfl⟩
  rw [← hr3] at i3
  have HM := Lib.hid (show median ltInt d a b m s = (q3, s3) by unfold median; simp only [← hr1, ← hr2, ← hr3])
  simp only at i1 i2 i3 H1
  have HB := Lib.hid (show q3 < n ∧ s3 ≤ s + 3 by omega)
  have H2 := fun w (h : Cnt w0 base g n c d k s1 w) => Lib.hid (order2_u h i1.2.1 hm (by omega))
  have H3 := fun w (h : Cnt w0 base g n c d k s2 w) => Lib.hid (order2_u h i1.1 i2.1 (by omega))
  rw [← hr2] at H2
  rw [← hr3] at H3
  clear h ha hb hm hs i1 i2 i3 hr1 hr2 hr3
  go_enter Try.func55, Try.ntmps55
  go_wp2_with fail
  refine H1.out.mono ?_
  rintro e w1 ⟨rfl, hc1⟩
  have HC1 := Lib.hid (H2 w1 hc1)
  clear hc1 H1 H2
  go_wp2_with fail
  refine HC1.out.out.mono ?_
  rintro e w2 ⟨rfl, hc2⟩
  have HC2 := Lib.hid (H3 w2 hc2)
  clear hc2 HC1 H3
  go_wp2_with fail
  refine HC2.out.out.mono ?_
  rintro e w3 ⟨rfl, hc3⟩
  have HC3 := Lib.hid hc3
  clear hc3 HC2
  go_wp2_with fail
  go_ret
  rw [HM.out]
  exact ⟨rfl, HC3.out, HB.out⟩
/-- how the row looks, as a number -/
def hintN : Hint → Int
  | .unknown => 0
  | .increasing => 1
  | .decreasing => 2
theorem wr1 {a q : Nat} (ha : a < 1000000) (hq : q < 13) : wrap64 ((a : Int) + wrap64 (wrap64 (q : Int))) = ((a + q : Nat) : Int) := by unfold wrap64; omega
theorem wr2 {a q : Nat} (ha : a < 1000000) (hq : q < 13) : wrap64 ((a : Int) + wrap64 (wrap64 (q : Int) * 2)) = ((a + q * 2 : Nat) : Int) := by unfold wrap64; omega
theorem wr3 {a q : Nat} (ha : a < 1000000) (hq : q < 13) : wrap64 ((a : Int) + wrap64 (wrap64 (q : Int) * 3)) = ((a + q * 3 : Nat) : Int) := by unfold wrap64; omega
theorem wr4 {a b L : Nat} (hq : L < 1000001) (e : b = a + L) : wrap64 ((b : Int) - (a : Int)) = (L : Int) := by unfold wrap64; omega
theorem wr6 {a b L : Nat} (hq : L < 1000001) (e : b = a + L) : IntKind.i64.wrap ((b : Int) - (a : Int)) = (L : Int) := by rw [IntKind.wrap_i64]; omega
theorem wr5 {L q : Nat} (e : q = L / 4) : (L : Int).tdiv 4 = (q : Int) := by rw [Int.tdiv_eq_ediv_of_nonneg (by omega)]; omega
set_option maxRecDepth 100000 in
set_option maxHeartbeats 4000000 in
theorem pivot_u {w0 w : World} {base g n c a b : Nat} {d : Array Int} (h : Sr w0 base g n c d w) (hw : w0.heap.size ≤ w.heap.size) (hab : a + 8 ≤ b) (hb : b ≤ n) (hn : n ≤ 1000000) (hl : b - a < 50) :
    Calls Try.prog 43 #[.slice (some ⟨g, 0, none⟩) n c, .int .i64 (a : Int), .int .i64 (b : Int)] w fun e w' => e = .returned (.tuple #[.int .i64 ((choosePivot ltInt d a b).1 : Int), .int .i64 (hintN (choosePivot ltInt d a b).2)]) ∧ (choosePivot ltInt d a b).2 ≠ .decreasing ∧ Sr w0 base g n c d w' := by
  obtain ⟨L, rfl⟩ : ∃ L, b = a + L := ⟨b - a, by omega⟩
  obtain ⟨q, hq⟩ : ∃ q, q = L / 4 := ⟨_, rfl⟩
  have hq1 : a + q < n ∧ a + q * 2 < n ∧ a + q * 3 < n ∧ q < 13 := by omega
  have hc := Cnt.mk (h.alloc (.cells #[.int .i64 0] 3 (0, 0))) (k := w.heap.size) (s := 0) (heap_new rfl) hw (by have := h.at_.2; omega)
  have H1 := Lib.hid (median_u hc hq1.1 hq1.2.1 hq1.2.2.1 (by omega))
  obtain ⟨⟨p, s⟩, hr⟩ : ∃ r, r = median ltInt d (a + q) (a + q * 2) (a + q * 3) 0 := ⟨_, rfl⟩
  rw [← hr] at H1
  have HP := Lib.hid (show choosePivot ltInt d a (a + L) = (p, if s = 0 then .increasing else if s = 12 then .decreasing else .unknown) by
    unfold choosePivot
    simp only [Nat.add_sub_cancel_left, ← hq, Nat.mul_one]
    rw [if_pos (by omega), if_neg (by omega), ← hr])
  obtain ⟨b, hbb⟩ : ∃ b, b = a + L := ⟨_, rfl⟩
  rw [← hbb] at HP ⊢
  have g1 : decide ((L : Int) ≥ 8) = true := decide_eq_true (by omega)
  have g2 : decide ((L : Int) ≥ 50) = false := decide_eq_false (by omega)
  have g3 : decide ((8 : Int) ≤ (L : Int)) = true := decide_eq_true (by omega)
  have g4 : decide ((50 : Int) ≤ (L : Int)) = false := decide_eq_false (by omega)
  have g5 : decide (8 ≤ L) = true := decide_eq_true (by omega)
  have g6 : decide (50 ≤ L) = false := decide_eq_false (by omega)
  have HH := Lib.hid h
  have HA9 := Lib.hid (show a < 1000000 ∧ L < 50 by omega)
  have e1 := wr4 (Nat.lt_trans HA9.out.2 (by decide)) hbb
  have e2 := wr5 hq
  have X1 := Lib.hid (wr1 HA9.out.1 hq1.2.2.2)
  have X2 := Lib.hid (wr2 HA9.out.1 hq1.2.2.2)
  have X3 := Lib.hid (wr3 HA9.out.1 hq1.2.2.2)
  clear h hab hb hl hbb hq hq1 hr hc
  go_enter Try.func43, Try.ntmps43
  go_wp2_with fail
  rw [X1.out, X2.out, X3.out]
  refine H1.out.mono ?_
  rintro e w1 ⟨rfl, hc1, hp, hs⟩
  have HC1 := Lib.hid hc1
  have c5 := hc1.cell
  have HS := Lib.hid hs
  have HPN := Lib.hid hp
  clear hc1 H1 hs hp
  by_cases h0 : s = 0
  · have k1 : ((s : Int) == 0) = true := by simp [h0]
    have k2 : ((s : Int) == 12) = false := by simp [h0]
    rw [if_pos h0] at HP
    clear h0
    go_wp2_with fail
    go_returns
    rw [HP.out]
    exact ⟨rfl, (fun h => by cases h), HC1.out.row⟩
  · have k1 : ((s : Int) == 0) = false := by simp [h0]
    have k2 : ((s : Int) == 12) = false := by simp; have := HS.out; omega
    rw [if_neg h0, if_neg (by have := HS.out; omega)] at HP
    clear h0
    go_wp2_with fail
    go_returns
    rw [HP.out]
    exact ⟨rfl, (fun h => by cases h), HC1.out.row⟩
end Go.Proofs.Ytjplchajopkpcaa
