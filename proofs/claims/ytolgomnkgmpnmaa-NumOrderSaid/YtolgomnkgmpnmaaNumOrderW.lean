/-
  The walk of copybooklaw01.NumOrder: it returns true for every two numbers of 64 bits, and turns nothing that was there. No conditions.
-/
import Derived.Test.YtolgomnkgmpnmaaNumE
namespace Go.Proofs.Ytolgomnkgmpnmaa.numOrder
open Go.RowKit

set_option maxRecDepth 100000 in
set_option maxHeartbeats 400000 in
theorem has_short (A A' : Option Addr) (n c m c' : Nat) (w : World) (h : n < m) :
    Calls Try.prog 31 #[.slice A n c, .slice A' m c'] w fun e w' => e = .returned (.bool false) ∧ w = w' := by
  go_enter Try.func31, Try.ntmps31
  go_wp2_with fail
  go_ret
  exact ⟨rfl, rfl⟩
set_option maxRecDepth 100000 in
set_option maxHeartbeats 400000 in
theorem has_long (g c : Nat) (A' : Option Addr) (c' : Nat) (bs cs : List Nat) (w : World) (h1 : Bys w w.heap.size (some ⟨g, 0, none⟩) bs.length c bs) (h2 : Bys w w.heap.size A' cs.length c' cs) (hl : cs.length ≤ bs.length) (hne : bs.take cs.length ≠ cs) :
    Calls Try.prog 31 #[.slice (some ⟨g, 0, none⟩) bs.length c, .slice A' cs.length c'] w fun e w' => e = .returned (.bool false) ∧ w = w' := by
  have HE := Lib.hid (eq_no _ _ _ _ _ _ _ _ w (h1.upto hl) h2 hne)
  have hcap := h1.cap
  have hle := h1.le
  unfold maxLen at hcap
  clear h1 h2 hne
  generalize bs.length = n at *
  generalize cs.length = m at *
  go_enter Try.func31, Try.ntmps31
  go_wp2_with fail
  refine HE.out.mono ?_
  rintro e w' ⟨rfl, rfl⟩
  go_wp2_with fail
  go_ret
  exact ⟨rfl, rfl⟩
theorem has_no {g c g' c' a b : Nat} {w : World} (h1 : Bys w w.heap.size (some ⟨g, 0, none⟩) (Pl.sz a) c (Pl.enc a)) (h2 : Bys w w.heap.size (some ⟨g', 0, none⟩) (Pl.sz b) c' (Pl.enc b)) (ha : Pl.U a) (hb : Pl.U b) (hne : a ≠ b) :
    Calls Try.prog 31 #[.slice (some ⟨g, 0, none⟩) (Pl.sz a) c, .slice (some ⟨g', 0, none⟩) (Pl.sz b) c'] w fun e w' => e = .returned (.bool false) ∧ w = w' := by
  have la := Pl.len_enc a
  have lb := Pl.len_enc b
  rcases Nat.lt_or_ge (Pl.sz a) (Pl.sz b) with h | h
  · exact has_short _ _ _ _ _ _ w h
  · rw [← la] at h1 ⊢
    rw [← lb] at h2 ⊢
    refine has_long g c (some ⟨g', 0, none⟩) c' (Pl.enc a) (Pl.enc b) w h1 h2 (by omega) (fun e => hne ?_)
    have := List.take_append_drop (Pl.enc b).length (Pl.enc a)
    rw [e] at this
    exact (Pl.enc_inj_prefix hb.out ha.out this.symm).symm

set_option maxRecDepth 100000 in
set_option maxHeartbeats 1000000 in
theorem walk_same (a : Nat) (ha : Pl.U a) (w : World) :
    Calls Try.prog 6 #[.int .u64 (a : Int), .int .u64 (a : Int)] w fun e w' => e = .returned (.bool true) ∧ Below w.heap.size w w' := by
  have h10 := Pl.sz_le10 ha.out
  have hp := Pl.sz_pos a
  have hz : (((Pl.sz a : Nat) : Int) == 0) = false := by rw [beq_eq_false_iff_ne]; omega
  go_enter Try.func6, Try.ntmps6
  go_wp2_with fail
  refine (put_new a w ha).mono ?_
  rintro e w1 ⟨g1, c1, rfl, hO1, hb1⟩
  go_wp2_with fail
  refine (put_new a w1 ha).mono ?_
  rintro e w2 ⟨g2, c2, rfl, hO2, hb2⟩
  have hcap : c1 ≤ 9223372036854775807 := by have := hO1.form; unfold maxLen at this; omega
  have hle : Pl.sz a ≤ c1 := by have := hO1.form; rw [Pl.len_enc] at this; omega
  have H1 := Lib.hid ((hO1.bysz.below hb2 (Nat.le_refl _)).more hb2.size)
  have H2 := Lib.hid hO2.bysz
  clear hO1 hO2
  go_wp2_with fail
  go_loop [52] (fun i => ∃ j : Nat, i = .int .i64 (j : Int) ∧ j ≤ Pl.sz a) (fun i => Pl.sz a - (intOf i).toNat)
  case atStart => exact ⟨0, rfl, by omega⟩
  case round =>
    obtain ⟨j, rfl, hj⟩ := hrel
    by_cases hlt : j < Pl.sz a
    · have HG := Lib.hid (get_at _ _ _ _ w2 (H1.out.upto (k := j) (by omega)) 0 0 4 (Pl.enc_prefix_get a j hlt ha.out))
      go_wp2_with (go_at_call 25; refine HG.out.mono ?_; rintro e w' ⟨rfl, rfl⟩)
      go_round
      case rel => exact ⟨j + 1, by go_num, by omega⟩
      case measure => simp [intOf]; omega
    · have HW := Lib.hid (awake_any w2)
      go_wp2_with (go_at_call 19; refine HW.out.mono ?_; rintro e w3 ⟨rfl, hb3⟩)
      go_ret
      have s1 := hb1.size
      have s2 := hb2.size
      exact ⟨rfl, (hb1.trans (hb2.mono (by omega))).trans (hb3.mono (by omega))⟩

set_option maxRecDepth 100000 in
set_option maxHeartbeats 1000000 in
theorem walk_lt (a b : Nat) (ha : Pl.U a) (hb : Pl.U b) (h : a < b) (w : World) :
    Calls Try.prog 6 #[.int .u64 (a : Int), .int .u64 (b : Int)] w fun e w' => e = .returned (.bool true) ∧ Below w.heap.size w w' := by
  have h10 := Pl.sz_le10 ha.out
  have hp := Pl.sz_pos a
  have hz : (((Pl.sz a : Nat) : Int) == 0) = false := by rw [beq_eq_false_iff_ne]; omega
  have hm := Pl.sz_mono (Nat.le_of_lt h)
  have hm1 : decide (Pl.sz b < Pl.sz a) = false := decide_eq_false (by omega)
  have hm2 : decide (10 < ((Pl.sz a : Nat) : Int)) = false := decide_eq_false (by omega)
  have hne : a ≠ b := by omega
  go_enter Try.func6, Try.ntmps6
  go_wp2_with fail
  refine (put_new a w ha).mono ?_
  rintro e w1 ⟨g1, c1, rfl, hO1, hb1⟩
  go_wp2_with fail
  refine (put_new b w1 hb).mono ?_
  rintro e w2 ⟨g2, c2, rfl, hO2, hb2⟩
  have hcap : c1 ≤ 9223372036854775807 := by have := hO1.form; unfold maxLen at this; omega
  have hle : Pl.sz a ≤ c1 := by have := hO1.form; rw [Pl.len_enc] at this; omega
  have H1 := Lib.hid ((hO1.bysz.below hb2 (Nat.le_refl _)).more hb2.size)
  have H2 := Lib.hid hO2.bysz
  clear hO1 hO2
  have HX := Lib.hid (has_no H1.out H2.out ha hb hne)
  have HY := Lib.hid (has_no H2.out H1.out hb ha (Ne.symm hne))
  have hneb : ((a : Int) != (b : Int)) = true := by rw [bne_iff_ne]; omega
  clear hne
  go_wp2_with fail
  refine HX.out.mono ?_
  rintro e w' ⟨rfl, rfl⟩
  go_wp2_with fail
  refine HY.out.mono ?_
  rintro e w' ⟨rfl, rfl⟩
  go_wp2_with fail
  go_loop [52] (fun i => ∃ j : Nat, i = .int .i64 (j : Int) ∧ j ≤ Pl.sz a) (fun i => Pl.sz a - (intOf i).toNat)
  case atStart => exact ⟨0, rfl, by omega⟩
  case round =>
    obtain ⟨j, rfl, hj⟩ := hrel
    by_cases hlt : j < Pl.sz a
    · have HG := Lib.hid (get_at _ _ _ _ w2 (H1.out.upto (k := j) (by omega)) 0 0 4 (Pl.enc_prefix_get a j hlt ha.out))
      go_wp2_with (go_at_call 25; refine HG.out.mono ?_; rintro e w' ⟨rfl, rfl⟩)
      go_round
      case rel => exact ⟨j + 1, by go_num, by omega⟩
      case measure => simp [intOf]; omega
    · have HW := Lib.hid (awake_any w2)
      go_wp2_with (go_at_call 19; refine HW.out.mono ?_; rintro e w3 ⟨rfl, hb3⟩)
      go_ret
      have s1 := hb1.size
      have s2 := hb2.size
      exact ⟨rfl, (hb1.trans (hb2.mono (by omega))).trans (hb3.mono (by omega))⟩

set_option maxRecDepth 100000 in
set_option maxHeartbeats 1000000 in
theorem walk_gt (a b : Nat) (ha : Pl.U a) (hb : Pl.U b) (h : b < a) (w : World) :
    Calls Try.prog 6 #[.int .u64 (a : Int), .int .u64 (b : Int)] w fun e w' => e = .returned (.bool true) ∧ Below w.heap.size w w' := by
  have h10 := Pl.sz_le10 ha.out
  have hp := Pl.sz_pos a
  have hz : (((Pl.sz a : Nat) : Int) == 0) = false := by rw [beq_eq_false_iff_ne]; omega
  have hne : a ≠ b := by omega
  go_enter Try.func6, Try.ntmps6
  go_wp2_with fail
  refine (put_new a w ha).mono ?_
  rintro e w1 ⟨g1, c1, rfl, hO1, hb1⟩
  go_wp2_with fail
  refine (put_new b w1 hb).mono ?_
  rintro e w2 ⟨g2, c2, rfl, hO2, hb2⟩
  have hcap : c1 ≤ 9223372036854775807 := by have := hO1.form; unfold maxLen at this; omega
  have hle : Pl.sz a ≤ c1 := by have := hO1.form; rw [Pl.len_enc] at this; omega
  have H1 := Lib.hid ((hO1.bysz.below hb2 (Nat.le_refl _)).more hb2.size)
  have H2 := Lib.hid hO2.bysz
  clear hO1 hO2
  have HX := Lib.hid (has_no H1.out H2.out ha hb hne)
  have HY := Lib.hid (has_no H2.out H1.out hb ha (Ne.symm hne))
  have hneb : ((a : Int) != (b : Int)) = true := by rw [bne_iff_ne]; omega
  clear hne
  go_wp2_with fail
  refine HX.out.mono ?_
  rintro e w' ⟨rfl, rfl⟩
  go_wp2_with fail
  refine HY.out.mono ?_
  rintro e w' ⟨rfl, rfl⟩
  go_wp2_with fail
  go_loop [52] (fun i => ∃ j : Nat, i = .int .i64 (j : Int) ∧ j ≤ Pl.sz a) (fun i => Pl.sz a - (intOf i).toNat)
  case atStart => exact ⟨0, rfl, by omega⟩
  case round =>
    obtain ⟨j, rfl, hj⟩ := hrel
    by_cases hlt : j < Pl.sz a
    · have HG := Lib.hid (get_at _ _ _ _ w2 (H1.out.upto (k := j) (by omega)) 0 0 4 (Pl.enc_prefix_get a j hlt ha.out))
      go_wp2_with (go_at_call 25; refine HG.out.mono ?_; rintro e w' ⟨rfl, rfl⟩)
      go_round
      case rel => exact ⟨j + 1, by go_num, by omega⟩
      case measure => simp [intOf]; omega
    · have HW := Lib.hid (awake_any w2)
      go_wp2_with (go_at_call 19; refine HW.out.mono ?_; rintro e w3 ⟨rfl, hb3⟩)
      go_ret
      have s1 := hb1.size
      have s2 := hb2.size
      exact ⟨rfl, (hb1.trans (hb2.mono (by omega))).trans (hb3.mono (by omega))⟩

theorem walk (w : World) (a : Nat) (ha : Pl.U a) (b : Nat) (hb : Pl.U b) :
    Calls Try.prog 6 #[.int .u64 (a : Int), .int .u64 (b : Int)] w fun e w' => e = .returned (.bool true) ∧ Below w.heap.size w w' := by
  rcases Nat.lt_trichotomy a b with h | rfl | h
  · exact walk_lt a b ha hb h w
  · exact walk_same a ha w
  · exact walk_gt a b ha hb h w
end Go.Proofs.Ytolgomnkgmpnmaa.numOrder
