/-
  Contracts of the document's own answers for layer 1 that read bytes (copybookref01.Get, Fixed, Unfold): the same plain functions as num's. The world is left as it was.
-/
import Derived.Test.YtpakbpkcacdpbaaWNumD
namespace Go.Proofs.Ytpakbpkcacdpbaa
open Go.RowKit

namespace Pl
theorem val_drop (l : List Nat) (j : Nat) (h : j < l.length) : val (l.drop j) = l.getD j 0 % 128 + 128 * val (l.drop (j + 1)) := by
  rw [List.drop_eq_getElem_cons h, List.getD_eq_getElem?_getD, List.getElem?_eq_getElem h]; rfl
theorem val_drop_le (l : List Nat) (j : Nat) : val (l.drop j) ≤ val l := by
  have := val_append (l.take j) (l.drop j)
  rw [List.take_append_drop] at this
  have h1 : 1 * val (l.drop j) ≤ 128 ^ (l.take j).length * val (l.drop j) := Nat.mul_le_mul_right _ (Nat.pow_pos (by omega))
  omega
theorem val8_drop (l : List Nat) (j : Nat) (h : j < l.length) : val8 (l.drop j) = l.getD j 0 + 256 * val8 (l.drop (j + 1)) := by
  rw [List.drop_eq_getElem_cons h, List.getD_eq_getElem?_getD, List.getElem?_eq_getElem h]; rfl
theorem val8_drop_le (l : List Nat) (j : Nat) : val8 (l.drop j) ≤ val8 l := by
  have := val8_append (l.take j) (l.drop j)
  rw [List.take_append_drop] at this
  have h1 : 1 * val8 (l.drop j) ≤ 256 ^ (l.take j).length * val8 (l.drop j) := Nat.mul_le_mul_right _ (Nat.pow_pos (by omega))
  omega
theorem getD_take (l : List Nat) (k j : Nat) (h : j < k) : (l.take k).getD j 0 = l.getD j 0 := by
  rw [List.getD_eq_getElem?_getD, List.getD_eq_getElem?_getD, List.getElem?_take, if_pos h]
end Pl

theorem ref_step (v y : Nat) (h : y % 128 + 128 * v < 18446744073709551616) : IntKind.u64.wrap (IntKind.u64.wrap ((v : Int) * 128) + (y : Int) % 128) = ((y % 128 + 128 * v : Nat) : Int) := by
  rw [IntKind.wrap_u64, IntKind.wrap_u64]; omega
theorem ref8_step (v y : Nat) (h : y + 256 * v < 18446744073709551616) : IntKind.u64.wrap (IntKind.u64.wrap ((v : Int) * 256) + (y : Int)) = ((y + 256 * v : Nat) : Int) := by
  rw [IntKind.wrap_u64, IntKind.wrap_u64]; omega
theorem refUnfold_even (n : Nat) (h : Pl.U n) (h2 : n % 2 = 0) : wrap64 (IntKind.u64.wrap ((n : Int) / 2)) = Pl.unfold n := by
  have h := h.out
  unfold Pl.unfold wrap64
  rw [if_pos h2, IntKind.wrap_u64]; omega
theorem refUnfold_odd (n : Nat) (h : Pl.U n) (h2 : ¬ n % 2 = 0) : wrap64 (wrap64 (-wrap64 (IntKind.u64.wrap ((n : Int) / 2))) - 1) = Pl.unfold n := by
  have h := h.out
  unfold Pl.unfold wrap64
  rw [if_neg h2, IntKind.wrap_u64]; omega
/-- ref.Get's first loop: nothing found among the first j; or the end is at s -/
def GRel (bs : List Nat) (n : Nat) (s i : Value) : Prop :=
  (∃ j : Nat, s = .int .i64 0 ∧ i = .int .i64 (j : Int) ∧ j ≤ n ∧ j ≤ 10 ∧ Pl.High bs j) ∨ (∃ k : Nat, s = .int .i64 (k : Int) ∧ i = .int .i64 (k : Int) ∧ Pl.reach 10 bs = some k)
/-- its second loop -/
def GRel2 (bs : List Nat) (k : Nat) (t i : Value) : Prop :=
  ∃ j : Nat, j ≤ k ∧ i = .int .i64 ((j : Int) - 1) ∧ t = .int .u64 ((Pl.val ((bs.take k).drop j) : Nat) : Int)

set_option maxRecDepth 100000 in
set_option maxHeartbeats 1000000 in
theorem refGet_any (A : Option Addr) (n c : Nat) (bs : List Nat) (w : World) (h1 : Bys w w.heap.size A n c bs) :
    Calls Try.prog 53 #[.slice A n c] w fun e w' => e = .returned (.tuple #[.int .u64 (((Pl.get bs).1 : Nat) : Int), .int .i64 (((Pl.get bs).2.1 : Nat) : Int), .int .i64 (((Pl.get bs).2.2 : Nat) : Int)]) ∧ w = w' := by
  have hcap := h1.cap
  have hle := h1.le
  unfold maxLen at hcap
  go_enter Try.func53, Try.ntmps53
  go_wp2
  go_loop [5, 6] (fun s i => GRel bs n s i) (fun s i => 22 - (intOf i).toNat - (intOf s).toNat)
  case atStart => exact Or.inl ⟨0, rfl, rfl, by omega, by omega, fun t ht => by omega⟩
  case round =>
    rcases hrel with ⟨j, rfl, rfl, hj, h10, hh⟩ | ⟨k, rfl, rfl, hr⟩
    · by_cases hlt : j < n ∧ j < 10
      · obtain ⟨hlt, hl10⟩ := hlt
        obtain ⟨g, o, rfl, _, hc⟩ := h1.at_ hlt
        have hcj := hc j hlt
        have hbj := Pl.oct_getD h1.oct j
        have HL := Lib.hid h1.len
        obtain ⟨b, hb⟩ : ∃ b, b = bs.getD j 0 := ⟨_, rfl⟩
        rw [← hb] at hcj hbj
        have HBB := Lib.hid hb
        clear hc hb h1
        by_cases h128 : b < 128
        · go_wp2
          go_round
          case rel => exact Or.inr ⟨j + 1, by go_num, by go_num, Pl.reach_hit 10 bs j hl10 (by rw [HL.out]; exact hlt) (by rw [← HBB.out]; exact h128) hh⟩
          case measure => simp [intOf]; omega
        · go_wp2
          go_round
          case rel => exact Or.inl ⟨j + 1, rfl, by go_num, by omega, by omega, hh.next (by rw [← HBB.out]; omega)⟩
          case measure => simp [intOf]; omega
      · have HN := Lib.hid (Pl.rk_miss hh (by rw [h1.len]; omega))
        have HL := Lib.hid h1.len
        have HG := Lib.hid (Pl.get_none HN.out)
        clear h1
        by_cases h9 : n < 10
        all_goals
          by_cases hjn : j < n
          all_goals first | (exfalso; omega) | skip
          all_goals
            go_wp2
            go_ret3
            refine ⟨?_, rfl⟩
            rw [HG.out, HL.out]
            first | (rw [if_pos h9]; rfl) | (rw [if_neg h9]; rfl)
    · have hb := Pl.reach_bound _ _ _ hr
      rw [h1.len] at hb
      obtain ⟨hb1, hb2, hb3⟩ := hb
      obtain ⟨g, o, rfl, _, hc⟩ := h1.at_ (i := k - 1) (by omega)
      have hlast := hc (k - 1) (by omega)
      have hl128 := Pl.reach_last _ _ _ hr
      have HC := Lib.hid hc
      have HR := Lib.hid hr
      have HL := Lib.hid h1.len
      have hk0 : ((k : Int) == 0) = false := by rw [beq_eq_false_iff_ne]; omega
      have HG := Lib.hid (Pl.get_some hr)
      have HO := Lib.hid h1.oct
      have HVB := Lib.hid (Pl.val_bound hr)
      obtain ⟨b, hbb⟩ : ∃ b, b = bs.getD (k - 1) 0 := ⟨_, rfl⟩
      rw [← hbb] at hlast hl128 HG HVB
      have HBB := Lib.hid hbb
      clear hbb hc hr h1
      have hcases : (k = 10 ∧ 1 < b) ∨ (k = 10 ∧ b = 0) ∨ (k ≠ 10 ∧ 1 < k ∧ b = 0) ∨ (k = 10 ∧ b = 1) ∨ (k ≠ 10 ∧ 1 < k ∧ b ≠ 0) ∨ k = 1 := by omega
      rcases hcases with hx | hx | hx | hx | hx | hx
      · have B10 : ((k : Int) == 10) = true := by rw [beq_iff_eq]; omega
        have B0 : ((b : Int) == 0) = false := by rw [beq_eq_false_iff_ne]; omega
        have e9 : k - 1 = 9 := by omega
        have hc9 : w.cell? ⟨g, o + 9, none⟩ = some (.int .u8 (b : Int)) := by rw [e9] at hlast; exact hlast
        clear e9
        have q0 : 10 ≤ k := by omega
        have q1 : 1 < b := by omega
        have HX := Lib.hid hx
        clear hx
        by_cases hkn : k < n
        all_goals
          go_wp2
          go_ret3
          refine ⟨?_, rfl⟩
          rw [HG.out, if_pos (by have := HX.out; omega)]
          rfl
      · have B10 : ((k : Int) == 10) = true := by rw [beq_iff_eq]; omega
        have B0 : ((b : Int) == 0) = true := by rw [beq_iff_eq]; omega
        have e9 : k - 1 = 9 := by omega
        have hc9 : w.cell? ⟨g, o + 9, none⟩ = some (.int .u8 (b : Int)) := by rw [e9] at hlast; exact hlast
        clear e9
        have q0 : 10 ≤ k := by omega
        have q1 : b ≤ 1 := by omega
        have HX := Lib.hid hx
        clear hx
        by_cases hkn : k < n
        all_goals
          go_wp2
          go_ret3
          refine ⟨?_, rfl⟩
          rw [HG.out, if_pos (by have := HX.out; omega)]
          rfl
      · have B10 : ((k : Int) == 10) = false := by rw [beq_eq_false_iff_ne]; omega
        have B0 : ((b : Int) == 0) = true := by rw [beq_iff_eq]; omega
        have q0 : k < 10 := by omega
        have q1 : 1 < k := by omega
        have q2 : b ≤ 1 := by omega
        have HX := Lib.hid hx
        clear hx
        by_cases hkn : k < n
        all_goals
          go_wp2
          go_ret3
          refine ⟨?_, rfl⟩
          rw [HG.out, if_pos (by have := HX.out; omega)]
          rfl
      · have B10 : ((k : Int) == 10) = true := by rw [beq_iff_eq]; omega
        have B0 : ((b : Int) == 0) = false := by rw [beq_eq_false_iff_ne]; omega
        have e9 : k - 1 = 9 := by omega
        have hc9 : w.cell? ⟨g, o + 9, none⟩ = some (.int .u8 (b : Int)) := by rw [e9] at hlast; exact hlast
        clear e9
        have q0 : 10 ≤ k := by omega
        have q1 : b ≤ 1 := by omega
        have q2 : 1 ≤ b := by omega
        have HX := Lib.hid hx
        clear hx
        by_cases hkn : k < n
        all_goals
          have hnb : ¬ (k = 10 ∧ 1 < b ∨ 1 < k ∧ b = 0) := by have := HX.out; omega
          have HVB2 := Lib.hid (HVB.out hnb)
          have HG2 := Lib.hid HG.out
          rw [if_neg hnb] at HG2
          clear hnb
          go_wp2
          go_loop [7, 8] (fun t i => GRel2 bs k t i) (fun _ i => (intOf i + 1).toNat)
          case atStart =>
            refine ⟨k, Nat.le_refl _, rfl, ?_⟩
            rw [List.drop_of_length_le (by rw [List.length_take]; omega)]
            rfl
          case round =>
            obtain ⟨j, hj, rfl, rfl⟩ := hrel
            rcases Nat.eq_zero_or_pos j with h0 | h0
            · subst h0
              have e : ((0 : Nat) : Int) - 1 = -1 := rfl
              rw [e]
              clear e
              go_wp2
              go_ret3
              refine ⟨?_, rfl⟩
              rw [HG2.out]
              rfl
            · obtain ⟨i, rfl⟩ : ∃ i, j = i + 1 := ⟨j - 1, by omega⟩
              have hci := HC.out i (by omega)
              have hlen : (bs.take k).length = k := by rw [List.length_take, HL.out]; omega
              have hd := Pl.val_drop (bs.take k) i (by omega)
              rw [Pl.getD_take _ _ _ (by omega)] at hd
              have hdl := Pl.val_drop_le (bs.take k) i
              have hst := ref_step (Pl.val ((bs.take k).drop (i + 1))) (bs.getD i 0) (by have := HVB2.out; omega)
              have HD := Lib.hid hd
              have HST := Lib.hid hst
              obtain ⟨y, hy⟩ : ∃ y, y = bs.getD i 0 := ⟨_, rfl⟩
              have hy256 := Pl.oct_getD HO.out i
              rw [← hy] at hci HST hy256 HD
              clear hd hdl hst hlen hy
              have e : ((i + 1 : Nat) : Int) - 1 = (i : Int) := by omega
              rw [e]
              clear e
              go_wp2
              go_round
              case rel => exact ⟨i, by omega, rfl, by rw [HST.out, ← HD.out]⟩
              case measure => simp [intOf]
      · have B10 : ((k : Int) == 10) = false := by rw [beq_eq_false_iff_ne]; omega
        have B0 : ((b : Int) == 0) = false := by rw [beq_eq_false_iff_ne]; omega
        have q0 : k < 10 := by omega
        have q1 : 1 < k := by omega
        have q2 : 1 ≤ b := by omega
        have HX := Lib.hid hx
        clear hx
        by_cases hkn : k < n
        all_goals
          have hnb : ¬ (k = 10 ∧ 1 < b ∨ 1 < k ∧ b = 0) := by have := HX.out; omega
          have HVB2 := Lib.hid (HVB.out hnb)
          have HG2 := Lib.hid HG.out
          rw [if_neg hnb] at HG2
          clear hnb
          go_wp2
          go_loop [7, 8] (fun t i => GRel2 bs k t i) (fun _ i => (intOf i + 1).toNat)
          case atStart =>
            refine ⟨k, Nat.le_refl _, rfl, ?_⟩
            rw [List.drop_of_length_le (by rw [List.length_take]; omega)]
            rfl
          case round =>
            obtain ⟨j, hj, rfl, rfl⟩ := hrel
            rcases Nat.eq_zero_or_pos j with h0 | h0
            · subst h0
              have e : ((0 : Nat) : Int) - 1 = -1 := rfl
              rw [e]
              clear e
              go_wp2
              go_ret3
              refine ⟨?_, rfl⟩
              rw [HG2.out]
              rfl
            · obtain ⟨i, rfl⟩ : ∃ i, j = i + 1 := ⟨j - 1, by omega⟩
              have hci := HC.out i (by omega)
              have hlen : (bs.take k).length = k := by rw [List.length_take, HL.out]; omega
              have hd := Pl.val_drop (bs.take k) i (by omega)
              rw [Pl.getD_take _ _ _ (by omega)] at hd
              have hdl := Pl.val_drop_le (bs.take k) i
              have hst := ref_step (Pl.val ((bs.take k).drop (i + 1))) (bs.getD i 0) (by have := HVB2.out; omega)
              have HD := Lib.hid hd
              have HST := Lib.hid hst
              obtain ⟨y, hy⟩ : ∃ y, y = bs.getD i 0 := ⟨_, rfl⟩
              have hy256 := Pl.oct_getD HO.out i
              rw [← hy] at hci HST hy256 HD
              clear hd hdl hst hlen hy
              have e : ((i + 1 : Nat) : Int) - 1 = (i : Int) := by omega
              rw [e]
              clear e
              go_wp2
              go_round
              case rel => exact ⟨i, by omega, rfl, by rw [HST.out, ← HD.out]⟩
              case measure => simp [intOf]
      · have B10 : ((k : Int) == 10) = false := by rw [beq_eq_false_iff_ne]; omega
        have q0 : k < 10 := by omega
        have q1 : k ≤ 1 := by omega
        have HX := Lib.hid hx
        clear hx
        by_cases hkn : k < n
        all_goals
          have hnb : ¬ (k = 10 ∧ 1 < b ∨ 1 < k ∧ b = 0) := by have := HX.out; omega
          have HVB2 := Lib.hid (HVB.out hnb)
          have HG2 := Lib.hid HG.out
          rw [if_neg hnb] at HG2
          clear hnb
          go_wp2
          go_loop [7, 8] (fun t i => GRel2 bs k t i) (fun _ i => (intOf i + 1).toNat)
          case atStart =>
            refine ⟨k, Nat.le_refl _, rfl, ?_⟩
            rw [List.drop_of_length_le (by rw [List.length_take]; omega)]
            rfl
          case round =>
            obtain ⟨j, hj, rfl, rfl⟩ := hrel
            rcases Nat.eq_zero_or_pos j with h0 | h0
            · subst h0
              have e : ((0 : Nat) : Int) - 1 = -1 := rfl
              rw [e]
              clear e
              go_wp2
              go_ret3
              refine ⟨?_, rfl⟩
              rw [HG2.out]
              rfl
            · obtain ⟨i, rfl⟩ : ∃ i, j = i + 1 := ⟨j - 1, by omega⟩
              have hci := HC.out i (by omega)
              have hlen : (bs.take k).length = k := by rw [List.length_take, HL.out]; omega
              have hd := Pl.val_drop (bs.take k) i (by omega)
              rw [Pl.getD_take _ _ _ (by omega)] at hd
              have hdl := Pl.val_drop_le (bs.take k) i
              have hst := ref_step (Pl.val ((bs.take k).drop (i + 1))) (bs.getD i 0) (by have := HVB2.out; omega)
              have HD := Lib.hid hd
              have HST := Lib.hid hst
              obtain ⟨y, hy⟩ : ∃ y, y = bs.getD i 0 := ⟨_, rfl⟩
              have hy256 := Pl.oct_getD HO.out i
              rw [← hy] at hci HST hy256 HD
              clear hd hdl hst hlen hy
              have e : ((i + 1 : Nat) : Int) - 1 = (i : Int) := by omega
              rw [e]
              clear e
              go_wp2
              go_round
              case rel => exact ⟨i, by omega, rfl, by rw [HST.out, ← HD.out]⟩
              case measure => simp [intOf]

theorem refGet_at (A : Option Addr) (n c : Nat) (bs : List Nat) (w : World) (h1 : Bys w w.heap.size A n c bs) (x k e : Nat) (h : Pl.get bs = (x, k, e)) :
    Calls Try.prog 53 #[.slice A n c] w fun e' w' => e' = .returned (.tuple #[.int .u64 (x : Int), .int .i64 (k : Int), .int .i64 (e : Int)]) ∧ w = w' := by
  have := refGet_any A n c bs w h1
  rw [h] at this
  exact this

set_option maxRecDepth 100000 in
set_option maxHeartbeats 400000 in
theorem refUnfold_any (n : Nat) (w : World) (hn : Pl.U n) : Calls Try.prog 25 #[.int .u64 (n : Int)] w fun e w' => e = .returned (.int .i64 (Pl.unfold n)) ∧ w = w' := by
  have HU := Lib.hid hn
  clear hn
  by_cases h : n % 2 = 0
  · have h2 : ((n : Int) % 2 == 0) = true := by rw [beq_iff_eq]; omega
    have HN := Lib.hid h
    clear h
    go_enter Try.func25, Try.ntmps25
    go_wp2
    go_ret
    exact ⟨ret_int (refUnfold_even n HU.out HN.out), rfl⟩
  · have h2 : ((n : Int) % 2 == 0) = false := by rw [beq_eq_false_iff_ne]; omega
    have HN := Lib.hid h
    clear h
    go_enter Try.func25, Try.ntmps25
    go_wp2
    go_ret
    exact ⟨ret_int (refUnfold_odd n HU.out HN.out), rfl⟩
end Go.Proofs.Ytpakbpkcacdpbaa
