/-
  The walk of copybooklaw02.CrcFrames: it returns true for all bytes; nothing that was there turned. Condition: the table stands in crc.steps.
-/
import Derived.Test.YtghllmdbhhaofaaDoorCrcV
namespace Go.Proofs.YtghllmdbhhaofaaDoor.crcFrames
open Go.RowKit

set_option maxRecDepth 100000 in
set_option maxHeartbeats 4000000 in
theorem walk (w : World) (hT : Tab w) (A : Option Addr) (n c : Nat) (bs : List Nat) (hA : Bys w w.heap.size A n c bs) (hr : n ≤ 140737488351232) :
    Calls Tryd.prog 6 #[.slice A n c] w fun e w' => e = .returned (.bool true) ∧ Below w.heap.size w w' := by
  have HA := Lib.hid hA
  clear hA
  have hA := HA.out
  obtain ⟨N, hN⟩ : ∃ N, N = n + 4 := ⟨_, rfl⟩
  obtain ⟨M, hM⟩ : ∃ M, M = n + 8 := ⟨_, rfl⟩
  have HN := Lib.hid hN
  have HM := Lib.hid hM
  have hnN : n < N := by omega
  have h4N : 4 ≤ N := by omega
  clear hN hM hA
  have HL1 := Lib.hid (show (Pl.mark bs).length = N by rw [Pl.mark_len, HA.out.len, HN.out])
  have HL2 := Lib.hid (show (Pl.mark (Pl.mark bs)).length = M by rw [Pl.mark_len, HL1.out, HN.out, HM.out])
  go_enter Tryd.func6, Tryd.ntmps6
  go_wp2_with fail
  refine (mark_any A n c bs w hT HA.out (by omega)).mono ?_
  rintro e w1 ⟨g1, c1, rfl, hO1, hb1⟩
  rw [HL1.out]
  have hT1 := hT.below hb1 hT.pos
  have B1 := Lib.hid (show Bys w1 w1.heap.size (some ⟨g1, 0, none⟩) N c1 (Pl.mark bs) by have := hO1.bys; rwa [HL1.out] at this)
  go_wp2_with fail
  refine (mark_any _ N c1 (Pl.mark bs) w1 hT1 B1.out (by have := HN.out; omega)).mono ?_
  rintro e w2 ⟨g2, c2, rfl, hO2, hb2⟩
  rw [HL2.out]
  have hT2 := hT1.below hb2 hT1.pos
  have B2 := Lib.hid (show Bys w2 w2.heap.size (some ⟨g2, 0, none⟩) M c2 (Pl.mark (Pl.mark bs)) by have := hO2.bys; rwa [HL2.out] at this)
  go_wp2_with fail
  refine (strip_ok _ M c2 (Pl.mark bs) w2 hT2 B2.out (by have := HM.out; omega)).mono ?_
  rintro e w3 ⟨g3, c3, rfl, hO3, hb3⟩
  rw [HL1.out]
  have hT3 := hT2.below hb3 hT2.pos
  have B3 := Lib.hid (show Bys w3 w3.heap.size (some ⟨g3, 0, none⟩) N c3 (Pl.mark bs) by have := hO3.bys; rwa [HL1.out] at this)
  have B13 := Lib.hid (((B1.out.below hb2 (Nat.le_refl _)).more hb2.size).below hb3 (Nat.le_refl _) |>.more hb3.size)
  have B23 := Lib.hid (B2.out.below hb3 (Nat.le_refl _) |>.more hb3.size)
  have hbw3 : Below w.heap.size w w3 := (hb1.trans (hb2.mono hb1.size)).trans (hb3.mono (Nat.le_trans hb1.size hb2.size))
  go_wp2_with fail
  refine (sum_one w3 _ N c1 (Pl.mark bs) hT3 B13.out).mono ?_
  rw [Pl.sum_mark HA.out.oct]
  rintro e w4 ⟨rfl, hb4⟩
  have hT4 := hT3.below hb4 hT3.pos
  go_wp2_with fail
  refine (sum_one w4 _ M c2 _ hT4 (B23.out.below hb4 (Nat.le_refl _) |>.more hb4.size)).mono ?_
  rw [Pl.sum_mark (Pl.mark_oct HA.out.oct)]
  rintro e w5 ⟨rfl, hb5⟩
  have hT5 := hT4.below hb5 hT4.pos
  have B15 := Lib.hid (B13.out.below hb4 (Nat.le_refl _) |>.more hb4.size |>.below hb5 (Nat.le_refl _) |>.more hb5.size)
  have B35 := Lib.hid (B3.out.below hb4 (Nat.le_refl _) |>.more hb4.size |>.below hb5 (Nat.le_refl _) |>.more hb5.size)
  have hbw5 : Below w.heap.size w w5 := (hbw3.trans (hb4.mono hbw3.size)).trans (hb5.mono (Nat.le_trans hbw3.size hb4.size))
  have k1 := B15.out.conv
  have k3 := B35.out.conv
  obtain ⟨s1, hs1⟩ : ∃ s, s = strOfNums (ints (Pl.mark bs)) := ⟨_, rfl⟩
  rw [← hs1] at k1 k3
  clear hs1
  clear hb1 hb2 hb3 hb4 hb5 hO1 hO2 hO3 hT1 hT2 hT3 hT4 B1 B2 B3 B13 B23 hbw3
  go_wp2_with fail
  clear k1 k3
  refine (strip_ok _ N c3 bs w5 hT5 B35.out (by have := HN.out; omega)).mono ?_
  rw [HA.out.len]
  rintro e w6 ⟨g6, c6, rfl, hO6, hb6⟩
  have hT6 := hT5.below hb6 hT5.pos
  have B6 := hO6.bys
  rw [HA.out.len] at B6
  have B16 := (B15.out.below hb6 (Nat.le_refl _) |>.more hb6.size)
  have hbw6 : Below w.heap.size w w6 := hbw5.trans (hb6.mono hbw5.size)
  have A6 := (HA.out.below hbw6 (Nat.le_refl _)).more hbw6.size
  have y1 := B6.str _ rfl
  have y2 := A6.str _ rfl
  obtain ⟨s2, hs2⟩ : ∃ s, s = strOfNums (ints bs) := ⟨_, rfl⟩
  rw [← hs2] at y1 y2
  clear hs2
  have HC := Lib.hid (sum_one w6.drew A n c bs hT6 A6)
  have hcap1 := B16.cap
  have hle1 := B16.le
  unfold maxLen at hcap1
  have z0 : min 4 (N : Int) = 4 := by omega
  have z1 : (N : Int) - 4 = (n : Int) := by have := HN.out; omega
  have z2 : (n : Int) ≤ (N : Int) := by omega
  have z3 : ¬ c1 = n := by omega
  have z4 : (n : Int) ≤ (c1 : Int) := by omega
  have z5 : (N : Int) ≤ (c1 : Int) := by omega
  have z6 : (0 : Int) ≤ (n : Int) := by omega
  have z7 : IntKind.i64.wrap (n : Int) = (n : Int) := IntWalk.i64_in _ (by omega)
  have HMW : ∀ w' : World, Hid (Kept w6.heap.size w6 w' → Calls Tryd.prog 17 #[.int .u32 ((Pl.sum bs : Nat) : Int), .slice (some ⟨g1, n, none⟩) (N - n) (c1 - n)] w' fun e w'' => e = .returned (.int .u32 558161692) ∧ w' = w'') := by
    intro w'
    refine Lib.hid fun hk => ?_
    have hB := (B16.from_ (k := n) (by omega)).kept hk
    rw [Nat.zero_add] at hB
    have := more_any _ _ _ (Pl.sum bs) _ w' (hT6.kept hT6.pos hk) (Pl.sum_W _) hB
    rw [Pl.mark, List.drop_append_of_le_length (by rw [HA.out.len]; exact Nat.le_refl _), List.drop_of_length_le (by rw [HA.out.len]; exact Nat.le_refl _), List.nil_append, Pl.more_own _ (Pl.sum_W _)] at this
    exact this
  have HWK : ∀ w' : World, Hid (Kept w6.heap.size w6 w' → Calls Tryd.prog 16 #[] w' fun e w'' => e = .returned (.bool true) ∧ Below w'.heap.size w' w'') := fun w' => Lib.hid fun hk => wakes_any w' (hT6.kept hT6.pos hk)
  have hks : Kept w6.heap.size w6 w6.drew := Kept.start (Nat.le_refl _)
  clear B6 B16 A6 hO6
  go_wp2_with fail
  go_region_held3 (fun w' => Kept w6.heap.size w6 w')
    (first | exact hks | exact hks.alloc _ | exact Kept.alloc (by assumption) _ | exact hks.below hbS (Nat.le_refl _) | exact (hks.below hbS (Nat.le_refl _)).below hbW hbS.size)
    (first | (go_at_call 13; refine HC.out.mono ?_; rintro e wS ⟨rfl, hbS⟩) | (go_at_call 17; refine ((HMW _).out (by assumption)).mono ?_; rintro e wM ⟨rfl, rfl⟩) | (go_at_call 16; refine ((HWK _).out (by assumption)).mono ?_; rintro e wW ⟨rfl, hbW⟩))
  all_goals
    clear HC HMW HWK y1 y2 z0 z1 z2 z3 z4 z5 z6 z7
    go_wp2_with fail
    go_ret
    have hbS' : Below w6.heap.size w6 wS := below_drew hbS
    exact ⟨rfl, (hbw6.trans (hbS'.mono hbw6.size)).trans (hbW.mono (Nat.le_trans hbw6.size hbS'.size))⟩
end Go.Proofs.YtghllmdbhhaofaaDoor.crcFrames
