/-
  The document's own Fill where the row does not fit, its Inverse, its Back (layer 9). Conditions: rows of at most a thousand units.
-/
import Derived.Test.YtlnekhkdncccgaaUnV
namespace Go.Proofs.Ytlnekhkdncccgaa
open Go.RowKit
open Pl (Un)

set_option maxRecDepth 100000 in
set_option maxHeartbeats 400000 in
theorem fill9_bad (B : Option Addr) (m d : Nat) (l : List Un) (A : Option Addr) (n c : Nat) (w : World) (h2 : Uns w w.heap.size B m d l) (hm : m ≤ 1000) (hn : n ≤ 90000) (E N : Int) (hf : Pl.longL l (n : Int) = (N, E)) (hE : E ≠ 0) :
    Calls Try.prog 11 #[.slice B m d, .slice A n c] w fun e w' => e = .returned (.tuple #[.slice none 0 0, .int .i64 E]) ∧ Below w.heap.size w w' := by
  have hlong := long6_any B m d l n w h2 hm (by omega)
  rw [hf] at hlong
  simp only at hlong
  have HL := Lib.hid hlong
  have hEb : (E != 0) = true := by simpa using hE
  clear h2 hf hlong
  go_enter Try.func11, Try.ntmps11
  go_wp2_with fail
  refine HL.out.mono ?_
  rintro e w2 ⟨rfl, hb⟩
  have HB2 := Lib.hid hb
  clear hb
  go_wp2_with fail
  go_returns
  exact ⟨rfl, HB2.out⟩
/-- between one unit and the one ahead of it -/
def IvR (w : World) (x y : Int) (l : List Un) (s i : Value) (wr : World) : Prop := ∃ (j : Int) (M : Nat) (A : Option Addr) (c : Nat) (P : List Un), i = .int .i64 j ∧ s = .slice A M c ∧ P = ((l.drop (j + 1).toNat).map (Pl.invU x y)).reverse ∧ M = P.length ∧ -1 ≤ j ∧ j < l.length ∧ OwnU wr w.heap.size (.slice A M c) P ∧ Below w.heap.size w wr
set_option maxRecDepth 100000 in
set_option maxHeartbeats 2000000 in
theorem inv9_any (A : Option Addr) (n c : Nat) (l : List Un) (x y : Int) (w : World) (h1 : Uns w w.heap.size A n c l) (hn : n ≤ 1000) :
    Calls Try.prog 18 #[.slice A n c, .agg #[.int .u32 x, .int .u64 y]] w (RetU w (Pl.invR x y l)) := by
  obtain ⟨W0, hW0⟩ : ∃ W0, W0 = w.alloc (.cells #[.int .u32 x, .int .u64 y] 34) := ⟨_, rfl⟩
  have hb0 : Below w.heap.size w W0 := by rw [hW0]; exact below_box _ _
  have hid : IdAt W0 w.heap.size x y := by rw [hW0]; exact heap_new rfl
  have HL := Lib.hid h1.len
  have H1 := Lib.hid (Rws.then_ h1 hb0)
  have HB0 := Lib.hid hb0
  have HID := Lib.hid hid
  have HIL := Lib.hid hid.lt
  have HW0 := Lib.hid hW0
  have HR := Lib.hid (show IvR W0 x y l (.slice none 0 0) (.int .i64 ((n : Int) - 1)) W0 from ⟨_, 0, none, 0, [], rfl, rfl, by rw [List.drop_of_length_le (by rw [HL.out]; omega)]; rfl, rfl, by omega, by rw [HL.out]; omega, OwnR.nil_ _ _ _ _ _, Below.refl _ _⟩)
  have hw0 : wrap64 ((n : Int) - 1) = (n : Int) - 1 := by unfold wrap64; omega
  clear h1 hb0 hid hW0
  go_enter Try.func18, Try.ntmps18
  go_wp2_with fail
  rw [show w.alloc (.cells #[.int .u32 x, .int .u64 y] 34) = W0 from HW0.out.symm]
  clear hw0
  go_loopw [5, 6] (fun s i wr => IvR W0 x y l s i wr) (fun _ i _ => (intOf i + 1).toNat)
  case atStart => exact HR.out
  case round =>
    obtain ⟨j, M, A2, c2, P, rfl, rfl, hP, hM, hj0, hjn, ho, hb⟩ := hrel
    have HB := Lib.hid hb
    have HO := Lib.hid ho
    have HMP := Lib.hid hM
    by_cases hlt : 0 ≤ j
    · obtain ⟨I, rfl⟩ : ∃ I : Nat, j = (I : Int) := ⟨j.toNat, by omega⟩
      have hil : I < l.length := by omega
      have hin : I < n := by rw [← HL.out]; exact hil
      obtain ⟨g1, o1, rfl, hg1, hc1⟩ := Uns.at_ (H1.out) hin
      have hcb := Rws.below H1.out hb (Nat.le_refl _)
      obtain ⟨_, _, e, _, hc2⟩ := Uns.at_ hcb hin
      cases e
      obtain ⟨a0, a1, a2, a3, a4⟩ := hc2 I hin
      obtain ⟨u, hu⟩ : ∃ u, u = l.getD I default := ⟨_, rfl⟩
      rw [← hu] at a0 a1 a2 a3 a4
      have hgw : g1 < wr.heap.size := World.block_lt_of_cell? wr _ a0
      have b0 : ∀ o, (wr.alloc o).cell? ⟨g1, o1 + I * 5, none⟩ = some (.int .i64 u.k) := fun o => ((below_box wr o).cell (p := ⟨g1, o1 + I * 5, none⟩) hgw).trans a0
      have b1 : ∀ o, (wr.alloc o).cell? ⟨g1, o1 + I * 5 + 1, none⟩ = some (.int .i64 u.p) := fun o => ((below_box wr o).cell (p := ⟨g1, o1 + I * 5 + 1, none⟩) hgw).trans a1
      have b2 : ∀ o, (wr.alloc o).cell? ⟨g1, o1 + I * 5 + 2, none⟩ = some (.int .i32 u.c) := fun o => ((below_box wr o).cell (p := ⟨g1, o1 + I * 5 + 2, none⟩) hgw).trans a2
      obtain ⟨i0, i1⟩ := (HID.out.tn (Tn.of (fun _ => False) hb) (fun h => h)).cells
      have HPS := Lib.hid (show ((l.drop I).map (Pl.invU x y)).reverse = P ++ [Pl.invU x y u] by
        rw [drop_one hil, hP, hu, List.map_cons, List.reverse_cons, show ((I : Int) + 1).toNat = I + 1 by omega])
      have hM5 : M ≤ 1000 := by rw [hM, hP, List.length_reverse, List.length_map, List.length_drop, HL.out]; omega
      obtain ⟨k, p, ch, x1, y1⟩ := u
      simp only at b0 b1 b2
      have z0 : (0 : Int) ≤ (I : Int) := Int.natCast_nonneg I
      have z1 : (I : Int) < (n : Int) := Int.ofNat_lt.2 hin
      clear a0 a1 a2 a3 a4 hc1 hc2 hcb hu hgw hb ho hP hM
      by_cases h1 : k = 1
      · subst h1
        have HPN := Lib.hid (show ((l.drop I).map (Pl.invU x y)).reverse = P ++ [⟨2, p, 0, x, y⟩] from HPS.out)
        obtain ⟨W1, hW1⟩ : ∃ W1, W1 = wr.alloc (.cells #[.int .i64 2, .int .i64 p, .int .i32 0, .int .u32 x, .int .u64 y] 42) := ⟨_, rfl⟩
        have hbx : Below wr.heap.size wr W1 := by rw [hW1]; exact below_box _ _
        have hs1 : W1.heap.size = wr.heap.size + 1 := by rw [hW1]; simp
        have HOW := Lib.hid (show OwnU (W1.alloc (.cells #[.int .i64 2, .int .i64 p, .int .i32 0, .int .u32 x, .int .u64 y] 42)) W0.heap.size (.slice A2 M c2) P from OwnR.then_ (OwnR.then_ HO.out hbx) (below_box W1 _))
        have HRW := Lib.hid (show OwnU (W1.alloc (.cells #[.int .i64 2, .int .i64 p, .int .i32 0, .int .u32 x, .int .u64 y] 42)) W1.heap.size (.slice (some ⟨wr.heap.size + 1, 0, none⟩) 1 1) [⟨2, p, 0, x, y⟩] from by
          have h := unit_row W1 2 p 0 x y
          rw [hs1] at h; rw [hs1]; exact h)
        have HBW := Lib.hid (below_then' (below_then' HB.out hbx HB.out.size) (below_box W1 (.cells #[.int .i64 2, .int .i64 p, .int .i32 0, .int .u32 x, .int .u64 y] 42)) (Nat.le_trans HB.out.size hbx.size))
        rw [hW1] at HOW HRW HBW
        clear hbx hW1 hs1
        go_wp2_with (at_builtin; refine wpList_append_rws encU_len encU_one Try.underlying23 infoUn (by decide) (by decide) (World.alloc (wr.alloc (.cells #[.int .i64 2, .int .i64 p, .int .i32 0, .int .u32 x, .int .u64 y] 42)) (.cells #[.int .i64 2, .int .i64 p, .int .i32 0, .int .u32 x, .int .u64 y] 42)) rfl (.tmp 49) (.tmp 51) rfl W0.heap.size A2 M c2 P (by rfl) HOW.out _ (some ⟨wr.heap.size + 1, 0, none⟩) 1 1 [⟨2, p, 0, x, y⟩] (by rfl) (OwnU.uns HRW.out) (by unfold maxLen; omega) (by omega) HBW.out.size ?_)
        intro A5 c5 w5 hO5 hg5 _
        have HO5 := Lib.hid (show OwnU w5 W0.heap.size (.slice A5 (M + 1) c5) (P ++ [⟨2, p, 0, x, y⟩]) from hO5)
        have HB5 := Lib.hid (OwnR.grownBelow HOW.out hg5 HBW.out HBW.out.size)
        clear hO5 hg5 b0 b1 b2 i0 i1
        go_wp2_with fail
        go_roundw
        case rel => exact ⟨(I : Int) - 1, M + 1, A5, c5, P ++ [⟨2, p, 0, x, y⟩], by go_num, rfl, by rw [← HPN.out, show ((I : Int) - 1 + 1).toNat = I by omega], by rw [List.length_append, ← HMP.out]; rfl, by omega, by omega, HO5.out, HB5.out⟩
        case measure => simp [intOf]
      · have h1b : (k == 1) = false := by simpa using h1
        by_cases h2 : k = 2
        · subst h2
          have HPN := Lib.hid (show ((l.drop I).map (Pl.invU x y)).reverse = P ++ [⟨1, p, ch, x, y⟩] from HPS.out)
          obtain ⟨W1, hW1⟩ : ∃ W1, W1 = wr.alloc (.cells #[.int .i64 1, .int .i64 p, .int .i32 ch, .int .u32 x, .int .u64 y] 42) := ⟨_, rfl⟩
          have hbx : Below wr.heap.size wr W1 := by rw [hW1]; exact below_box _ _
          have hs1 : W1.heap.size = wr.heap.size + 1 := by rw [hW1]; simp
          have HOW := Lib.hid (show OwnU (W1.alloc (.cells #[.int .i64 1, .int .i64 p, .int .i32 ch, .int .u32 x, .int .u64 y] 42)) W0.heap.size (.slice A2 M c2) P from OwnR.then_ (OwnR.then_ HO.out hbx) (below_box W1 _))
          have HRW := Lib.hid (show OwnU (W1.alloc (.cells #[.int .i64 1, .int .i64 p, .int .i32 ch, .int .u32 x, .int .u64 y] 42)) W1.heap.size (.slice (some ⟨wr.heap.size + 1, 0, none⟩) 1 1) [⟨1, p, ch, x, y⟩] from by
            have h := unit_row W1 1 p ch x y
            rw [hs1] at h; rw [hs1]; exact h)
          have HBW := Lib.hid (below_then' (below_then' HB.out hbx HB.out.size) (below_box W1 (.cells #[.int .i64 1, .int .i64 p, .int .i32 ch, .int .u32 x, .int .u64 y] 42)) (Nat.le_trans HB.out.size hbx.size))
          rw [hW1] at HOW HRW HBW
          clear hbx hW1 hs1
          go_wp2_with (at_builtin; refine wpList_append_rws encU_len encU_one Try.underlying23 infoUn (by decide) (by decide) (World.alloc (wr.alloc (.cells #[.int .i64 1, .int .i64 p, .int .i32 ch, .int .u32 x, .int .u64 y] 42)) (.cells #[.int .i64 1, .int .i64 p, .int .i32 ch, .int .u32 x, .int .u64 y] 42)) rfl (.tmp 49) (.tmp 51) rfl W0.heap.size A2 M c2 P (by rfl) HOW.out _ (some ⟨wr.heap.size + 1, 0, none⟩) 1 1 [⟨1, p, ch, x, y⟩] (by rfl) (OwnU.uns HRW.out) (by unfold maxLen; omega) (by omega) HBW.out.size ?_)
          intro A5 c5 w5 hO5 hg5 _
          have HO5 := Lib.hid (show OwnU w5 W0.heap.size (.slice A5 (M + 1) c5) (P ++ [⟨1, p, ch, x, y⟩]) from hO5)
          have HB5 := Lib.hid (OwnR.grownBelow HOW.out hg5 HBW.out HBW.out.size)
          clear hO5 hg5 b0 b1 b2 i0 i1
          go_wp2_with fail
          go_roundw
          case rel => exact ⟨(I : Int) - 1, M + 1, A5, c5, P ++ [⟨1, p, ch, x, y⟩], by go_num, rfl, by rw [← HPN.out, show ((I : Int) - 1 + 1).toNat = I by omega], by rw [List.length_append, ← HMP.out]; rfl, by omega, by omega, HO5.out, HB5.out⟩
          case measure => simp [intOf]
        · have h2b : (k == 2) = false := by simpa using h2
          rw [show Pl.invU x y ⟨k, p, ch, x1, y1⟩ = ⟨0, 0, 0, x, y⟩ by unfold Pl.invU; rw [if_neg h1, if_neg h2]] at HPS
          clear h1 h2
          have HPN := Lib.hid (show ((l.drop I).map (Pl.invU x y)).reverse = P ++ [⟨0, 0, 0, x, y⟩] from HPS.out)
          obtain ⟨W1, hW1⟩ : ∃ W1, W1 = wr.alloc (.cells #[.int .i64 0, .int .i64 0, .int .i32 0, .int .u32 x, .int .u64 y] 42) := ⟨_, rfl⟩
          have hbx : Below wr.heap.size wr W1 := by rw [hW1]; exact below_box _ _
          have hs1 : W1.heap.size = wr.heap.size + 1 := by rw [hW1]; simp
          have HOW := Lib.hid (show OwnU (W1.alloc (.cells #[.int .i64 0, .int .i64 0, .int .i32 0, .int .u32 x, .int .u64 y] 42)) W0.heap.size (.slice A2 M c2) P from OwnR.then_ (OwnR.then_ HO.out hbx) (below_box W1 _))
          have HRW := Lib.hid (show OwnU (W1.alloc (.cells #[.int .i64 0, .int .i64 0, .int .i32 0, .int .u32 x, .int .u64 y] 42)) W1.heap.size (.slice (some ⟨wr.heap.size + 1, 0, none⟩) 1 1) [⟨0, 0, 0, x, y⟩] from by
            have h := unit_row W1 0 0 0 x y
            rw [hs1] at h; rw [hs1]; exact h)
          have HBW := Lib.hid (below_then' (below_then' HB.out hbx HB.out.size) (below_box W1 (.cells #[.int .i64 0, .int .i64 0, .int .i32 0, .int .u32 x, .int .u64 y] 42)) (Nat.le_trans HB.out.size hbx.size))
          rw [hW1] at HOW HRW HBW
          clear hbx hW1 hs1
          go_wp2_with (at_builtin; refine wpList_append_rws encU_len encU_one Try.underlying23 infoUn (by decide) (by decide) (World.alloc (wr.alloc (.cells #[.int .i64 0, .int .i64 0, .int .i32 0, .int .u32 x, .int .u64 y] 42)) (.cells #[.int .i64 0, .int .i64 0, .int .i32 0, .int .u32 x, .int .u64 y] 42)) rfl (.tmp 49) (.tmp 51) rfl W0.heap.size A2 M c2 P (by rfl) HOW.out _ (some ⟨wr.heap.size + 1, 0, none⟩) 1 1 [⟨0, 0, 0, x, y⟩] (by rfl) (OwnU.uns HRW.out) (by unfold maxLen; omega) (by omega) HBW.out.size ?_)
          intro A5 c5 w5 hO5 hg5 _
          have HO5 := Lib.hid (show OwnU w5 W0.heap.size (.slice A5 (M + 1) c5) (P ++ [⟨0, 0, 0, x, y⟩]) from hO5)
          have HB5 := Lib.hid (OwnR.grownBelow HOW.out hg5 HBW.out HBW.out.size)
          clear hO5 hg5 b0 b1 b2 i0 i1
          go_wp2_with fail
          go_roundw
          case rel => exact ⟨(I : Int) - 1, M + 1, A5, c5, P ++ [⟨0, 0, 0, x, y⟩], by go_num, rfl, by rw [← HPN.out, show ((I : Int) - 1 + 1).toNat = I by omega], by rw [List.length_append, ← HMP.out]; rfl, by omega, by omega, HO5.out, HB5.out⟩
          case measure => simp [intOf]
    · have hj : j = -1 := by omega
      rw [hj, show ((-1 : Int) + 1).toNat = 0 by decide, List.drop_zero] at hP
      have hPE : P = Pl.invR x y l := hP
      have HPE := Lib.hid hPE
      clear hP hPE hM ho hb
      go_wp2_with fail
      go_ret
      exact ⟨A2, c2, by rw [← HPE.out, ← HMP.out]; rfl, by rw [← HPE.out, ← HMP.out]; exact OwnR.lower HO.out HB0.out.size, HB0.out.trans (HB.out.mono HB0.out.size)⟩
set_option maxRecDepth 100000 in
set_option maxHeartbeats 400000 in
theorem back9_any (A : Option Addr) (n c : Nat) (l : List Un) (x y : Int) (B : Option Addr) (d : Nat) (R : List RowV) (w : World) (h1 : Uns w w.heap.size A n c l) (h2 : RowsV w B R) (hn : n ≤ 1000) (hR : R.length ≤ 1000) :
    Calls Try.prog 16 #[.slice A n c, .agg #[.int .u32 x, .int .u64 y], .slice B R.length d] w (RetU w (Pl.cleanL (Pl.pastR (Pl.invR x y l) (R.map RowV.l)))) := by
  obtain ⟨W1, hW1⟩ : ∃ W1, W1 = w.alloc (.cells #[.int .u32 x, .int .u64 y] 34) := ⟨_, rfl⟩
  have hb1 : Below w.heap.size w W1 := by rw [hW1]; exact below_box _ _
  have HL := Lib.hid h1.len
  have HI := Lib.hid (inv9_any A n c l x y W1 (Rws.then_ h1 hb1) hn)
  have HR1 := Lib.hid (RowsV.then_ h2 hb1)
  have HB1 := Lib.hid hb1
  have HW1 := Lib.hid hW1
  clear h1 h2 hb1 hW1
  go_enter Try.func16, Try.ntmps16
  go_wp2_with fail
  rw [show w.alloc (.cells #[.int .u32 x, .int .u64 y] 34) = W1 from HW1.out.symm]
  refine HI.out.mono ?_
  rintro e w2 ⟨A2, c2, rfl, ho, hb⟩
  have hil : (Pl.invR x y l).length = n := by rw [Pl.inv_len]; exact HL.out
  have HB2 := Lib.hid (below_then' HB1.out hb HB1.out.size)
  have HP := Lib.hid (past6_any A2 _ c2 (Pl.invR x y l) B d R w2 (OwnU.uns ho) (RowsV.then_ HR1.out hb) (by omega) hR)
  have HIL := Lib.hid hil
  clear ho hb hil HI
  go_wp2_with fail
  refine HP.out.mono ?_
  rintro e w3 ⟨A3, c3, rfl, ho, hb⟩
  have HB3 := Lib.hid (below_then' HB2.out hb HB2.out.size)
  have hpl : (Pl.pastR (Pl.invR x y l) (R.map RowV.l)).length ≤ 1000 := by rw [len_pastR, HIL.out]; exact hn
  have HC := Lib.hid (clean9_any A3 _ c3 (Pl.pastR (Pl.invR x y l) (R.map RowV.l)) w3 (OwnU.uns ho) hpl)
  clear ho hb hpl HP
  go_wp2_with fail
  refine HC.out.mono ?_
  rintro e w4 ⟨A4, c4, rfl, ho, hb⟩
  have HO := Lib.hid (OwnR.lower ho HB3.out.size)
  have HB4 := Lib.hid (below_then' HB3.out hb HB3.out.size)
  clear ho hb HC
  go_wp2_with fail
  go_ret
  exact ⟨A4, c4, rfl, HO.out, HB4.out⟩
end Go.Proofs.Ytlnekhkdncccgaa
