/-
  weave.Read at the bytes of a row. Conditions: those that each states.
-/
import Derived.Test.YtaboamkfpolpbaaWvT
import Derived.Test.YtaboamkfpolpbaaWvH
namespace Go.Proofs.Ytaboamkfpolpbaa
open Go.RowKit
open Pl (Un)

theorem RdTo_grown {w w1 w2 : World} {A : Option Addr} {F : Nat → Prop} {s : List Nat × Int} {row : Option Nat} (hl : ∀ b, F b → b < w.heap.size) (h : Wi.RdTo w A F s w1) (hown : ∀ g, row = some g → w.heap.size ≤ g) (hg : w1.grownBy w2 row) : Wi.RdTo w A F s w2 :=
  ⟨h.1.keep ((Wi.Tn.refl (fun b => row = some b) w1).grown hg (fun k e => Or.inr e)) (fun b hb e => by have := hl b hb; have := hown b e; omega), h.2.grown hg (fun k e => Or.inl (hown k e))⟩
theorem RdTo_own {w wr w2 : World} {A : Option Addr} {F : Nat → Prop} {r : List Nat} {s : List Nat × Int} {v : Value} {l : List Un} (hl : ∀ b, F b → b < w.heap.size) (hr : Wi.Rd wr A F r 0) (h : Wi.RdTo wr A F s w2) (ho : OwnU wr w.heap.size v l) : OwnU w2 w.heap.size v l :=
  OwnR.tn ho (tn_of_wi h.2) (fun g hg hp => by have := hl g (hr.pt g hp); have := (OwnR.lt ho g hg).1; omega)
theorem take_snoc {l : List Un} {j : Nat} (hj : j < l.length) : l.take (j + 1) = l.take j ++ [l.getD j default] := by
  rw [List.take_add_one, List.getElem?_eq_getElem hj, List.getD_eq_getElem?_getD, List.getElem?_eq_getElem hj]; rfl
/-- between one unit and the next -/
def RdR (w : World) (A : Option Addr) (F : Nat → Prop) (l : List Un) (bh : List Nat) (s i : Value) (wr : World) : Prop :=
  ∃ (j : Nat) (B : Option Addr) (c : Nat), i = .int .i64 (j : Int) ∧ s = .slice B j c ∧ j ≤ l.length ∧ OwnU wr w.heap.size (.slice B j c) (l.take j) ∧ Wi.RdTo w A F (Pl.flat (l.drop j) ++ bh, 0) wr
set_option maxRecDepth 100000 in
set_option maxHeartbeats 2000000 in
theorem read_good (A : Option Addr) (F : Nat → Prop) (l : List Un) (bh : List Nat) (most : Nat) (w : World) (hg : ∀ u ∈ l, Pl.Good u) (hn : l.length ≤ 60) (hm : l.length ≤ most) (hM : most ≤ 255) (h : Wi.Rd w A F (Pl.recs l ++ bh) 0) :
    Calls Try.prog 28 #[.pointer A, .int .i64 (most : Int)] w fun en w' => ∃ B c, en = .returned (.slice B l.length c) ∧ OwnU w' w.heap.size (.slice B l.length c) l ∧ Wi.RdTo w A F (bh, 0) w' := by
  have hc := Wi.count_any A F _ 0 (most : Int) w h (Wi.Pl.I.mk (by omega))
  rw [Int.toNat_natCast, Pl.recs, List.append_assoc, rb_enc _ most 3 _ (Wi.Pl.U.mk (by omega)) hm] at hc
  have HC := Lib.hid hc
  have HG := Lib.hid hg
  obtain ⟨n, hnl⟩ : ∃ n, n = l.length := ⟨_, rfl⟩
  rw [← hnl] at hn hm
  have HL := Lib.hid hnl
  have HLT := Lib.hid h.lt
  clear hc hg hnl h
  go_enter Try.func28, Try.ntmps28
  go_wp2_with fail
  refine HC.out.mono ?_
  rintro en w1 ⟨rfl, hR1⟩
  go_wp2_with fail
  have HR := Lib.hid (show RdR w A F l bh (.slice none 0 0) (.int .i64 ((0 : Nat) : Int)) w1 from ⟨0, none, 0, rfl, rfl, Nat.zero_le _, by rw [List.take_zero]; exact OwnR.nil_ _ _ _ _ _, by rw [List.drop_zero]; exact hR1⟩)
  clear hR1 HC
  rw [← HL.out]
  go_loopw [5, 10] (fun s i wr => RdR w A F l bh s i wr) (fun _ i _ => n - (intOf i).toNat)
  case atStart => exact HR.out
  case round =>
    obtain ⟨j, B, c, rfl, rfl, hj, ho, hR⟩ := hrel
    have HO := Lib.hid ho
    have HRR := Lib.hid hR
    clear HR
    rw [← HL.out] at hj
    by_cases hlt : j < n
    · have hjl : j < l.length := by rw [← HL.out]; exact hlt
      have HT := Lib.hid (take_snoc hjl)
      have hdr := Pl.flat_drop hjl
      have hgj := HG.out _ (mem_getD hjl)
      obtain ⟨u, hu⟩ : ∃ u, u = l.getD j default := ⟨_, rfl⟩
      rw [← hu] at HT hdr hgj
      have hRd := hR.1
      simp only [hdr, List.append_assoc] at hRd
      have HRU := Lib.hid (readUnit_any A F u _ wr hgj hRd)
      obtain ⟨s1, hs1⟩ : ∃ s1, s1 = Pl.flat (l.drop (j + 1)) ++ bh := ⟨_, rfl⟩
      rw [← hs1] at HRU
      have HS1 := Lib.hid hs1
      obtain ⟨k, q, ch, x, y⟩ := u
      have z0 : (0 : Int) ≤ (j : Int) := Int.natCast_nonneg j
      have z1 : (j : Int) < (n : Int) := Int.ofNat_lt.2 hlt
      have HMS := Lib.hid (fi_meas hlt)
      clear ho hdr hgj hu hs1
      go_wp2_with fail
      refine HRU.out.mono ?_
      rintro en w2 ⟨rfl, hR2⟩
      simp only [uval]
      have ho2 := RdTo_own HLT.out hRd hR2 HO.out
      have hRt := hR.2.trans hR2.2 (fun _ _ x => x)
      obtain ⟨W1, hW1⟩ : ∃ W1, W1 = w2.alloc (.cells #[.int .i64 k, .int .i64 q, .int .i32 ch, .int .u32 x, .int .u64 y] 36) := ⟨_, rfl⟩
      have hb1 : Below w2.heap.size w2 W1 := by rw [hW1]; exact below_box _ _
      have hR3 : Wi.RdTo w A F (s1, 0) W1 := ⟨hR2.1.below hb1, hRt.trans (Wi.Tn.of (Wi.Pt A) hb1) (fun _ _ x => x)⟩
      have HR3 := Lib.hid hR3
      have HERR := Lib.hid (Wi.err_any A F s1 0 W1 hR3.1)
      have HO1 := Lib.hid (OwnR.then_ ho2 hb1)
      have HU1 := Lib.hid (show UAt W1 w2.heap.size k q ch x y by rw [hW1]; exact uat_new _ _ _ _ _ _)
      have HW1 := Lib.hid hW1
      clear hR hR2 hRd ho2 hRt hb1 hR3 hW1 HRR HO
      go_wp2_with fail
      rw [← HW1.out]
      refine HERR.out.mono ?_
      rintro en w3 ⟨rfl, hw3⟩
      subst hw3
      obtain ⟨c0, c1, c2, c3, c4⟩ := HU1.out.cells
      have hbx := below_box W1 (.cells #[.int .i64 k, .int .i64 q, .int .i32 ch, .int .u32 x, .int .u64 y] 36)
      have HRW := Lib.hid (unit_row W1 k q ch x y)
      have HOW := Lib.hid (OwnR.then_ HO1.out hbx)
      have HR4 := Lib.hid (show Wi.RdTo w A F (s1, 0) (World.alloc W1 (.cells #[.int .i64 k, .int .i64 q, .int .i32 ch, .int .u32 x, .int .u64 y] 36)) from ⟨HR3.out.1.below hbx, HR3.out.2.trans (Wi.Tn.of (Wi.Pt A) hbx) (fun _ _ x => x)⟩)
      have hsz := HR4.out.2.size
      clear hbx HERR
      go_wp2_with (at_builtin; refine wpList_append_rws encU_len encU_one Try.underlying22 infoUn (by decide) (by decide) (World.alloc W1 (.cells #[.int .i64 k, .int .i64 q, .int .i32 ch, .int .u32 x, .int .u64 y] 36)) rfl (.tmp 17) (.tmp 19) rfl w.heap.size B j c (l.take j) (by rfl) HOW.out _ (some ⟨W1.heap.size, 0, none⟩) 1 1 [⟨k, q, ch, x, y⟩] (by rfl) (OwnU.uns HRW.out) (by unfold maxLen; omega) (by omega) hsz ?_)
      intro A3 c3 w3 hO3 hg3 hat3
      have HO3 := Lib.hid (show OwnU w3 w.heap.size (.slice A3 (j + 1) c3) (l.take (j + 1)) by rw [HT.out]; exact hO3)
      have HR5 := Lib.hid (RdTo_grown HLT.out HR4.out (fun g hg => (OwnR.lt HOW.out g hg).1) hg3)
      clear hO3 hg3 hat3
      go_wp2_with fail
      go_roundw
      case rel => exact ⟨j + 1, A3, c3, by go_num, rfl, by rw [← HL.out]; omega, HO3.out, by rw [← HS1.out]; exact HR5.out⟩
      case measure => simp [intOf]; exact HMS.out
    · obtain rfl : j = n := by omega
      have HF1 := Lib.hid (show Wi.RdTo w A F (bh, 0) wr by have h := HRR.out; rw [HL.out, List.drop_length] at h; simpa [Pl.flat] using h)
      have HF2 := Lib.hid (show OwnU wr w.heap.size (.slice B j c) l by have h := HO.out; rw [HL.out, List.take_length, ← HL.out] at h; exact h)
      clear ho hR HO HRR
      go_wp2_with fail
      go_ret
      exact ⟨B, c, by rw [← HL.out]; rfl, by rw [← HL.out]; exact HF2.out, HF1.out⟩
theorem rb_over (n m : Nat) (ab : Int) (r1 : List Nat) (h : Wi.Pl.U n) (hm : m < n) : Wi.Pl.rb (Wi.Pl.enc n ++ r1) 0 m ab = (0, [], ab) := by
  unfold Wi.Pl.rb; rw [rn_enc n r1 h]; simp only; rw [if_pos hm]
set_option maxRecDepth 100000 in
set_option maxHeartbeats 2000000 in
theorem read_long (A : Option Addr) (F : Nat → Prop) (l : List Un) (bh : List Nat) (most : Nat) (w : World) (hn : l.length ≤ 60) (hm : most < l.length) (h : Wi.Rd w A F (Pl.recs l ++ bh) 0) :
    Calls Try.prog 28 #[.pointer A, .int .i64 (most : Int)] w fun en w' => en = .returned (.slice none 0 0) ∧ Wi.RdTo w A F ([], 3) w' := by
  have hc := Wi.count_any A F _ 0 (most : Int) w h (Wi.Pl.I.mk (by omega))
  rw [Int.toNat_natCast, Pl.recs, List.append_assoc, rb_over _ most 3 _ (Wi.Pl.U.mk (by omega)) hm] at hc
  have HC := Lib.hid hc
  clear hc h hm hn
  go_enter Try.func28, Try.ntmps28
  go_wp2_with fail
  refine HC.out.mono ?_
  rintro en w1 ⟨rfl, hR1⟩
  have HR := Lib.hid (show (Value.slice none 0 0 = .slice none 0 0 ∧ Value.int .i64 0 = .int .i64 0 ∧ Wi.RdTo w A F ([], 3) w1) from ⟨rfl, rfl, hR1⟩)
  clear hR1 HC
  go_wp2_with fail
  go_loopw [5, 10] (fun s i wr => s = .slice none 0 0 ∧ i = .int .i64 0 ∧ Wi.RdTo w A F ([], 3) wr) (fun _ _ _ => 0)
  case atStart => exact ⟨rfl, rfl, HR.out.2.2⟩
  case round =>
    obtain ⟨rfl, rfl, hR⟩ := hrel
    have HF := Lib.hid hR
    clear hR HR
    go_wp2_with fail
    go_ret
    exact ⟨rfl, HF.out⟩
end Go.Proofs.Ytaboamkfpolpbaa
