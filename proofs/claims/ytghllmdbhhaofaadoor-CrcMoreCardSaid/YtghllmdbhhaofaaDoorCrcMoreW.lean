/-
  The walk of copybooklaw02.CrcMore: it returns true for all bytes and every place; nothing that was there turned. Condition: the table stands in crc.steps.
-/
import Derived.Test.YtghllmdbhhaofaaDoorCrcV
namespace Go.Proofs.YtghllmdbhhaofaaDoor.crcMore
open Go.RowKit

theorem slcs3 {w : World} {A A2 : Option Addr} {n c n2 c2 : Nat} {a b : List Nat} (h : Bys w w.heap.size A n c a) (h2 : Bys w w.heap.size A2 n2 c2 b) : Slcs w [.slice A n c, .slice none 0 0, .slice A2 n2 c2] [a, [], b] :=
  ⟨rfl, fun i hi => by
    match i, hi with
    | 0, _ => exact ⟨A, n, c, rfl, h⟩
    | 1, _ => exact ⟨none, 0, 0, rfl, Bys.none_ _ _⟩
    | 2, _ => exact ⟨A2, n2, c2, rfl, h2⟩⟩

set_option maxRecDepth 100000 in
set_option maxHeartbeats 4000000 in
theorem walk (w : World) (hT : Tab w) (A : Option Addr) (n c : Nat) (bs : List Nat) (hA : Bys w w.heap.size A n c bs) (hr : n ≤ 140737488351232) (m : Nat) (hm : m < 65536) :
    Calls Tryd.prog 4 #[.slice A n c, .int .u16 (m : Int)] w fun e w' => e = .returned (.bool true) ∧ Below w.heap.size w w' := by
  have HA := Lib.hid hA
  have hle := hA.le
  have hcap := hA.cap
  unfold maxLen at hcap
  clear hA
  obtain ⟨k, hk0⟩ : ∃ k, k = m % (n + 1) := ⟨_, rfl⟩
  have hkn : k ≤ n := by have := Nat.mod_lt m (show n + 1 > 0 by omega); omega
  have e1 : (m : Int) % ((n : Int) + 1) = (k : Int) := by rw [hk0]; simp
  have e2 : (m : Int).tmod ((n : Int) + 1) = (k : Int) := by rw [Int.tmod_eq_emod_of_nonneg (by omega)]; exact e1
  clear hk0
  obtain ⟨A2, hB2, hcut⟩ := HA.out.cut hkn
  have HB1 := Lib.hid (HA.out.upto hkn)
  have HB2 := Lib.hid hB2
  clear hB2
  have HO := Lib.hid (Pl.oct_take HA.out.oct k)
  have HJ := Lib.hid (List.take_append_drop k bs)
  have HS := Lib.hid (rsum_any A n c bs w HA.out)
  have hsW := Pl.sum_W bs
  have hks : Kept w.heap.size w w.drew := Kept.start (Nat.le_refl _)
  have HC := Lib.hid (sum_one w.drew A k c (bs.take k) (hT.kept hT.pos hks) (HB1.out.kept hks))
  have HM1 : ∀ w' : World, Hid (Kept w.heap.size w w' → Calls Tryd.prog 17 #[.int .u32 ((Pl.sum (bs.take k) : Nat) : Int), .slice A2 (n - k) (c - k)] w' fun e w'' => e = .returned (.int .u32 ((Pl.sum bs : Nat) : Int)) ∧ w' = w'') := by
    intro w'
    refine Lib.hid fun hk => ?_
    have := more_any _ _ _ (Pl.sum (bs.take k)) _ w' (hT.kept hT.pos hk) (Pl.sum_W _) (HB2.out.kept hk)
    rw [← Pl.sum_append _ _ HO.out, HJ.out] at this
    exact this
  have HM2 : ∀ w' : World, Hid (Kept w.heap.size w w' → Calls Tryd.prog 17 #[.int .u32 ((Pl.sum bs : Nat) : Int), .slice none 0 0] w' fun e w'' => e = .returned (.int .u32 ((Pl.sum bs : Nat) : Int)) ∧ w' = w'') := by
    intro w'
    refine Lib.hid fun hk => ?_
    have := more_any none 0 0 (Pl.sum bs) [] w' (hT.kept hT.pos hk) (Pl.sum_W _) (Bys.none_ _ _)
    rw [Pl.more_nil (Pl.sum_W _)] at this
    exact this
  have HC3 : ∀ w' : World, Hid (Kept w.heap.size w w' → Calls Tryd.prog 13 #[.slice (some ⟨w'.heap.size, 0, none⟩) 3 3] (w'.alloc (.cells #[.slice A k c, .slice none 0 0, .slice A2 (n - k) (c - k)] 23)) fun e w'' => e = .returned (.int .u32 ((Pl.sum bs : Nat) : Int)) ∧ Below w'.heap.size w' w'') := by
    intro w'
    refine Lib.hid fun hk => ?_
    have := sum_lit w' [.slice A k c, .slice none 0 0, .slice A2 (n - k) (c - k)] [bs.take k, [], bs.drop k] (hT.kept hT.pos hk) (slcs3 (HB1.out.kept hk) (HB2.out.kept hk)) (by show 3 ≤ maxLen; decide)
    have e : [bs.take k, [], bs.drop k].flatten = bs := by simp
    rw [e] at this
    exact this
  have HWK : ∀ w' : World, Hid (Kept w.heap.size w w' → Calls Tryd.prog 16 #[] w' fun e w'' => e = .returned (.bool true) ∧ Below w'.heap.size w' w'') := fun w' => Lib.hid fun hk => wakes_any w' (hT.kept hT.pos hk)
  obtain ⟨s, hs⟩ : ∃ s, s = Pl.sum bs := ⟨_, rfl⟩
  rw [← hs] at HS hsW HM1 HM2 HC3
  clear hs
  obtain ⟨s1, hs1⟩ : ∃ s, s = Pl.sum (bs.take k) := ⟨_, rfl⟩
  rw [← hs1] at HC HM1
  clear hs1
  have z1 : (0 : Int) ≤ (k : Int) := by omega
  have z2 : (k : Int) ≤ (n : Int) := by omega
  have z3 : (k : Int) ≤ (c : Int) := by omega
  go_enter Tryd.func4, Tryd.ntmps4
  go_wp2_with fail
  refine HS.out.mono ?_
  rintro e w0 ⟨rfl, rfl⟩
  go_wp2_with fail
  clear e1 e2
  go_region_held3 (fun w' => Kept w.heap.size w w')
    (first | exact hks | exact hks.alloc _ | exact Kept.alloc (by assumption) _ | exact (hks.below hbS (Nat.le_refl _)) | exact ((hks.below hbS (Nat.le_refl _)).below hbU hbS.size) | exact (((hks.below hbS (Nat.le_refl _)).below hbU hbS.size).below hbW (Nat.le_trans hbS.size hbU.size)))
    (first | (go_at_call_of 13 (Value.slice (some ⟨w.heap.size, 0, none⟩) 1 1); refine HC.out.mono ?_; rintro e wS ⟨rfl, hbS⟩) | (go_at_call_of 13 (Value.slice (some ⟨wS.heap.size, 0, none⟩) 3 3); refine ((HC3 wS).out (hks.below hbS (Nat.le_refl _))).mono ?_; rintro e wU ⟨rfl, hbU⟩) | (go_at_call_of 17 (Value.int .u32 (s1 : Int)); refine ((HM1 _).out (by assumption)).mono ?_; rintro e wM ⟨rfl, rfl⟩) | (go_at_call_of 17 (Value.int .u32 (s : Int)); refine ((HM2 _).out (by assumption)).mono ?_; rintro e wM ⟨rfl, rfl⟩) | (go_at_call 16; refine ((HWK _).out (by assumption)).mono ?_; rintro e wW ⟨rfl, hbW⟩))
  all_goals
    clear HC HM1 HM2 HC3 HWK hcut
    go_wp2_with fail
    go_ret
    have hbS' : Below w.heap.size w wS := below_drew hbS
    exact ⟨rfl, (hbS'.trans (hbU.mono hbS'.size)).trans (hbW.mono (Nat.le_trans hbS'.size hbU.size))⟩
end Go.Proofs.YtghllmdbhhaofaaDoor.crcMore
