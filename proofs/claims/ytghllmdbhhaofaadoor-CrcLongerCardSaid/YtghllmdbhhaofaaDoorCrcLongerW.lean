/-
  The walk of copybooklaw02.CrcLonger: it returns true for any beginning and any two ends; nothing that was there turned. Condition: the table stands in crc.steps.
-/
import Derived.Test.YtghllmdbhhaofaaDoorCrcV
import Derived.RegionTactic
import Derived.ChangeAlike
namespace Go.Proofs.YtghllmdbhhaofaaDoor.crcLonger
open Go.RowKit

theorem slcs2 {w : World} {A A2 : Option Addr} {n c n2 c2 : Nat} {a b : List Nat} (h : Bys w w.heap.size A n c a) (h2 : Bys w w.heap.size A2 n2 c2 b) : Slcs w [.slice A n c, .slice A2 n2 c2] [a, b] :=
  ⟨rfl, fun i hi => by
    match i, hi with
    | 0, _ => exact ⟨A, n, c, rfl, h⟩
    | 1, _ => exact ⟨A2, n2, c2, rfl, h2⟩⟩
theorem str_beq {a b : List Nat} (ha : Pl.Oct a) (hb : Pl.Oct b) : ((strOfNums (ints a)).toList == (strOfNums (ints b)).toList) = decide (a = b) := by
  rw [Bool.eq_iff_iff, beq_iff_eq, decide_eq_true_iff, ByteArray.toList_eq, ByteArray.toList_eq]
  exact ⟨fun e => bytes_inj ha hb (WideShapes.bytes_inj e), fun e => by rw [e]⟩

set_option maxRecDepth 100000 in
set_option maxHeartbeats 4000000 in
theorem walk (w : World) (hT : Tab w) (G : Option Addr) (ng cg : Nat) (xg : List Nat) (hG : Bys w w.heap.size G ng cg xg) (_hrg : ng ≤ 140737488351232) (A : Option Addr) (na ca : Nat) (xa : List Nat) (hA : Bys w w.heap.size A na ca xa) (hra : na ≤ 140737488351232)
    (B : Option Addr) (nb cb : Nat) (xb : List Nat) (hB : Bys w w.heap.size B nb cb xb) (hrb : nb ≤ 140737488351232) :
    Calls Tryd.prog 7 #[.slice G ng cg, .slice A na ca, .slice B nb cb] w fun e w' => e = .returned (.bool true) ∧ Below w.heap.size w w' := by
  obtain ⟨N, hN1, hN2, hN3, hmin⟩ : ∃ N : Nat, N ≤ na ∧ N ≤ nb ∧ N ≤ 4 ∧ ∀ (w' : World) (ts : Array TypeId) (t : TypeId), (Builtin.min_ ts t #[.int .i64 (na : Int), .int .i64 (nb : Int), .int .i64 4]).run Tryd.prog w' = .ok (.int .i64 (N : Int)) w' := by
    refine ⟨min (min na nb) 4, by omega, by omega, by omega, fun w' ts t => ?_⟩
    rw [run_min_int3]
    have e : (if (4 : Int) < (if (nb : Int) < (na : Int) then (nb : Int) else (na : Int)) then (4 : Int) else (if (nb : Int) < (na : Int) then (nb : Int) else (na : Int))) = ((min (min na nb) 4 : Nat) : Int) := by
      split <;> split <;> omega
    rw [e]
  have HG := Lib.hid hG
  have HA := Lib.hid (hA.upto hN1)
  have HB := Lib.hid (hB.upto hN2)
  have hla := hA.le
  have hlb := hB.le
  clear hG hA hB
  obtain ⟨ya, hya⟩ : ∃ y, y = xa.take N := ⟨_, rfl⟩
  obtain ⟨yb, hyb⟩ : ∃ y, y = xb.take N := ⟨_, rfl⟩
  rw [← hya] at HA
  rw [← hyb] at HB
  clear hya hyb
  have HD1 := Lib.hid (Pl.more_inj4 (s := Pl.sum xg) HA.out.oct HB.out.oct (by rw [HA.out.len, HB.out.len]) (by rw [HA.out.len]; exact hN3))
  have HD2 := Lib.hid (Pl.more_inj4 (s := 0) HA.out.oct HB.out.oct (by rw [HA.out.len, HB.out.len]) (by rw [HA.out.len]; exact hN3))
  have hst := str_beq HA.out.oct HB.out.oct
  have hsa := fun (w' : World) (hk : Below w.heap.size w w') => HA.out.str _ rfl w' (kb hk)
  have hsb := fun (w' : World) (hk : Below w.heap.size w w') => HB.out.str _ rfl w' (kb hk)
  obtain ⟨sa, hsa0⟩ : ∃ s, s = strOfNums (ints ya) := ⟨_, rfl⟩
  obtain ⟨sb, hsb0⟩ : ∃ s, s = strOfNums (ints yb) := ⟨_, rfl⟩
  rw [← hsa0] at hst hsa
  rw [← hsb0] at hst hsb
  clear hsa0 hsb0
  have HG1 : ∀ w' : World, Hid (Below w.heap.size w w' → Calls Tryd.prog 17 #[.int .u32 ((Pl.sum xg : Nat) : Int), .slice A N ca] w' fun e w'' => e = .returned (.int .u32 ((Pl.more (Pl.sum xg) ya : Nat) : Int)) ∧ w' = w'') := fun w' => Lib.hid fun hk => more_any _ _ _ _ _ w' (hT.kept hT.pos (kb hk)) (Pl.sum_W _) (HA.out.kept (kb hk))
  have HG2 : ∀ w' : World, Hid (Below w.heap.size w w' → Calls Tryd.prog 17 #[.int .u32 ((Pl.sum xg : Nat) : Int), .slice B N cb] w' fun e w'' => e = .returned (.int .u32 ((Pl.more (Pl.sum xg) yb : Nat) : Int)) ∧ w' = w'') := fun w' => Lib.hid fun hk => more_any _ _ _ _ _ w' (hT.kept hT.pos (kb hk)) (Pl.sum_W _) (HB.out.kept (kb hk))
  have HG3 : ∀ w' : World, Hid (Below w.heap.size w w' → Calls Tryd.prog 13 #[.slice (some ⟨w'.heap.size, 0, none⟩) 2 2] (w'.alloc (.cells #[.slice G ng cg, .slice A N ca] 23)) fun e w'' => e = .returned (.int .u32 ((Pl.more (Pl.sum xg) ya : Nat) : Int)) ∧ Below w'.heap.size w' w'') := by
    intro w'
    refine Lib.hid fun hk => ?_
    have := sum_lit w' [.slice G ng cg, .slice A N ca] [xg, ya] (hT.kept hT.pos (kb hk)) (slcs2 (HG.out.kept (kb hk)) (HA.out.kept (kb hk))) (by show 2 ≤ maxLen; decide)
    rw [List.flatten_cons, List.flatten_cons, List.flatten_nil, List.append_nil, Pl.sum_append _ _ HG.out.oct] at this
    exact this
  have HG4 : ∀ w' : World, Hid (Below w.heap.size w w' → Calls Tryd.prog 13 #[.slice (some ⟨w'.heap.size, 0, none⟩) 2 2] (w'.alloc (.cells #[.slice G ng cg, .slice B N cb] 23)) fun e w'' => e = .returned (.int .u32 ((Pl.more (Pl.sum xg) yb : Nat) : Int)) ∧ Below w'.heap.size w' w'') := by
    intro w'
    refine Lib.hid fun hk => ?_
    have := sum_lit w' [.slice G ng cg, .slice B N cb] [xg, yb] (hT.kept hT.pos (kb hk)) (slcs2 (HG.out.kept (kb hk)) (HB.out.kept (kb hk))) (by show 2 ≤ maxLen; decide)
    rw [List.flatten_cons, List.flatten_cons, List.flatten_nil, List.append_nil, Pl.sum_append _ _ HG.out.oct] at this
    exact this
  have HWK : ∀ w' : World, Hid (Below w.heap.size w w' → Calls Tryd.prog 16 #[] w' fun e w'' => e = .returned (.bool true) ∧ Below w'.heap.size w' w'') := fun w' => Lib.hid fun hk => wakes_any w' (hT.kept hT.pos (kb hk))
  obtain ⟨x, hx⟩ : ∃ x, x = Pl.more (Pl.sum xg) ya := ⟨_, rfl⟩
  obtain ⟨y, hy⟩ : ∃ x, x = Pl.more (Pl.sum xg) yb := ⟨_, rfl⟩
  rw [← hx] at HD1 HG1 HG3
  rw [← hy] at HD1 HG2 HG4
  clear hx hy
  obtain ⟨d, hd⟩ : ∃ d, d = decide (ya = yb) := ⟨_, rfl⟩
  have hxy : ((x : Int) == (y : Int)) = d := by
    rw [hd, Bool.eq_iff_iff, beq_iff_eq, decide_eq_true_iff, ← HD1.out]; omega
  have huv : (((Pl.sum ya : Nat) : Int) == ((Pl.sum yb : Nat) : Int)) = d := by
    rw [hd, Bool.eq_iff_iff, beq_iff_eq, decide_eq_true_iff, ← HD2.out]
    unfold Pl.sum; omega
  rw [← hd] at hst
  clear hd HD1 HD2
  have z1 : (0 : Int) ≤ (N : Int) := by omega
  have z2 : (N : Int) ≤ (ca : Int) := by omega
  have z3 : (N : Int) ≤ (cb : Int) := by omega
  go_enter Tryd.func7, Tryd.ntmps7
  go_wp2_with fail
  clear hmin
  go_region
  go_wp2_with fail
  have hks0 : Below w.heap.size w w.drew := below_drawn (Below.refl _ w)
  refine (sum_one w.drew G ng cg xg (hT.kept hT.pos (kb hks0)) (HG.out.kept (kb hks0))).mono ?_
  rintro e w1 ⟨rfl, hb1⟩
  have hk1 : Below w.heap.size w w1 := below_drew hb1
  go_wp2_with fail
  refine ((HG1 w1).out hk1).mono ?_
  rintro e w1' ⟨rfl, rfl⟩
  go_wp2_with fail
  refine ((HG2 w1).out hk1).mono ?_
  rintro e w1' ⟨rfl, rfl⟩
  go_wp2_with fail
  refine ((HG3 w1).out hk1).mono ?_
  rintro e w2 ⟨rfl, hb2⟩
  have hk2 := below_then hk1 hb2
  go_wp2_with fail
  refine ((HG4 w2).out hk2).mono ?_
  rintro e w3 ⟨rfl, hb3⟩
  have hk3 := below_then hk2 hb3
  clear HG1 HG2 HG3 HG4 hb1 hb2 hb3 hk1 hk2 hks0
  have hks : Below w.heap.size w w3.drew := below_drawn hk3
  go_wp2_with fail
  go_region_held3 (fun w' => Below w.heap.size w w')
    (first | assumption | exact hks | exact below_alloc hks _ | exact below_alloc (by assumption) _ | exact below_then (by assumption) hbW)
    (first | (go_at_call 13; refine (sum_cell _ _ A N ca ya (hT.kept hT.pos (kb (by assumption))) ?_ (HA.out.kept (kb (by assumption)))).mono ?_; (focus (simp [go_sem])); rintro e wS ⟨rfl, rfl⟩) | (go_at_call 13; refine (sum_cell _ _ B N cb yb (hT.kept hT.pos (kb (by assumption))) ?_ (HB.out.kept (kb (by assumption)))).mono ?_; (focus (simp [go_sem])); rintro e wS ⟨rfl, rfl⟩) | (go_at_call 16; refine ((HWK _).out (by assumption)).mono ?_; rintro e wW ⟨rfl, hbW⟩))
  all_goals
    clear HWK hsa hsb hks hk3
    go_wp2_with fail
    go_ret
    exact ⟨rfl, by assumption⟩
end Go.Proofs.YtghllmdbhhaofaaDoor.crcLonger
