/-
  LeaseKnown's walk: none; limits; a round of leases: it returns true; nothing that was there turns. No conditions.
-/
import Derived.Test.YtjplchajopkpcaaLsX
namespace Go.Proofs.Ytjplchajopkpcaa.leaseKnown
open Go.RowKit

/-- who has set, behind j rounds -/
def knM (j : Nat) : Pl.Mks := (List.range j).map fun t => (((101 - j + t : Nat) : Int), 65)
theorem kn_step : ∀ j : Fin 16, Pl.setL (knM j) ((100 - j.val : Nat) : Int) 1 = (0, knM (j.val + 1)) := by decide
theorem kn_step' {j : Nat} (h : j < 16) : Pl.setL (knM j) ((100 - j : Nat) : Int) 1 = (0, knM (j + 1)) := kn_step ⟨j, h⟩
def knL : Pl.Mks := Pl.putM (knM 16) 100 66
theorem kn_full : Pl.setL (knM 16) 7 2 = (7, knM 16) := by decide
theorem kn_again : Pl.setL (knM 16) 100 2 = (0, knL) := by decide
theorem kn_late : Pl.setL knL 100 1099511627777 = (1, knL) := by decide
theorem kn_len : knL.length = 16 := by decide
theorem kn_new : Pl.newL knL = 0 ∧ (Pl.makeM knL []).2 = knL := by decide
theorem kn_new17 : Pl.newL (knL ++ [(1, 0)]) = 7 := by decide
theorem kn_twice : Pl.newL [(1, 0), (1, 0)] = 1 := by decide
theorem kn_far : Pl.newL [(0, 1099511627841)] = 1 := by decide
theorem kn_drop : Pl.dropL knL 85 = (0, Pl.delM knL 85) := by decide
theorem kn_gone : Pl.dropL (Pl.delM knL 85) 85 = (6, Pl.delM knL 85) := by decide
theorem kn_set : Pl.setL (Pl.delM knL 85) 7 2 = (0, Pl.putM (Pl.delM knL 85) 7 66) := by decide
theorem kn_first : knL.getD 0 default = (85, 65) := by decide
theorem kn_last : knL.getD 15 default = (100, 66) := by decide
theorem kn_bound : ∀ o ∈ knL ++ [(1, 0)], (0 ≤ o.1 ∧ o.1 < 4294967296) ∧ 0 ≤ o.2 := by decide
theorem eql_ln (x v : Int) (w : World) : (binOp .eql 28 (.agg #[.int .u32 x, .int .u64 v]) (.agg #[.int .u32 x, .int .u64 v])).run Try.prog w = .ok (.bool true) w := by
  rw [run_eql_struct, equalIn_ln]; simp
/-- while they are set -/
def KnF (W : World) (p b : Nat) (i : Value) (wr : World) : Prop := ∃ j : Nat, i = .int .u32 (j : Int) ∧ j ≤ 16 ∧ LeasesO wr W.heap.size p b (knM j) ∧ Below W.heap.size W wr
set_option maxRecDepth 100000 in
set_option maxHeartbeats 4000000 in
theorem walk (W : World) : Calls Try.prog 7 #[] W fun e w' => e = .returned (.bool true) ∧ Below W.heap.size W w' := by
  have HN := fun w => Lib.hid (new_none w)
  have HWK := fun w => Lib.hid (wakes_any w)
  go_enter Try.func7, Try.ntmps7
  go_wp2_with fail
  have hz : ∀ w', Below (W.alloc (.cells #[.map none] 63)).heap.size (W.alloc (.cells #[.map none] 63)) w' → NonL w' (.pointer (some ⟨W.heap.size, 0, none⟩)) := fun w' hb => .inr ⟨_, rfl, below_old hb (heap_new rfl) (lt_of_block (heap_new rfl))⟩
  have hb0 := below_alloc (Below.refl W.heap.size W) (.cells #[.map none] 63)
  generalize W.alloc (.cells #[.map none] 63) = W0 at hz hb0 ⊢
  have HZ := Lib.hid hz
  have HB0 := Lib.hid hb0
  clear hz hb0
  refine (set_non (.inl rfl) 1 1).mono ?_
  rintro e w1 ⟨rfl, hw⟩
  rw [hw]
  clear hw w1
  go_wp2_with fail
  refine (drop_non (HZ.out _ (Below.refl _ _)) 1).mono ?_
  rintro e w1 ⟨rfl, hw⟩
  rw [hw]
  clear hw w1
  go_wp2_with fail
  refine (live_non (.inl rfl) 1 0).mono ?_
  rintro e w1 ⟨rfl, hw⟩
  rw [hw]
  clear hw w1
  go_wp2_with fail
  refine (all_non (HZ.out _ (Below.refl _ _))).mono ?_
  rintro e w1 ⟨rfl, hb1⟩
  have HB1 := Lib.hid hb1
  clear hb1
  go_wp2_with fail
  refine (there_non (.inl rfl) 0).mono ?_
  rintro e w2 ⟨rfl, hb2⟩
  have HB2 := Lib.hid (below_then HB1.out hb2)
  clear hb2 HB1
  go_wp2_with fail
  refine (expire_non (HZ.out _ HB2.out) 9).mono ?_
  rintro e w3 ⟨rfl, hb3⟩
  have HB3 := Lib.hid (below_then HB2.out hb3)
  clear hb3 HB2
  go_wp2_with fail
  refine (copy_non (HZ.out _ HB3.out)).mono ?_
  rintro e w4 ⟨rfl, hb4⟩
  have HB4 := Lib.hid (below_then HB0.out (below_then HB3.out hb4))
  clear hb4 HB3 HB0 HZ
  go_wp2_with fail
  refine (HN _).out.mono ?_
  rintro e w5 ⟨p, b, rfl, h5, hb5⟩
  have HX := Lib.hid (show KnF W p b (.int .u32 ((0 : Nat) : Int)) w5 from ⟨0, rfl, Nat.zero_le _, h5.lower HB4.out.size, below_then HB4.out hb5⟩)
  clear h5 hb5 HN HB4
  go_wp2_with fail
  go_loopw [5] (fun i wr => KnF W p b i wr) (fun i _ => 16 - (intOf i).toNat)
  case atStart => exact HX.out
  case round =>
    obtain ⟨j, rfl, hj, hl, hb⟩ := hrel
    by_cases hlt : j < 16
    · have z1 : decide ((j : Int) < 16) = true := decide_eq_true (by omega)
      have z1n : decide (j < 16) = true := decide_eq_true hlt
      have HS := Lib.hid (set_own hl hb (c := ((100 - j : Nat) : Int)) (by omega) (now := 1) (by decide) (kn_step' hlt))
      obtain ⟨cl, hcl⟩ : ∃ z : Int, z = ((100 - j : Nat) : Int) := ⟨_, rfl⟩
      rw [← hcl] at HS
      have hw1 : IntKind.u32.wrap (100 - (j : Int)) = cl := by rw [IntKind.wrap_u32]; omega
      have hw2 : IntKind.u32.wrap ((j : Int) + 1) = ((j + 1 : Nat) : Int) := by rw [IntKind.wrap_u32]; omega
      have HMS := Lib.hid (show 16 - (j + 1) < 16 - j by omega)
      have HLT := Lib.hid hlt
      clear hl hb hcl hlt hj
      go_wp2_with fail
      refine HS.out.mono ?_
      rintro e w6 ⟨rfl, h6, hb6⟩
      have H6 := Lib.hid h6
      have HB6 := Lib.hid hb6
      clear h6 hb6 HS
      go_wp2_with fail
      go_roundw
      case rel => exact ⟨j + 1, by go_num, HLT.out, H6.out, HB6.out⟩
      case measure => simp [intOf]; (have := HMS.out; omega)
    · have z1 : decide ((j : Int) < 16) = false := decide_eq_false (by omega)
      have z1n : decide (j < 16) = false := decide_eq_false hlt
      obtain rfl : j = 16 := by omega
      have HS := Lib.hid (set_own hl hb (c := 7) (by decide) (now := 2) (by decide) kn_full)
      clear hl hb hlt hj
      go_wp2_with fail
      refine HS.out.mono ?_
      rintro e w6 ⟨rfl, h6, hb6⟩
      have HS := Lib.hid (set_own h6 hb6 (c := 100) (by decide) (now := 2) (by decide) kn_again)
      clear h6 hb6
      go_wp2_with fail
      refine HS.out.mono ?_
      rintro e w7 ⟨rfl, h7, hb7⟩
      have HS := Lib.hid (set_own h7 hb7 (c := 100) (by decide) (now := 1099511627777) (by decide) kn_late)
      clear h7 hb7
      go_wp2_with fail
      refine HS.out.mono ?_
      rintro e w8 ⟨rfl, h8, hb8⟩
      have HA := Lib.hid (all_any h8.at_)
      unfold RetLl at HA
      rw [kn_len] at HA
      have H8 := Lib.hid h8
      have HX8 := Lib.hid (And.intro h8.at_.lt h8.at_.own.lt)
      have HB8 := Lib.hid hb8
      clear h8 hb8 HS
      go_wp2_with fail
      refine HA.out.mono ?_
      rintro e w9 ⟨Al, cl, rfl, hr9, ⟨_, ho9⟩, hb9⟩
      have hnw := new_any hr9 (by decide) (fun o ho => kn_bound o (List.mem_append.2 (.inl ho)))
      unfold RetNl at hnw
      have HNW := Lib.hid hnw
      have HO9 := Lib.hid ho9
      have H9 := Lib.hid (H8.out.then_ hb9)
      have HB9 := Lib.hid (below_then HB8.out hb9)
      have HBS := Lib.hid hb9.size
      clear hr9 ho9 hb9 hnw HA H8
      go_wp2_with fail
      refine HNW.out.mono ?_
      rintro e w10 ⟨hn10, _, hb10⟩
      obtain ⟨q, d, rfl, h10⟩ := hn10 kn_new.1
      rw [kn_new.2] at h10
      have HBK := Lib.hid (show ∀ g, Value.ownBlock (.slice Al 16 cl) = some g → g ≠ p ∧ g ≠ b ∧ g ≠ q ∧ g ≠ d ∧ w8.heap.size ≤ g from fun g hg => by
        have h1 := HO9.out.lt g hg
        have h2 := HX8.out.1
        have h3 := HX8.out.2
        have h4 := h10.p_
        have h5 := h10.b_
        omega)
      have HY := Lib.hid (h10.lower HB9.out.size)
      have H10 := Lib.hid (H9.out.then_ hb10)
      have HO10 := Lib.hid (OwnR.then_ HO9.out hb10)
      have HB10 := Lib.hid (below_then HB9.out hb10)
      have HS10 := Lib.hid (Nat.le_trans HBS.out hb10.size)
      have HS8 := Lib.hid HB8.out.size
      clear hn10 hb10 h10 HNW H9 HO9 HB9 HBS HX8 HB8
      have hlit := OwnR.lit (e := 28) encLs_len w10 [(1, 0)] (by simp [maxLen])
      have hab := below_alloc (Below.refl w10.heap.size w10) (.cells #[.int .u32 1, .int .u64 0] 28)
      have HOA := Lib.hid (OwnR.then_ HO10.out hab)
      have HRA := Lib.hid (hlit.rws encLs_len).2
      have HYA := Lib.hid (HY.out.then_ hab)
      have HXA := Lib.hid (H10.out.then_ hab)
      have HBA := Lib.hid (below_then HB10.out hab)
      have hsz : w8.heap.size ≤ (w10.alloc (.cells #[.int .u32 1, .int .u64 0] 28)).heap.size := Nat.le_trans HS10.out hab.size
      clear hlit hab HO10 HY H10 HB10 HS10
      go_wp2_with (at_builtin; refine wpList_append_keeps encLs_len encLs_one Try.underlying24 infoLn (by decide) (by decide) (w10.alloc (.cells #[.int .u32 1, .int .u64 0] 28)) rfl (.tmp 78) (.tmp 80) rfl w8.heap.size Al 16 cl knL (by rfl) HOA.out _ (some ⟨w10.heap.size, 0, none⟩) 1 1 [(1, 0)] (by rfl) HRA.out (by decide) (by unfold maxLen; omega) (by omega) hsz ?_)
      intro A11 c11 w11 h11 hg11 hk11
      have ht := (Tn.refl (fun i => Value.ownBlock (.slice Al 16 cl) = some i) _).grown hg11 (fun k e => .inr e)
      have HXB := Lib.hid (show LeasesO w11 W.heap.size p b knL from ⟨HXA.out.p_, HXA.out.b_, HXA.out.at_.tn ht (fun e => (HBK.out _ e).1 rfl) (fun e => (HBK.out _ e).2.1 rfl)⟩)
      have HYB := Lib.hid (show LeasesO w11 W.heap.size q d knL from ⟨HYA.out.p_, HYA.out.b_, HYA.out.at_.tn ht (fun e => (HBK.out _ e).2.2.1 rfl) (fun e => (HBK.out _ e).2.2.2.1 rfl)⟩)
      have HBB := Lib.hid (ht.below HBA.out HBA.out.size (fun i e => Nat.le_trans HS8.out (HBK.out i e).2.2.2.2))
      have HRB := Lib.hid hk11
      have hnw := new_any (OwnR.rws encLs_len h11).2 (by decide) kn_bound
      have HNW := Lib.hid (show Calls Try.prog 8 #[.slice A11 17 c11] w11 fun e w' => e = .returned (.tuple #[.pointer none, .int .i64 7]) ∧ Below w11.heap.size w11 w' from hnw.mono fun _ _ h => by
        have h2 := h.2.1 (by rw [kn_new17]; decide)
        rw [kn_new17] at h2
        exact ⟨h2, h.2.2⟩)
      clear h11 hg11 hk11 ht hnw hsz HOA HRA HYA HXA HBA HBK HS8
      go_wp2_with fail
      refine HNW.out.mono ?_
      rintro e w12 ⟨rfl, hb12⟩
      have HXC := Lib.hid (HXB.out.then_ hb12)
      have HYC := Lib.hid (HYB.out.then_ hb12)
      have HRC := Lib.hid (Rws.then_ HRB.out hb12)
      have HBC := Lib.hid (below_then HBB.out hb12)
      clear hb12 HNW HXB HYB HRB HBB
      have hab := below_alloc (Below.refl w12.heap.size w12) (.cells #[.int .u32 1, .int .u64 0, .int .u32 1, .int .u64 0] 28)
      have HT := Lib.hid (show Calls Try.prog 8 #[.slice (some ⟨w12.heap.size, 0, none⟩) 2 2] (w12.alloc (.cells #[.int .u32 1, .int .u64 0, .int .u32 1, .int .u64 0] 28)) fun e w' => e = .returned (.tuple #[.pointer none, .int .i64 1]) ∧ Below w12.heap.size w12 w' from
        (new_any ((OwnR.lit (e := 28) encLs_len w12 [(1, 0), (1, 0)] (by simp [maxLen])).rws encLs_len).2 (by decide) (by decide)).mono fun _ _ h => by
          have h2 := h.2.1 (by rw [kn_twice]; decide)
          rw [kn_twice] at h2
          exact ⟨h2, below_then hab h.2.2⟩)
      clear hab
      go_wp2_with fail
      refine HT.out.mono ?_
      rintro e w13 ⟨rfl, hb13⟩
      have HXD := Lib.hid (HXC.out.then_ hb13)
      have HYD := Lib.hid (HYC.out.then_ hb13)
      have HRD := Lib.hid (Rws.then_ HRC.out hb13)
      have HBD := Lib.hid (below_then HBC.out hb13)
      clear hb13 HT HXC HYC HRC HBC
      have hab := below_alloc (Below.refl w13.heap.size w13) (.cells #[.int .u32 0, .int .u64 1099511627841] 28)
      have HT := Lib.hid (show Calls Try.prog 8 #[.slice (some ⟨w13.heap.size, 0, none⟩) 1 1] (w13.alloc (.cells #[.int .u32 0, .int .u64 1099511627841] 28)) fun e w' => e = .returned (.tuple #[.pointer none, .int .i64 1]) ∧ Below w13.heap.size w13 w' from
        (new_any ((OwnR.lit (e := 28) encLs_len w13 [(0, 1099511627841)] (by simp [maxLen])).rws encLs_len).2 (by decide) (by decide)).mono fun _ _ h => by
          have h2 := h.2.1 (by rw [kn_far]; decide)
          rw [kn_far] at h2
          exact ⟨h2, below_then hab h.2.2⟩)
      clear hab
      go_wp2_with fail
      refine HT.out.mono ?_
      rintro e w14 ⟨rfl, hb14⟩
      have HXE := Lib.hid (HXD.out.then_ hb14)
      have HYE := HYD.out.then_ hb14
      have HRE := Lib.hid (Rws.then_ HRD.out hb14)
      have HBE := Lib.hid (below_then HBD.out hb14)
      have hya := all_any HYE.at_
      unfold RetLl at hya
      rw [kn_len] at hya
      have HA := Lib.hid hya
      clear hb14 HT HXD HYD HRD HBD HYE hya
      obtain ⟨g, o, rfl, _, hc⟩ := Rws.at_ encLs_len HRE.out (show 0 < 16 by decide)
      have a0 := hc 0 (by decide) 0 _ (by decide) rfl
      have a1 := hc 15 (by decide) 0 _ (by decide) rfl
      have a2 := hc 15 (by decide) 1 _ (by decide) rfl
      rw [kn_first] at a0
      rw [kn_last] at a1 a2
      simp only [Nat.zero_mul, Nat.add_zero, Nat.reduceMul, Nat.reduceAdd] at a0 a1 a2
      have q1 := eql_ln 100 66
      have q2 := guard_ln
      clear hc
      go_wp2_with fail
      refine HA.out.mono ?_
      rintro e w15 ⟨A15, c15, rfl, _, _, hb15⟩
      have HD := Lib.hid (drop_own (HXE.out.then_ hb15) (below_then HBE.out hb15) (c := 85) (by decide) kn_drop)
      clear hb15 HA HXE HBE HRE q1 q2 a0 a1 a2
      go_wp2_with fail
      refine HD.out.mono ?_
      rintro e w16 ⟨rfl, h16, hb16⟩
      have HD := Lib.hid (drop_own h16 hb16 (c := 85) (by decide) kn_gone)
      clear h16 hb16
      go_wp2_with fail
      refine HD.out.mono ?_
      rintro e w17 ⟨rfl, h17, hb17⟩
      have HS := Lib.hid (set_own h17 hb17 (c := 7) (by decide) (now := 2) (by decide) kn_set)
      clear h17 hb17 HD
      go_wp2_with fail
      refine HS.out.mono ?_
      rintro e w18 ⟨rfl, _, hb18⟩
      have HB18 := Lib.hid hb18
      clear hb18 HS
      go_wp2_with fail
      refine (HWK _).out.mono ?_
      rintro e w19 ⟨rfl, hb19⟩
      have HB19 := Lib.hid (below_then HB18.out hb19)
      clear hb19
      go_wp2_with fail
      go_ret
      exact ⟨rfl, HB19.out⟩
end Go.Proofs.Ytjplchajopkpcaa.leaseKnown
