/-
  The statements' own same (leases told are the document's) and wakes (the chapter's rows): both return true; nothing that was there turns. Conditions: those that each states.
-/
import Derived.Test.YtjplchajopkpcaaLsV
import Derived.Laws.StructEq
namespace Go.Proofs.Ytjplchajopkpcaa
open Go.RowKit

theorem quiet_of {P : Program} {f : FuncId} {args : Array Value} {w : World} {n : Nat} {v : Value}
    (h : Calls P f args (w.drewN n) fun e w' => e = .returned v ∧ w' = w.drewN n) : Calls P f args (w.drewN n) fun e w'' => e = .returned v ∧ ∃ m, w'' = w.drewN m :=
  h.mono fun _ _ ⟨he, hm⟩ => ⟨he, n, hm⟩
theorem rsame_yes {w : World} {A A' : Option Addr} {n n' c c' : Nat} {xs ys : List Int} (h : Rws encC w w.heap.size A n c xs) (h' : Rws encC w w.heap.size A' n' c' ys) (e : xs = ys) :
    Calls Try.prog 16 #[.slice A n c, .slice A' n' c'] w fun e w' => e = .returned (.bool true) ∧ Below w.heap.size w w' :=
  (rsame_any h h').mono fun _ _ ⟨h1, h2⟩ => ⟨by rw [h1, decide_eq_true e], h2⟩
theorem equalIn_ls (x v x' v' : Int) (w : World) : (Op.equalIn 10000 29 (.agg #[.int .u32 x, .int .u64 v]) (.agg #[.int .u32 x', .int .u64 v'])).run Try.prog w = .ok (decide (x = x' ∧ v = v')) w := by
  have hS : Try.prog.underlying 29 = some (.struct (Try.prog.fieldsOf 29)) := by kernel_rfl
  have hp : Try.prog.stoodInHeld 29 = false := by kernel_rfl
  have u3 := Try.underlying25
  have u4 := Try.underlying26
  rw [show (10000 : Nat) = 9999 + 1 from rfl, run_equalIn_agg w 9999 29 _ _ hS hp]
  simp only [Program.fieldsOf, Try.underlying29]
  go_simp
  by_cases h1 : x = x' <;> by_cases h2 : v = v' <;> simp [h1, h2]
theorem neq_ls (x v : Int) (w : World) : (binOp .neq 29 (.agg #[.int .u32 x, .int .u64 v]) (.agg #[.int .u32 x, .int .u64 v])).run Try.prog w = .ok (.bool false) w := by
  rw [run_neq_struct, equalIn_ls]; simp
theorem guard_ls (op : BinOp) (x y : Operand) (xs ys : Array Value) (w : World) : (eqGuard op 29 x y (.agg xs) (.agg ys)).run Try.prog w = .ok () w := run_eqGuard_agg w op _ x y xs ys (by kernel_rfl)
/-- between one and the next of same -/
def SaI (w : World) (n : Nat) (i : Value) (wr : World) : Prop := ∃ j : Nat, i = .int .i64 (j : Int) ∧ j ≤ n ∧ Below w.heap.size w wr
set_option maxRecDepth 100000 in
set_option maxHeartbeats 1000000 in
theorem same_eq {w : World} {A A' : Option Addr} {n c c' : Nat} {xs : Pl.Mks} (h : Rws encLs w w.heap.size A n c xs) (h' : Rws encLs w w.heap.size A' n c' xs) :
    Calls Try.prog 19 #[.slice A n c, .slice A' n c'] w fun e w' => e = .returned (.bool true) ∧ Below w.heap.size w w' := by
  have HA := Lib.hid h
  have HB := Lib.hid h'
  have hle := h.le
  have hcap := h.cap
  unfold maxLen at hcap
  have z : ((n : Int) != (n : Int)) = false := by simp
  clear h h'
  go_enter Try.func19, Try.ntmps19
  go_wp2_with fail
  go_loopw [5] (fun i wr => SaI w n i wr) (fun i _ => n - (intOf i).toNat)
  case atStart => exact ⟨0, rfl, Nat.zero_le _, Below.refl _ _⟩
  case round =>
    obtain ⟨j, rfl, hj, hb⟩ := hrel
    have HBL := Lib.hid hb
    by_cases hlt : j < n
    · obtain ⟨g, o, rfl, _, hc⟩ := Rws.at_ encLs_len (Rws.then_ HA.out hb) hlt
      obtain ⟨g', o', rfl, _, hc'⟩ := Rws.at_ encLs_len (Rws.then_ HB.out hb) hlt
      have a0 := hc j hlt 0 _ (by decide) rfl
      have a1 := hc j hlt 1 _ (by decide) rfl
      have b0 := hc' j hlt 0 _ (by decide) rfl
      have b1 := hc' j hlt 1 _ (by decide) rfl
      simp only [Nat.add_zero, ← Nat.add_assoc] at a0 a1 b0 b1
      obtain ⟨⟨x, v⟩, hx⟩ : ∃ p, p = xs.getD j default := ⟨_, rfl⟩
      rw [← hx] at a0 a1 b0 b1
      have q1 := neq_ls x v
      have q2 := guard_ls
      have z0 : (0 : Int) ≤ (j : Int) := Int.natCast_nonneg _
      have z1 : (j : Int) < (n : Int) := Int.ofNat_lt.2 hlt
      have HMS := Lib.hid (show n - (j + 1) < n - j by omega)
      clear hc hc' hx hb
      go_wp2_with fail
      go_quiet (fail)
      go_wp2_with fail
      go_roundw
      case rel => exact ⟨j + 1, by go_num, hlt, below_drewN HBL.out _⟩
      case measure => simp [intOf]; (have := HMS.out; omega)
    · clear hb
      go_wp2_with fail
      go_ret
      exact ⟨rfl, HBL.out⟩
set_option maxRecDepth 100000 in
set_option maxHeartbeats 4000000 in
theorem wakes_any (w : World) : Calls Try.prog 10 #[] w fun e w' => e = .returned (.bool true) ∧ Below w.heap.size w w' := by
  have HN := Lib.hid (new_none w)
  go_enter Try.func10, Try.ntmps10
  go_wp2_with fail
  refine HN.out.mono ?_
  rintro e w1 ⟨p, b, rfl, h1, hb1⟩
  have HS := Lib.hid (set_own h1 hb1 (c := 3) (by decide) (now := 10) (by decide) (r := 0) (M' := [(3, 74)]) (by decide))
  clear h1 hb1 HN
  go_wp2_with fail
  refine HS.out.mono ?_
  rintro e w2 ⟨rfl, h2, hb2⟩
  have HL := Lib.hid (live_own h2 (c := 3) (by decide) (now := 73) (by decide) (r := true) (by decide))
  have HL2 := Lib.hid (live_own h2 (c := 3) (by decide) (now := 74) (by decide) (r := false) (by decide))
  have HS := Lib.hid (set_own h2 hb2 (c := 3) (by decide) (now := 5) (by decide) (r := 0) (M' := [(3, 74)]) (by decide))
  clear h2 hb2
  go_wp2_with fail
  refine HL.out.mono ?_
  rintro e w3 ⟨rfl, hw⟩
  rw [hw]
  clear hw w3 HL
  go_wp2_with fail
  refine HL2.out.mono ?_
  rintro e w3 ⟨rfl, hw⟩
  rw [hw]
  clear hw w3 HL2
  go_wp2_with fail
  refine HS.out.mono ?_
  rintro e w3 ⟨rfl, h3, hb3⟩
  have HL := Lib.hid (live_own h3 (c := 3) (by decide) (now := 73) (by decide) (r := true) (by decide))
  have HS := Lib.hid (set_own h3 hb3 (c := 1) (by decide) (now := 20) (by decide) (r := 0) (M' := [(1, 84), (3, 74)]) (by decide))
  clear h3 hb3
  go_wp2_with fail
  refine HL.out.mono ?_
  rintro e w4 ⟨rfl, hw⟩
  rw [hw]
  clear hw w4 HL
  go_wp2_with fail
  refine HS.out.mono ?_
  rintro e w4 ⟨rfl, h4, hb4⟩
  have HT := Lib.hid (there_any h4.at_ 74 (by decide))
  unfold RetC at HT
  rw [show Pl.whichM true 74 [(1, 84), (3, 74)] = [1] from by decide] at HT
  have H4 := Lib.hid h4
  have HB4 := Lib.hid hb4
  clear h4 hb4 HS
  go_wp2_with fail
  refine HT.out.mono ?_
  rintro e w5 ⟨A5, c5, rfl, ho5, hb5⟩
  have hr5 := (OwnR.rws encC_len ho5).2
  have hbx := below_alloc (Below.refl w5.heap.size w5) (.cells #[.int .u32 1] 25)
  have hlit := ((OwnR.lit (e := 25) encC_len w5 [1] (by simp [maxLen])).rws encC_len).2
  have HSM := Lib.hid (rsame_yes (Rws.then_ hr5 hbx) hlit rfl)
  have H5 := Lib.hid ((H4.out.then_ hb5).then_ hbx)
  have HB5 := Lib.hid (below_then (below_then HB4.out hb5) hbx)
  clear ho5 hb5 hr5 hbx hlit HT H4 HB4
  go_wp2_with fail
  refine (show Calls Try.prog 16 _ _ _ from HSM.out).mono ?_
  rintro e w6 ⟨rfl, hb6⟩
  have h6 := H5.out.then_ hb6
  have hE := expire_any h6.at_ 74 (by decide)
  rw [show Pl.whichM false 74 [(1, 84), (3, 74)] = [3] from by decide, show Pl.thereM 74 [(1, 84), (3, 74)] = [(1, 84)] from by decide] at hE
  have HE := Lib.hid hE
  have H6 := Lib.hid h6
  have HB6 := Lib.hid (below_then HB5.out hb6)
  clear hb6 h6 hE HSM H5 HB5
  go_wp2_with fail
  refine HE.out.mono ?_
  rintro e w7 ⟨A7, c7, rfl, ho7, h7, ht7⟩
  have hr7 := (OwnR.rws encC_len ho7).2
  have h7o : LeasesO w7 w.heap.size p b [(1, 84)] := ⟨H6.out.p_, H6.out.b_, h7⟩
  have hb7 := H6.out.below HB6.out ht7
  have hbx := below_alloc (Below.refl w7.heap.size w7) (.cells #[.int .u32 3] 25)
  have hlit := ((OwnR.lit (e := 25) encC_len w7 [3] (by simp [maxLen])).rws encC_len).2
  have HSM := Lib.hid (rsame_yes (Rws.then_ hr7 hbx) hlit rfl)
  have H7 := Lib.hid (h7o.then_ hbx)
  have HB7 := Lib.hid (below_then hb7 hbx)
  clear ho7 h7 ht7 hr7 h7o hb7 hbx hlit HE H6 HB6
  go_wp2_with fail
  refine (show Calls Try.prog 16 _ _ _ from HSM.out).mono ?_
  rintro e w8 ⟨rfl, hb8⟩
  have HA := Lib.hid (all_any (H7.out.then_ hb8).at_)
  have HB8 := Lib.hid (below_then HB7.out hb8)
  clear hb8 HSM H7 HB7
  go_wp2_with fail
  refine HA.out.mono ?_
  rintro e w9 ⟨A9, c9, rfl, hr9, _, hb9⟩
  have hbx := below_alloc (Below.refl w9.heap.size w9) (.cells #[.int .u32 1, .int .u64 84] 29)
  have HSM := Lib.hid (same_eq (Rws.then_ hr9 hbx) (lit_ls w9 1 84))
  have HB9 := Lib.hid (below_then (below_then HB8.out hb9) hbx)
  clear hr9 hb9 hbx HA HB8
  go_wp2_with fail
  refine (show Calls Try.prog 19 _ _ _ from HSM.out).mono ?_
  rintro e w10 ⟨rfl, hb10⟩
  have HB10 := Lib.hid (below_then HB9.out hb10)
  clear hb10 HSM HB9
  go_wp2_with fail
  go_ret
  exact ⟨rfl, HB10.out⟩
end Go.Proofs.Ytjplchajopkpcaa
