/-
  Proved: Rows.NumFoldsSaid: copybooklaw01.NumFolds returns true for every int64 n and every uint64 m, and both read afterwards as before. Conditions: none but the row's own (what can be read as data on linux/amd64).
-/
import Derived.Test.YtolgomnkgmpnmaaRows
import Derived.Test.YtolgomnkgmpnmaaNumE
import Derived.WalkKit
import Derived.ProofKit
import Derived.OpenShut
import Derived.ShutString
namespace Go.Proofs.Ytolgomnkgmpnmaa.numFolds
open Go.ChangeShapes Go.WideShapes Go.ChangeAt Go.RowKit
open Go.ChangeMaps (open_string shut_string)
set_option linter.unusedVariables false      -- a walk need not use every 'w<i>' (that an integer argument fits its kind)

theorem laidOut : laidOutB Try.prog = true := by kernel_rfl
theorem own : ownKnob Try.prog.godebug = none := by kernel_rfl

theorem xor_one (x : Nat) : (2 * x) ^^^ (2 * x + 1) = 1 := by
  apply Nat.eq_of_testBit_eq
  intro i
  cases i with
  | zero =>
    rw [Nat.testBit_xor, Nat.testBit_zero, Nat.testBit_zero, Nat.testBit_zero, show 2 * x % 2 = 0 by omega, show (2 * x + 1) % 2 = 1 by omega]
    decide
  | succ i =>
    rw [Nat.testBit_xor, Nat.testBit_succ, Nat.testBit_succ, show 2 * x / 2 = x by omega, show (2 * x + 1) / 2 = x by omega, Nat.testBit_succ]
    simp
theorem neg_one (a : Int) (h : Pl.I a) : wrap64 (wrap64 (-a) - 1) = -a - 1 := by
  have h := h.out
  unfold wrap64
  omega
/-- side by side -/
theorem folds_xor (a : Int) (h : Pl.I a) : bits BinOp.xor IntKind.u64 ((Pl.fold a : Nat) : Int) ((Pl.fold (-a - 1) : Nat) : Int) = 1 := by
  have h1 := (Pl.fold_U h).out
  have h2 := (Pl.fold_U (n := -a - 1) (Pl.I.mk (by have := h.out; omega))).out
  rw [u64_xor_nat _ _ h1 h2]
  unfold Pl.fold
  by_cases h0 : 0 ≤ a
  · rw [if_pos h0, if_neg (by omega), show (2 * a).toNat = 2 * a.toNat by omega, show (-2 * (-a - 1) - 1).toNat = 2 * a.toNat + 1 by omega, xor_one]; rfl
  · rw [if_neg h0, if_pos (by omega), show (2 * (-a - 1)).toNat = 2 * (-a - 1).toNat by omega, show (-2 * a - 1).toNat = 2 * (-a - 1).toNat + 1 by omega, Nat.xor_comm, xor_one]; rfl
theorem folds_and (a : Int) (h : Pl.I a) : bits BinOp.and IntKind.u64 ((Pl.fold a : Nat) : Int) 1 = if 0 ≤ a then 0 else 1 := by
  rw [u64_and_one _ (Pl.fold_U h)]
  unfold Pl.fold
  split <;> omega

set_option maxRecDepth 100000 in
set_option maxHeartbeats 400000 in
theorem walk (a0 : Int) (m : Nat) (w0 : Pl.I a0) (w1 : Pl.U m) (w : World) :
    Calls Try.prog 7 #[.int .i64 a0, .int .u64 (m : Int)] w fun e w' => e = .returned (.bool true) ∧ Below w.heap.size w w' := by
  have HX := Lib.hid (folds_xor a0 w0)
  have HA := Lib.hid (folds_and a0 w0)
  have J0 : Pl.I (-a0 - 1) := Pl.I.mk (by have := w0.out; omega)
  go_enter Try.func7, Try.ntmps7
  go_wp2_with fail
  refine (fold_any a0 w w0).mono ?_
  rintro e w1 ⟨rfl, rfl⟩
  go_wp2_with fail
  rw [neg_one a0 w0]
  refine (fold_any (-a0 - 1) w J0).mono ?_
  rintro e w1 ⟨rfl, rfl⟩
  go_wp2_with fail
  refine (awake_any w).mono ?_
  rintro e w1 ⟨rfl, hb⟩
  go_wp2_with fail
  refine (unfold_any (Pl.fold a0) w1 (Pl.fold_U w0)).mono ?_
  rintro e w2 ⟨rfl, rfl⟩
  rw [Pl.unfold_fold w0]
  go_wp2_with fail
  refine (unfold_any m w1 (by assumption)).mono ?_
  rintro e w2 ⟨rfl, rfl⟩
  go_wp2_with fail
  refine (fold_any (Pl.unfold m) w1 (Pl.unfold_I (by assumption))).mono ?_
  rintro e w2 ⟨rfl, rfl⟩
  rw [Pl.fold_unfold m]
  have hx := HX.out
  have ha := HA.out
  by_cases h0 : 0 ≤ a0
  · rw [if_pos h0] at ha
    go_wp2_with fail
    go_ret
    exact ⟨rfl, hb⟩
  · rw [if_neg h0] at ha
    go_wp2_with fail
    go_ret
    exact ⟨ret_bool (by simp [h0]), hb⟩

/-! ### THE ROW's STEP: WRITTEN OUT: LEAVE IT -/
set_option maxRecDepth 100000 in
theorem lifted (os : Os) (started : os.Started) (H : Type) (enc : TypeId × Value → H) :
    ReturnsInHanded {} Try.checked os 7 .any (Rows.numFoldsSpec.pre6 enc Try.prog Try.f7 Rows.numFoldsRow.domain false) (Rows.numFoldsSpec.post enc Try.prog Try.f7 false true false false) := by
  refine returnsInHanded_of_change (C := Try.checked) own started (by kernel_rfl) Try.func7
    (ChangeSpec.witness6 (enc := enc) (C := Try.checked) false ⟨#[], #[.int .i64 0, .int .u64 0], []⟩ 8 (by kernel_rfl) (by kernel_rfl) (by kernel_rfl) (by kernel_rfl)) ?_
  intro W base args ds gs before hval0 hW hcnd _
  have hval : ∀ (j : Nat) t v, Try.f7.params[j]? = some t → args[j]? = some v → Value.okWide Try.prog W .any base t v := hval0
  have hW' := hW
  obtain ⟨p, q, hA0, hV, rfl, hfz, hnd⟩ := hW
  have hA : DataW.TrodAll enc Try.prog W 0 (fun _ => true) true Try.f7.params.toList args.toList ds p := hA0
  rw [Try.params7] at hA hval
  obtain ⟨v0, vs0, d0, ds0, p0, q0, hargs, rfl, rfl, h0, r0⟩ := trodAll_cons hA
  obtain ⟨v1, vs1, d1, ds1, p1, q1, rfl, rfl, rfl, h1, r1⟩ := trodAll_cons r0
  obtain ⟨rfl, rfl, rfl⟩ := trodAll_nil r1
  obtain rfl : args = #[v0, v1] := by cases args; simp_all
  obtain ⟨rfl, rfl⟩ := trodVars_none hV
  obtain ⟨a0, rfl, rfl, rfl, w0⟩ := open_int Try.underlying2 (hval 0 2 v0 rfl rfl) h0
  obtain ⟨a1, rfl, rfl, rfl, w1⟩ := open_int Try.underlying23 (hval 1 23 v1 rfl rfl) h1
  have I0 : Pl.I a0 := by have := bounds_i64 w0; exact Pl.I.mk (by omega)
  obtain ⟨m, rfl⟩ : ∃ m : Nat, a1 = (m : Int) := by have := bounds_u64 w1; exact ⟨a1.toNat, by omega⟩
  have U1 : Pl.U m := by have := bounds_u64 w1; exact Pl.U.mk (by omega)
  clear hA0 hval0
  refine (walk a0 m I0 U1 W).mono fun e W' ⟨he, bel⟩ => ?_
  subst he
  exact ⟨_, rfl, _, _, _, [], _, [], hW', trodAll_mk1 (shut_bool Try.underlying4 _), (trodAll_cons_mk (shut_int Try.underlying2 w0) (trodAll_cons_mk (shut_int Try.underlying23 w1) trodAll_mk0)), rfl, bel.frame _, fun h => by cases h⟩

theorem over : Rows.numFoldsRow.holds Try.pinned (OpenSpec.ofChange Rows.numFoldsSpec) :=
  OpenClaim.holds_of_wide 7 Try.f7 rfl rfl rfl rfl rfl rfl rfl ⟨rfl, rfl, rfl, rfl, rfl⟩ rfl rfl rfl rfl rfl (by kernel_rfl) Try.func7 (by kernel_rfl)
    (of_decide_eq_true (by kernel_rfl)) (by unfold Func.isWrapper; first | (rw [if_pos (by decide +kernel)]; kernel_rfl) | (rw [if_neg (by decide +kernel)]; exact ⟨rfl, rfl⟩))
    (fun os started H enc _ => lifted os started H enc)

/-- ████ THE STATEMENT ████ -/
theorem proved : Rows.NumFoldsSaid :=
  over
#print axioms proved
end Go.Proofs.Ytolgomnkgmpnmaa.numFolds
