/-
  Contracts of utf.May, utf.Size, copybookref04.May, one, Size: what each returns for every code point. No conditions.
-/
import Derived.Test.YtillndchojaniaaDoorUtfMem
import Derived.WalkSpells
import Derived.WalkLawsBesides
namespace Go.Proofs.YtillndchojaniaaDoor
open Go.RowKit

theorem ret_bool {a b : Bool} (h : a = b) : Ending.returned (.bool a) = .returned (.bool b) := by rw [h]
theorem ret_int {k : IntKind} {a b : Int} (h : a = b) : Ending.returned (.int k a) = .returned (.int k b) := by rw [h]

set_option maxRecDepth 100000 in
set_option maxHeartbeats 400000 in
theorem may_any (c : Int) (w : World) (hc : Pl.J c) :
    Calls Tryd.prog 16 #[.int .i32 c] w fun e w' => e = .returned (.bool (decide (Pl.May c))) ∧ w = w' := by
  have h := hc.out
  clear hc
  go_enter Tryd.func16, Tryd.ntmps16
  go_wp2
  all_goals
    go_ret
    refine ⟨ret_bool ?_, rfl⟩
    rw [Pl.may_bool]
    first | (simp; done) | (rw [Bool.eq_iff_iff]; simp only [decide_eq_true_iff, Bool.or_eq_true, Bool.and_eq_true, Bool.false_eq_true, true_iff, false_iff]; omega)
set_option maxRecDepth 100000 in
set_option maxHeartbeats 400000 in
theorem rmay_any (c : Int) (w : World) (hc : Pl.J c) :
    Calls Tryd.prog 17 #[.int .i32 c] w fun e w' => e = .returned (.bool (decide (Pl.May c))) ∧ w = w' := by
  have h := hc.out
  clear hc
  go_enter Tryd.func17, Tryd.ntmps17
  go_wp2
  all_goals
    go_ret
    refine ⟨ret_bool ?_, rfl⟩
    rw [Pl.may_bool]
    first | (simp; done) | (rw [Bool.eq_iff_iff]; simp only [decide_eq_true_iff, Bool.or_eq_true, Bool.and_eq_true, Bool.false_eq_true, true_iff, false_iff]; omega)
set_option maxRecDepth 100000 in
set_option maxHeartbeats 400000 in
theorem size_any (c : Int) (w : World) (hc : Pl.J c) :
    Calls Tryd.prog 18 #[.int .i32 c] w fun e w' => e = .returned (.int .i64 ((Pl.size c : Nat) : Int)) ∧ w = w' := by
  have HM := Lib.hid (may_any c w hc)
  have h := hc.out
  clear hc
  by_cases hm : Pl.May c
  · have HS := Lib.hid (Pl.size_cases hm)
    rw [decide_eq_true hm] at HM
    have hle := hm.le
    clear hm
    obtain ⟨s, hs⟩ : ∃ s, s = Pl.size c := ⟨_, rfl⟩
    rw [← hs] at HS ⊢
    clear hs
    go_enter Tryd.func18, Tryd.ntmps18
    go_wp2_with fail
    refine HM.out.mono ?_
    rintro e w' ⟨rfl, rfl⟩
    go_wp2_with fail
    all_goals
      go_ret
      refine ⟨ret_int ?_, rfl⟩
      have := HS.out
      omega
  · rw [decide_eq_false hm] at HM
    rw [Pl.size_not hm]
    clear hm
    go_enter Tryd.func18, Tryd.ntmps18
    go_wp2_with fail
    refine HM.out.mono ?_
    rintro e w' ⟨rfl, rfl⟩
    go_wp2_with fail
    go_ret
    exact ⟨rfl, rfl⟩
end Go.Proofs.YtillndchojaniaaDoor
