/-
  Contracts of num.Size, num.Fold and num.Unfold: what each returns for every number, the world left as it was.
-/
import Derived.Test.YtaboamkfpolpbaaProg
import Derived.Test.YtaboamkfpolpbaaNumBits
import Derived.WalkKit
import Derived.WalkSpells
import Derived.WalkLawsBesides
import Derived.IntWalk
import Derived.Lib.Hide
namespace Go.Proofs.Ytaboamkfpolpbaa.Wi
open Go.RowKit

set_option maxRecDepth 100000 in
set_option maxHeartbeats 400000 in
theorem size_any (n : Nat) (w : World) (hn : Pl.U n) :
    Calls Try.prog 74 #[.int .u64 (n : Int)] w fun e w' => e = .returned (.int .i64 ((Pl.sz n : Nat) : Int)) ∧ w = w' := by
  have h10 := Pl.sz_le10 hn.out
  go_enter Try.func74, Try.ntmps74
  go_wp2
  go_loop [0, 3] (fun t i => ∃ m k : Nat, t = .int .u64 (m : Int) ∧ i = .int .i64 (k : Int) ∧ Pl.U m ∧ k + Pl.sz m = 1 + Pl.sz n) (fun t _ => (intOf t).toNat)
  case atStart => exact ⟨n, 1, rfl, rfl, hn, rfl⟩
  case round =>
    obtain ⟨m, k, rfl, rfl, hm, hk⟩ := hrel
    have hk10 : k ≤ 10 := by have := Pl.sz_pos m; omega
    have HK := Lib.hid hk
    clear hk
    by_cases h : m < 128
    · go_wp2
      go_ret
      have e : k = Pl.sz n := by have := HK.out; rw [Pl.sz_lt h] at this; omega
      exact ⟨ret_int (by rw [e]), rfl⟩
    · have h2 := Pl.sz_ge (n := m) (by omega)
      have H2 := Lib.hid h2
      clear h2
      go_wp2
      go_round
      case rel => exact ⟨m / 128, k + 1, by go_num, by go_num, Pl.U.mk (by have := hm.out; omega), by have h3 := HK.out; have h4 := H2.out; omega⟩
      case measure => simp [intOf]; omega

end Go.Proofs.Ytaboamkfpolpbaa.Wi
