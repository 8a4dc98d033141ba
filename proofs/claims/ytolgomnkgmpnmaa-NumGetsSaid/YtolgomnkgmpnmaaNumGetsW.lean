/-
  The walk of copybooklaw01.NumGets: it returns true for every slice of bytes, and turns nothing that was there. No conditions.
-/
import Derived.Test.YtolgomnkgmpnmaaNumE
import Derived.Test.YtolgomnkgmpnmaaNumR
namespace Go.Proofs.Ytolgomnkgmpnmaa.numGets
open Go.RowKit

set_option maxRecDepth 100000 in
set_option maxHeartbeats 1000000 in
theorem walk_err (A : Option Addr) (n c : Nat) (bs : List Nat) (w : World) (h1 : Bys w w.heap.size A n c bs) (e x4 e4 x8 e8 : Nat) (hg : Pl.get bs = (0, 0, e)) (he : e ≠ 0) (hx4 : x4 < 4294967296) (h4 : Pl.fix 4 bs = (x4, e4)) (h8 : Pl.fix 8 bs = (x8, e8)) :
    Calls Try.prog 4 #[.slice A n c] w fun e w' => e = .returned (.bool true) ∧ Below w.heap.size w w' := by
  have HG := Lib.hid (get_at A n c bs w h1 _ _ _ hg)
  have HR := Lib.hid (refGet_at A n c bs w h1 _ _ _ hg)
  have HI := Lib.hid (getInt_at A n c bs w h1 _ _ _ hg)
  have u0 : Pl.unfold 0 = 0 := by decide
  rw [u0] at HI
  have H4 := Lib.hid (get4_at A n c bs w h1 _ _ h4)
  have R4 := Lib.hid (refFixed_any A n c 4 bs w h1 (by omega) _ _ h4)
  have H8 := Lib.hid (get8_at A n c bs w h1 _ _ h8)
  have R8 := Lib.hid (refFixed_any A n c 8 bs w h1 (by omega) _ _ h8)
  have be : ((e : Int) != 0) = true := by rw [bne_iff_ne]; omega
  clear hg h4 h8 h1 u0 he
  go_enter Try.func4, Try.ntmps4
  go_wp2_with fail
  refine HG.out.mono ?_
  rintro e w' ⟨rfl, rfl⟩
  go_wp2_with fail
  refine HR.out.mono ?_
  rintro e w' ⟨rfl, rfl⟩
  go_wp2_with fail
  refine HI.out.mono ?_
  rintro e w' ⟨rfl, rfl⟩
  go_wp2_with fail
  refine H4.out.mono ?_
  rintro e w' ⟨rfl, rfl⟩
  go_wp2_with fail
  refine R4.out.mono ?_
  rintro e w' ⟨rfl, rfl⟩
  go_wp2_with fail
  refine H8.out.mono ?_
  rintro e w' ⟨rfl, rfl⟩
  go_wp2_with fail
  refine R8.out.mono ?_
  rintro e w' ⟨rfl, rfl⟩
  go_wp2_with fail
  refine (awake_any w).mono ?_
  rintro e w1 ⟨rfl, hb⟩
  go_wp2_with fail
  go_ret
  exact ⟨rfl, hb⟩

set_option maxRecDepth 100000 in
set_option maxHeartbeats 1000000 in
theorem walk_ok (A : Option Addr) (n c : Nat) (bs : List Nat) (w : World) (h1 : Bys w w.heap.size A n c bs) (x k x4 e4 x8 e8 : Nat) (hg : Pl.get bs = (x, k, 0)) (hx : Pl.U x) (hx4 : x4 < 4294967296) (h4 : Pl.fix 4 bs = (x4, e4)) (h8 : Pl.fix 8 bs = (x8, e8)) :
    Calls Try.prog 4 #[.slice A n c] w fun e w' => e = .returned (.bool true) ∧ Below w.heap.size w w' := by
  have HG := Lib.hid (get_at A n c bs w h1 _ _ _ hg)
  have HR := Lib.hid (refGet_at A n c bs w h1 _ _ _ hg)
  have HI := Lib.hid (getInt_at A n c bs w h1 _ _ _ hg)
  have H4 := Lib.hid (get4_at A n c bs w h1 _ _ h4)
  have R4 := Lib.hid (refFixed_any A n c 4 bs w h1 (by omega) _ _ h4)
  have H8 := Lib.hid (get8_at A n c bs w h1 _ _ h8)
  have R8 := Lib.hid (refFixed_any A n c 8 bs w h1 (by omega) _ _ h8)
  have HU := Lib.hid (refUnfold_any x w hx)
  clear hg h4 h8 h1
  go_enter Try.func4, Try.ntmps4
  go_wp2_with fail
  refine HG.out.mono ?_
  rintro e w' ⟨rfl, rfl⟩
  go_wp2_with fail
  refine HR.out.mono ?_
  rintro e w' ⟨rfl, rfl⟩
  go_wp2_with fail
  refine HI.out.mono ?_
  rintro e w' ⟨rfl, rfl⟩
  go_wp2_with fail
  refine H4.out.mono ?_
  rintro e w' ⟨rfl, rfl⟩
  go_wp2_with fail
  refine R4.out.mono ?_
  rintro e w' ⟨rfl, rfl⟩
  go_wp2_with fail
  refine H8.out.mono ?_
  rintro e w' ⟨rfl, rfl⟩
  go_wp2_with fail
  refine R8.out.mono ?_
  rintro e w' ⟨rfl, rfl⟩
  go_wp2_with fail
  refine HU.out.mono ?_
  rintro e w' ⟨rfl, rfl⟩
  go_wp2_with fail
  refine (awake_any w).mono ?_
  rintro e w1 ⟨rfl, hb⟩
  go_wp2_with fail
  go_ret
  exact ⟨rfl, hb⟩
theorem walk (w : World) (A : Option Addr) (n c : Nat) (bs : List Nat) (h1 : Bys w w.heap.size A n c bs) (_hr : n ≤ 140737488351232) :
    Calls Try.prog 4 #[.slice A n c] w fun e w' => e = .returned (.bool true) ∧ Below w.heap.size w w' := by
  obtain ⟨x4, e4, h4⟩ : ∃ a b, Pl.fix 4 bs = (a, b) := ⟨_, _, rfl⟩
  obtain ⟨x8, e8, h8⟩ : ∃ a b, Pl.fix 8 bs = (a, b) := ⟨_, _, rfl⟩
  have hx4 : x4 < 4294967296 := by
    have := Pl.fix_lt 4 bs h1.oct
    rw [h4] at this
    exact this
  obtain ⟨x, k, e, hg⟩ : ∃ a b c, Pl.get bs = (a, b, c) := ⟨_, _, _, rfl⟩
  by_cases he : e = 0
  · subst he
    have hx : Pl.U x := by
      have := Pl.get_lt bs
      rw [hg] at this
      exact Pl.U.mk this
    exact walk_ok A n c bs _ h1 x k x4 e4 x8 e8 hg hx hx4 h4 h8
  · have hz := Pl.get_err (bs := bs) (by rw [hg]; exact he)
    rw [hg] at hz
    simp only [Prod.mk.injEq, and_true] at hz
    obtain ⟨rfl, rfl⟩ := hz
    exact walk_err A n c bs _ h1 e x4 e4 x8 e8 hg he hx4 h4 h8
end Go.Proofs.Ytolgomnkgmpnmaa.numGets
