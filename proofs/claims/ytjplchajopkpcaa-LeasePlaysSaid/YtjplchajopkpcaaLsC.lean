/-
  Leases.Copy; Set, Drop, Copy of none. Conditions: none but the leases'.
-/
import Derived.Test.YtjplchajopkpcaaLsB
import Derived.Test.YtjplchajopkpcaaShelf
namespace Go.Proofs.Ytjplchajopkpcaa
open Go.RowKit

theorem cloneL {w : World} {b : Nat} {M : Pl.Mks} (h : w.ownsMap Try.prog 25 (plainElem (H := Unit) Try.prog 26) b M.length (datL M)) :
    Calls Try.prog 29 #[.map (some b)] w fun e w' => e = .returned (.map (some w.heap.size)) ∧ w'.ownsMap Try.prog 25 (plainElem (H := Unit) Try.prog 26) w.heap.size M.length (datL M) ∧ Below w.heap.size w w' :=
  (AnyW.maps_Clone_owns Try.laysClone 25 _ b _ _ w h).mono fun _ _ ⟨h1, h2, _, h4⟩ => ⟨h1, h2, h4⟩
set_option maxRecDepth 100000 in
set_option maxHeartbeats 400000 in
theorem copy_any {w : World} {p b : Nat} {M : Pl.Mks} (h : LeasesW w p b M) : Calls Try.prog 18 #[.pointer (some ⟨p, 0, none⟩)] w fun e w' => ∃ q b', e = .returned (.pointer (some ⟨q, 0, none⟩)) ∧ w.heap.size ≤ q ∧ w.heap.size ≤ b' ∧ LeasesW w' q b' M ∧ Below w.heap.size w w' := by
  have HN := Lib.hid (none_leases h)
  have HC := Lib.hid (cloneL h.own)
  have HK := Lib.hid (And.intro h.ok h.few)
  have c0 := h.cell
  clear h
  go_enter Try.func18, Try.ntmps18
  go_wp2_with fail
  refine HN.out.mono ?_
  rintro e w' ⟨rfl, hw⟩
  rw [hw]
  clear hw w'
  go_wp2_with fail
  refine HC.out.mono ?_
  rintro e w1 ⟨rfl, ho, hb⟩
  have HO := Lib.hid ho
  have HB := Lib.hid hb
  clear ho hb HC c0
  go_wp2_with fail
  go_ret
  exact ⟨_, _, rfl, HB.out.size, Nat.le_refl _, ⟨heap_new rfl, HO.out.alloc _, HK.out.1, HK.out.2⟩, below_alloc HB.out _⟩
set_option maxRecDepth 100000 in
set_option maxHeartbeats 400000 in
theorem set_non {w : World} {v : Value} (h : NonL w v) (c now : Int) :
    Calls Try.prog 11 #[v, .int .u32 c, .int .u64 now] w fun e w' => e = .returned (.int .i64 2) ∧ w' = w := by
  have HN := Lib.hid (none_nonL h)
  clear h
  go_enter Try.func11, Try.ntmps11
  go_wp2_with fail
  refine HN.out.mono ?_
  rintro e w' ⟨rfl, hw⟩
  rw [hw]
  clear hw w'
  go_wp2_with fail
  go_ret
  exact ⟨rfl, rfl⟩
set_option maxRecDepth 100000 in
set_option maxHeartbeats 400000 in
theorem drop_non {w : World} {v : Value} (h : NonL w v) (c : Int) :
    Calls Try.prog 13 #[v, .int .u32 c] w fun e w' => e = .returned (.int .i64 2) ∧ w' = w := by
  have HN := Lib.hid (none_nonL h)
  clear h
  go_enter Try.func13, Try.ntmps13
  go_wp2_with fail
  refine HN.out.mono ?_
  rintro e w' ⟨rfl, hw⟩
  rw [hw]
  clear hw w'
  go_wp2_with fail
  go_ret
  exact ⟨rfl, rfl⟩
set_option maxRecDepth 100000 in
set_option maxHeartbeats 400000 in
theorem copy_non0 {w : World} {v : Value} (h : NonL w v) :
    Calls Try.prog 18 #[v] w fun e w' => e = .returned (.pointer none) ∧ w' = w := by
  have HN := Lib.hid (none_nonL h)
  clear h
  go_enter Try.func18, Try.ntmps18
  go_wp2_with fail
  refine HN.out.mono ?_
  rintro e w' ⟨rfl, hw⟩
  rw [hw]
  clear hw w'
  go_wp2_with fail
  go_ret
  exact ⟨rfl, rfl⟩
end Go.Proofs.Ytjplchajopkpcaa
