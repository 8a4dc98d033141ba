/-
  Contracts of num.Put and PutInt: what each returns for every input that fits into memory; new memory, nothing that was there turned.
-/
import Derived.Test.YtpakbpkcacdpbaaWNumB
namespace Go.Proofs.Ytpakbpkcacdpbaa
open Go.RowKit

set_option maxRecDepth 100000 in
set_option maxHeartbeats 400000 in
theorem put_any (A : Option Addr) (k c n : Nat) (bs : List Nat) (w : World) (h1 : Bys w w.heap.size A k c bs) (hr : k ≤ 140737488351232) (hn : Pl.U n) :
    Calls Try.prog 47 #[.slice A k c, .int .u64 (n : Int)] w (RetRow w (bs ++ Pl.enc n)) := by
  have h10 := Pl.sz_le10 hn.out
  rw [← Pl.len_enc] at h10
  have HB := Lib.hid (bytesOf_any n w hn)
  go_enter Try.func47, Try.ntmps47
  go_wp2_with fail
  refine HB.out.mono ?_
  rintro e w1 ⟨g, cap, rfl, hO, hB⟩
  have HC := Lib.hid (behind_any A (some ⟨g, 0, none⟩) k c (Pl.enc n).length cap bs (Pl.enc n) w1 ((h1.below hB (Nat.le_refl _)).more hB.size) hO.bys (by omega))
  go_wp2_with fail
  refine HC.out.mono ?_
  rintro e w2 ⟨g2, cap2, rfl, hO2, hB2⟩
  go_wp2_with fail
  go_ret
  exact ⟨g2, cap2, by rw [List.length_append]; rfl, hO2.lower hB.size, hB.trans (hB2.mono hB.size)⟩

set_option maxRecDepth 100000 in
set_option maxHeartbeats 400000 in
theorem putInt_any (A : Option Addr) (k c : Nat) (n : Int) (bs : List Nat) (w : World) (h1 : Bys w w.heap.size A k c bs) (hr : k ≤ 140737488351232) (hn : Pl.I n) :
    Calls Try.prog 48 #[.slice A k c, .int .i64 n] w (RetRow w (bs ++ Pl.enc (Pl.fold n))) := by
  have HB := Lib.hid (fold_any n w hn)
  have HC := Lib.hid (put_any A k c (Pl.fold n) bs w h1 hr (Pl.fold_U hn))
  go_enter Try.func48, Try.ntmps48
  go_wp2_with fail
  refine HB.out.mono ?_
  rintro e w1 ⟨rfl, rfl⟩
  go_wp2_with fail
  refine HC.out.mono ?_
  rintro e w2 ⟨g2, cap2, rfl, hO2, hB2⟩
  go_wp2_with fail
  go_ret
  exact ⟨g2, cap2, by rw [List.length_append]; rfl, hO2, hB2⟩

end Go.Proofs.Ytpakbpkcacdpbaa
