/-
  Contracts of num.Put and PutInt: what each returns for every input that fits into memory; new memory, nothing that was there turned.
-/
import Derived.Test.YtaboamkfpolpbaaWNumB
namespace Go.Proofs.Ytaboamkfpolpbaa.Wi
open Go.RowKit

set_option maxRecDepth 100000 in
set_option maxHeartbeats 400000 in
theorem put_any (A : Option Addr) (k c n : Nat) (bs : List Nat) (w : World) (h1 : Bys w w.heap.size A k c bs) (hr : k ≤ 140737488351232) (hn : Pl.U n) :
    Calls Try.prog 56 #[.slice A k c, .int .u64 (n : Int)] w (RetRow w (bs ++ Pl.enc n)) := by
  have h10 := Pl.sz_le10 hn.out
  rw [← Pl.len_enc] at h10
  have HB := Lib.hid (bytesOf_any n w hn)
  go_enter Try.func56, Try.ntmps56
  go_wp2_with fail
  refine HB.out.mono ?_
  rintro e w1 ⟨g, cap, rfl, hO, hB⟩
  have HC := Lib.hid (behind_any A (some ⟨g, 0, none⟩) k c (Pl.enc n).length cap bs (Pl.enc n) w1 ((h1.below hB (Nat.le_refl _)).more hB.size) hO.bys (by omega))
  go_wp2_with fail
  refine HC.out.mono ?_
  rintro e w2 ⟨g2, cap2, rfl, hO2, hB2⟩
  go_wp2_with fail
  go_ret
  exact ⟨g2, cap2, by rw [List.length_append]; rfl, hO2.lower hB.size, hB.trans (hB2.mono hB.size)⟩

end Go.Proofs.Ytaboamkfpolpbaa.Wi
