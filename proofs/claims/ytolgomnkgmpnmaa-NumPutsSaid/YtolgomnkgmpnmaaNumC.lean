/-
  Contracts of num.fixed, Put, PutInt, Put4 and Put8: what each returns for every input that fits into memory; new memory, nothing that was there turned.
-/
import Derived.Test.YtolgomnkgmpnmaaNumB
namespace Go.Proofs.Ytolgomnkgmpnmaa
open Go.RowKit

theorem byte_cast (n j : Nat) : ((n / 256 ^ j % 256 : Nat) : Int) = (n : Int) / 2 ^ (8 * j) % 256 := by
  rw [pow256]; simp only [Int.natCast_emod, Int.natCast_ediv, Int.natCast_pow]; rfl

/-- fixed's loop at its round j: the first j bytes are laid -/
def FRel (w : World) (n g k : Nat) (i : Value) (wr : World) : Prop :=
  ∃ j : Nat, i = .int .i64 (j : Int) ∧ j ≤ k ∧
    Own wr w.heap.size g k ((Pl.lay k n).take j ++ List.replicate (k - j) 0) ∧ Below w.heap.size w wr

set_option maxRecDepth 100000 in
set_option maxHeartbeats 400000 in
theorem fixed_any (n k : Nat) (w : World) (hk : k ≤ 8) : Calls Try.prog 34 #[.int .u64 (n : Int), .int .i64 (k : Int)] w (RetRow w (Pl.lay k n)) := by
  obtain ⟨i0, hi, hz0, hz1, hz2⟩ := info_parts infoByte
  have HI := Lib.hid (show i0.bytes * k ≤ 281474976710656 by rw [hz2]; omega)
  clear hz2
  go_enter Try.func34, Try.ntmps34
  go_wp2_with (at_make; refine wpList_make_full _ rfl (.tmp 7) (.tmp 7) 22 rfl w.heap.size 5 i0 (.int .u8 0) 1 Try.underlying22 hi hz0 hz1 .i64 .i64 _ _ k rfl rfl rfl rfl ?c2 ?c3 ?c4 ?_)
  case c2 => exact HI.out
  case c3 => unfold maxLen; omega
  case c4 => exact Nat.le_refl _
  intro w1 o1 g1
  have hb1 : Below w.heap.size w w1 := (Below.refl _ w).grown g1 (Nat.le_refl _) (fun k e => by cases e)
  rw [toList_madeCells_one] at o1
  have O1 : Own w1 w.heap.size w.heap.size k (List.replicate k 0) := by
    refine ⟨?_, fun x hx => by rw [List.eq_of_mem_replicate hx]; omega⟩
    rw [List.length_replicate, show cellsOf (List.replicate k 0) = List.replicate k (Value.int IntKind.u8 0) by simp [cellsOf]]; exact o1
  clear o1 g1 hz0 hz1 hi
  go_wp2_with fail
  go_loopw [10] (fun i wr => FRel w n w.heap.size k i wr) (fun i _ => k - (intOf i).toNat)
  case atStart => exact ⟨0, rfl, by omega, O1, hb1⟩
  case round =>
    obtain ⟨j, rfl, hj, hO, hB⟩ := hrel
    have hf := hO.1.frozenAt j
    by_cases hlt : j < k
    · have hll : ((Pl.lay k n).take j ++ List.replicate (k - j) 0).length = k := by
        rw [List.length_append, List.length_take, List.length_replicate, Pl.len_lay]; omega
      have hset := hO.set_ j (n / 256 ^ j % 256) (by omega)
      rw [byte_cast] at hset
      obtain ⟨v, hc⟩ : ∃ v, wr.cell? ⟨w.heap.size, j, none⟩ = some v := by
        have h1 := hO.1.cellAt j (by rw [hll]; omega)
        rw [h1, cells_at _ _ (by rw [hll]; omega)]
        exact ⟨_, rfl⟩
      have HSET := Lib.hid hset
      have HO := Lib.hid hO
      clear hset hO hll
      go_wp2_with fail
      go_roundw
      case rel =>
        refine ⟨j + 1, by go_num, by omega, ?_, ?_⟩
        · have h1 := HSET.out.1
          have hl : ((Pl.lay k n).take j).length = j := by rw [List.length_take, Pl.len_lay]; omega
          have e1 : ((Pl.lay k n).take j ++ List.replicate (k - j) 0).set j (n / 256 ^ j % 256) = (Pl.lay k n).take (j + 1) ++ List.replicate (k - (j + 1)) 0 := by
            rw [List.set_append_right _ _ (by rw [hl]; omega), hl, Nat.sub_self, show k - j = (k - (j + 1)) + 1 by omega, List.replicate_succ, List.set_cons_zero,
              Pl.take_snoc _ _ (by rw [Pl.len_lay]; omega), Pl.lay_getD _ _ _ hlt, List.append_assoc]; rfl
          rw [e1] at h1
          exact h1
        · exact hB.grown HSET.out.2 hB.size (fun q e => by cases e; exact Nat.le_refl _)
      case measure => simp [intOf]; omega
    · have hjk : j = k := by omega
      subst hjk
      go_wp2_with fail
      go_ret
      rw [Nat.sub_self, List.replicate_zero, List.append_nil, List.take_of_length_le (by rw [Pl.len_lay]; omega)] at hO
      refine ⟨w.heap.size, j, ?_, hO, hB⟩
      rw [Pl.len_lay]; rfl

/-- a call's answer, handed on -/
theorem RetRow.mk {w w' : World} {g cap : Nat} {bs : List Nat} (h : Own w' w.heap.size g cap bs) (hb : Below w.heap.size w w') : RetRow w bs (.returned (.slice (some ⟨g, 0, none⟩) bs.length cap)) w' := ⟨g, cap, rfl, h, hb⟩

set_option maxRecDepth 100000 in
set_option maxHeartbeats 400000 in
theorem put_any (A : Option Addr) (k c n : Nat) (bs : List Nat) (w : World) (h1 : Bys w w.heap.size A k c bs) (hr : k ≤ 140737488351232) (hn : Pl.U n) :
    Calls Try.prog 11 #[.slice A k c, .int .u64 (n : Int)] w (RetRow w (bs ++ Pl.enc n)) := by
  have h10 := Pl.sz_le10 hn.out
  rw [← Pl.len_enc] at h10
  have HB := Lib.hid (bytesOf_any n w hn)
  go_enter Try.func11, Try.ntmps11
  go_wp2_with fail
  refine HB.out.mono ?_
  rintro e w1 ⟨g, cap, rfl, hO, hB⟩
  have HC := Lib.hid (behind_any A (some ⟨g, 0, none⟩) k c (Pl.enc n).length cap bs (Pl.enc n) w1 ((h1.below hB (Nat.le_refl _)).more hB.size) hO.bys (by omega))
  go_wp2_with fail
  refine HC.out.mono ?_
  rintro e w2 ⟨g2, cap2, rfl, hO2, hB2⟩
  go_wp2_with fail
  go_ret
  exact ⟨g2, cap2, by rw [List.length_append]; rfl, hO2.lower hB.size, hB.trans (hB2.mono hB.size)⟩

set_option maxRecDepth 100000 in
set_option maxHeartbeats 400000 in
theorem putInt_any (A : Option Addr) (k c : Nat) (n : Int) (bs : List Nat) (w : World) (h1 : Bys w w.heap.size A k c bs) (hr : k ≤ 140737488351232) (hn : Pl.I n) :
    Calls Try.prog 12 #[.slice A k c, .int .i64 n] w (RetRow w (bs ++ Pl.enc (Pl.fold n))) := by
  have HB := Lib.hid (fold_any n w hn)
  have HC := Lib.hid (put_any A k c (Pl.fold n) bs w h1 hr (Pl.fold_U hn))
  go_enter Try.func12, Try.ntmps12
  go_wp2_with fail
  refine HB.out.mono ?_
  rintro e w1 ⟨rfl, rfl⟩
  go_wp2_with fail
  refine HC.out.mono ?_
  rintro e w2 ⟨g2, cap2, rfl, hO2, hB2⟩
  go_wp2_with fail
  go_ret
  exact ⟨g2, cap2, by rw [List.length_append]; rfl, hO2, hB2⟩

set_option maxRecDepth 100000 in
set_option maxHeartbeats 400000 in
theorem put4_any (A : Option Addr) (k c n : Nat) (bs : List Nat) (w : World) (h1 : Bys w w.heap.size A k c bs) (hr : k ≤ 140737488351232) (hn : n < 4294967296) :
    Calls Try.prog 13 #[.slice A k c, .int .u32 (n : Int)] w (RetRow w (bs ++ Pl.lay 4 n)) := by
  have HB := Lib.hid (fixed_any n 4 w (by omega))
  go_enter Try.func13, Try.ntmps13
  go_wp2_with fail
  refine HB.out.mono ?_
  rintro e w1 ⟨g, cap, rfl, hO, hB⟩
  have HC := Lib.hid (behind_any A (some ⟨g, 0, none⟩) k c (Pl.lay 4 n).length cap bs (Pl.lay 4 n) w1 ((h1.below hB (Nat.le_refl _)).more hB.size) hO.bys (by rw [Pl.len_lay]; omega))
  go_wp2_with fail
  refine HC.out.mono ?_
  rintro e w2 ⟨g2, cap2, rfl, hO2, hB2⟩
  go_wp2_with fail
  go_ret
  exact ⟨g2, cap2, by rw [List.length_append]; rfl, hO2.lower hB.size, hB.trans (hB2.mono hB.size)⟩

set_option maxRecDepth 100000 in
set_option maxHeartbeats 400000 in
theorem put8_any (A : Option Addr) (k c n : Nat) (bs : List Nat) (w : World) (h1 : Bys w w.heap.size A k c bs) (hr : k ≤ 140737488351232) :
    Calls Try.prog 14 #[.slice A k c, .int .u64 (n : Int)] w (RetRow w (bs ++ Pl.lay 8 n)) := by
  have HB := Lib.hid (fixed_any n 8 w (by omega))
  go_enter Try.func14, Try.ntmps14
  go_wp2_with fail
  refine HB.out.mono ?_
  rintro e w1 ⟨g, cap, rfl, hO, hB⟩
  have HC := Lib.hid (behind_any A (some ⟨g, 0, none⟩) k c (Pl.lay 8 n).length cap bs (Pl.lay 8 n) w1 ((h1.below hB (Nat.le_refl _)).more hB.size) hO.bys (by rw [Pl.len_lay]; omega))
  go_wp2_with fail
  refine HC.out.mono ?_
  rintro e w2 ⟨g2, cap2, rfl, hO2, hB2⟩
  go_wp2_with fail
  go_ret
  exact ⟨g2, cap2, by rw [List.length_append]; rfl, hO2.lower hB.size, hB.trans (hB2.mono hB.size)⟩
end Go.Proofs.Ytolgomnkgmpnmaa
