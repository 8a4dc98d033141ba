/-
  Contracts of the calls of num that lay bytes (behind, bytesOf, fixed, Put, PutInt, Put4, Put8): what each returns for every input that fits into memory; new memory, nothing that was there turned.
-/
import Derived.Test.YtaboamkfpolpbaaNumA
import Derived.Test.YtaboamkfpolpbaaBaseF
namespace Go.Proofs.Ytaboamkfpolpbaa.Wi
open Go.RowKit


set_option maxRecDepth 100000 in
set_option maxHeartbeats 400000 in
theorem behind_any (A A' : Option Addr) (n c m c' : Nat) (bs cs : List Nat) (w : World) (h1 : Bys w w.heap.size A n c bs) (h2 : Bys w w.heap.size A' m c' cs) (hr : n + m ≤ 140737488355328) :
    Calls Try.prog 67 #[.slice A n c, .slice A' m c'] w (RetRow w (bs ++ cs)) := by
  obtain ⟨i0, hi, hz0, hz1, hz2⟩ := info_parts infoByte
  have HZ2 := Lib.hid hz2
  clear hz2
  have HI := Lib.hid (show i0.bytes * (n + m) ≤ 281474976710656 by rw [HZ2.out]; omega)
  go_enter Try.func67, Try.ntmps67
  go_wp2_with (at_make; refine wpList_make_own _ rfl (.const (.int .i64 0)) (.tmp 10) 53 rfl w.heap.size 5 i0 (.int .u8 0) 1 Try.underlying53 hi hz0 hz1 .i64 .i64 _ (n + m) rfl rfl ?c1 ?c2 ?c3 ?c4 ?_)
  case c1 => go_num
  case c2 => exact HI.out
  case c3 => unfold maxLen; omega
  case c4 => exact Nat.le_refl _
  intro w1 o1 g1
  have hb1 : Below w.heap.size w w1 := (Below.refl _ w).grown g1 (Nat.le_refl _) (fun k e => by cases e)
  have s1 := (h1.below hb1 (Nat.le_refl _)).src
  go_wp2_with (at_builtin; refine wpList_append_fits_any _ rfl (.tmp 12) (.tmp 13) 53 rfl w.heap.size 5 i0 1 Try.underlying53 hi hz1 w.heap.size 0 (n + m) [] rfl o1 A n c (cellsOf bs) rfl ?c5 ?c6 ?c7 ?c8 ?c9 ?_)
  case c5 => rw [len_cells, h1.len, Nat.mul_one]
  case c6 => exact s1.1
  case c7 => exact s1.2
  case c8 => exact cells_one bs
  case c9 => omega
  intro w2 o2 g2
  have hb2 : Below w.heap.size w w2 := hb1.grown g2 hb1.size (fun k e => by cases e; exact Nat.le_refl _)
  have s2 := (h2.below hb2 (Nat.le_refl _)).src
  clear s1 o1 g1 g2
  go_wp2_with (at_builtin; refine wpList_append_fits_any _ rfl (.tmp 15) (.tmp 16) 53 rfl w.heap.size 5 i0 1 Try.underlying53 hi hz1 w.heap.size n (n + m) (cellsOf bs) rfl o2 A' m c' (cellsOf cs) rfl ?d5 ?d6 ?d7 ?d8 ?d9 ?_)
  case d5 => rw [len_cells, h2.len, Nat.mul_one]
  case d6 => exact s2.1
  case d7 => exact s2.2
  case d8 => exact cells_one cs
  case d9 => omega
  intro w3 o3 g3
  have hb3 : Below w.heap.size w w3 := hb2.grown g3 hb2.size (fun k e => by cases e; exact Nat.le_refl _)
  clear s2 o2 g3
  go_wp2
  go_ret
  refine ⟨w.heap.size, n + m, ?_, ⟨?_, Pl.oct_append h1.oct h2.oct⟩, hb3⟩
  · rw [List.length_append, h1.len, h2.len]; rfl
  · rw [List.length_append, h1.len, h2.len, cells_append]; exact o3

/-- bytesOf's loop at its round j: what is left of the number; the bytes before are laid -/
def BRel (w : World) (n g k : Nat) (t i : Value) (wr : World) : Prop :=
  ∃ (m j : Nat) (pre : List Nat), t = .int .u64 (m : Int) ∧ i = .int .i64 (j : Int) ∧ Pl.U m ∧ j + 1 ≤ k ∧ pre.length = j ∧ pre ++ Pl.enc m = Pl.enc n ∧
    Own wr w.heap.size g k (pre ++ List.replicate (k - j) 0) ∧ Below w.heap.size w wr

set_option maxRecDepth 100000 in
set_option maxHeartbeats 400000 in
theorem bytesOf_any (n : Nat) (w : World) (hn : Pl.U n) : Calls Try.prog 68 #[.int .u64 (n : Int)] w (RetRow w (Pl.enc n)) := by
  obtain ⟨i0, hi, hz0, hz1, hz2⟩ := info_parts infoByte
  have h10 := Pl.sz_le10 hn.out
  have hpos := Pl.sz_pos n
  have HL := Lib.hid (Pl.len_enc n)
  obtain ⟨k, hk⟩ : ∃ k, k = Pl.sz n := ⟨_, rfl⟩
  have HK := Lib.hid hk
  have h10' : k ≤ 10 := by omega
  have hpos' : 1 ≤ k := by omega
  have HS := Lib.hid (size_any n w hn)
  rw [← hk] at HS
  clear hk h10 hpos
  have HI := Lib.hid (show i0.bytes * k ≤ 281474976710656 by rw [hz2]; omega)
  clear hz2
  go_enter Try.func68, Try.ntmps68
  go_wp2_with (first | (go_at_call 74; refine HS.out.mono ?_; rintro e w' ⟨rfl, rfl⟩) | (at_make; refine wpList_make_full _ rfl (.tmp 7) (.tmp 7) 53 rfl w.heap.size 5 i0 (.int .u8 0) 1 Try.underlying53 hi hz0 hz1 .i64 .i64 _ _ k rfl rfl rfl rfl ?c2 ?c3 ?c4 ?_))
  case c2 => exact HI.out
  case c3 => unfold maxLen; omega
  case c4 => exact Nat.le_refl _
  intro w1 o1 g1
  have hb1 : Below w.heap.size w w1 := (Below.refl _ w).grown g1 (Nat.le_refl _) (fun k e => by cases e)
  rw [toList_madeCells_one] at o1
  have O1 : Own w1 w.heap.size w.heap.size k (List.replicate k 0) := by
    refine ⟨?_, fun x hx => by rw [List.eq_of_mem_replicate hx]; omega⟩
    rw [List.length_replicate, show cellsOf (List.replicate k 0) = List.replicate k (Value.int IntKind.u8 0) by simp [cellsOf]]; exact o1
  clear o1 g1 hz0 hz1 hi
  go_wp2_with fail
  go_loopw [0, 13] (fun t i wr => BRel w n w.heap.size k t i wr) (fun _ i _ => k - (intOf i).toNat)
  case atStart => exact ⟨n, 0, [], rfl, rfl, hn, by omega, rfl, rfl, O1, hb1⟩
  case round =>
    obtain ⟨m, j, pre, rfl, rfl, hm, hj, hpl, hpe, hO, hB⟩ := hrel
    have HP := Lib.hid hpl
    have HE := Lib.hid hpe
    clear hpl hpe
    have hf := fun i => hO.1.frozenAt i
    by_cases hlt : j + 1 < k
    · have hm128 : 128 ≤ m := by
        refine Pl.sz_two ?_
        have h1 := congrArg List.length HE.out
        rw [List.length_append, Pl.len_enc, Pl.len_enc, HP.out, ← HK.out] at h1
        omega
      have HE2 := Lib.hid (Pl.enc_ge hm128)
      have hset := hO.set_ j (m % 128 + 128) (by omega)
      obtain ⟨v, hc⟩ : ∃ v, wr.cell? ⟨w.heap.size, j, none⟩ = some v := by
        have h1 := hO.1.cellAt j (by rw [List.length_append, List.length_replicate, HP.out]; omega)
        rw [h1, cells_at _ _ (by rw [List.length_append, List.length_replicate, HP.out]; omega)]
        exact ⟨_, rfl⟩
      have hf1 := hf j
      have hor := u8_or_high m
      have ecast : (((m % 128 + 128 : Nat)) : Int) = (m : Int) % 128 + 128 := by omega
      rw [ecast] at hset
      have HSET := Lib.hid hset
      have HO := Lib.hid hO
      clear hset ecast hf hO
      go_wp2_with fail
      go_roundw
      case rel =>
        refine ⟨m / 128, j + 1, pre ++ [m % 128 + 128], by go_num, by go_num, Pl.U.mk (by have := hm.out; omega), by omega, by rw [List.length_append, HP.out]; rfl, ?_, ?_, ?_⟩
        · rw [← HE.out, HE2.out, List.append_assoc]; rfl
        · have h1 := HSET.out.1
          have e1 : (pre ++ List.replicate (k - j) 0).set j (m % 128 + 128) = pre ++ [m % 128 + 128] ++ List.replicate (k - (j + 1)) 0 := by
            rw [List.set_append_right _ _ (by rw [HP.out]; omega), HP.out, Nat.sub_self, show k - j = (k - (j + 1)) + 1 by omega, List.replicate_succ, List.set_cons_zero, List.append_assoc]; rfl
          rw [e1] at h1
          exact h1
        · exact hB.grown HSET.out.2 hB.size (fun q e => by cases e; exact Nat.le_refl _)
      case measure => simp [intOf]; omega
    · have hjk : j = k - 1 := by omega
      have hm128 : m < 128 := by
        refine Pl.sz_one ?_
        have h1 := congrArg List.length HE.out
        rw [List.length_append, Pl.len_enc, Pl.len_enc, HP.out, ← HK.out] at h1
        omega
      have HE2 := Lib.hid (Pl.enc_lt hm128)
      have hset := hO.set_ j m (by omega)
      rw [hjk] at hset
      obtain ⟨v, hc⟩ : ∃ v, wr.cell? ⟨w.heap.size, k - 1, none⟩ = some v := by
        have h1 := hO.1.cellAt (k - 1) (by rw [List.length_append, List.length_replicate, HP.out]; omega)
        rw [h1, cells_at _ _ (by rw [List.length_append, List.length_replicate, HP.out]; omega)]
        exact ⟨_, rfl⟩
      have hf1 := hf (k - 1)
      have hmod : (m : Int) % 256 = m := by omega
      have HJ := Lib.hid hjk
      have HSET := Lib.hid hset
      have HO := Lib.hid hO
      clear hset hf hO hjk
      go_wp2_with fail
      go_ret
      have e1 : pre ++ [m] = Pl.enc n := by rw [← HE.out, HE2.out]
      have e2 : (pre ++ List.replicate (k - (k - 1)) 0).set (k - 1) m = Pl.enc n := by
        rw [List.set_append_right _ _ (by rw [HP.out, HJ.out]; omega), HP.out, HJ.out, Nat.sub_self, show k - (k - 1) = 1 by omega, ← e1]; rfl
      have h1 := HSET.out.1
      have h2 := HSET.out.2
      rw [e2] at h1
      refine ⟨w.heap.size, k, ?_, h1, hB.grown h2 hB.size (fun q e => by cases e; exact Nat.le_refl _)⟩
      rw [HL.out, ← HK.out]; rfl
end Go.Proofs.Ytaboamkfpolpbaa.Wi
