/-
  The walk of copybooklaw01.NumBack: it returns true for every number of 64 bits and every slice of bytes of at most 2^47 - 4096 bytes, and turns nothing that was there.
-/
import Derived.Test.YtolgomnkgmpnmaaNumF
import Derived.Test.YtolgomnkgmpnmaaNumR
import Derived.Deep.RegionHeld3
import Derived.Deep.DrawnRows
namespace Go.Proofs.Ytolgomnkgmpnmaa.numBack
open Go.RowKit
attribute [local go_sem ↓] Go.wp_at_zero Go.wp_at_succ

theorem fix_lay (k n : Nat) (bs : List Nat) (h : n < 256 ^ k) : Pl.fix k (Pl.lay k n ++ bs) = (n, 0) := by
  have hl := Pl.len_lay k n
  unfold Pl.fix
  rw [if_neg (by rw [List.length_append, hl]; omega), List.take_append_of_le_length (by omega), List.take_of_length_le (by omega), Pl.val8_lay, Nat.mod_eq_of_lt h]
theorem I_wrap (n : Int) : Pl.I (wrap64 n) := Pl.I.mk (by unfold wrap64; omega)
theorem len_fold (s : Int) : (Pl.enc (Pl.fold s)).length = Pl.sz (Pl.fold s) := Pl.len_enc _

theorem putInt_new (n : Int) (w : World) (hn : Pl.I n) :
    Calls Try.prog 12 #[.slice none 0 0, .int .i64 n] w fun e w' => ∃ g cap, e = .returned (.slice (some ⟨g, 0, none⟩) (Pl.sz (Pl.fold n)) cap) ∧ OwnV w' w.heap.size (.slice (some ⟨g, 0, none⟩) (Pl.sz (Pl.fold n)) cap) (Pl.enc (Pl.fold n)) ∧ Below w.heap.size w w' :=
  (putInt_any none 0 0 n [] w (Bys.none_ _ _) (by omega) hn).mono fun _ _ ⟨g, cap, h1, h2, h3⟩ => ⟨g, cap, by rw [h1, List.nil_append, Pl.len_enc], by rw [List.nil_append] at h2; have := h2.toV; rwa [Pl.len_enc] at this, h3⟩
theorem put4_new (n : Nat) (w : World) (hn : n < 4294967296) :
    Calls Try.prog 13 #[.slice none 0 0, .int .u32 (n : Int)] w fun e w' => ∃ g cap, e = .returned (.slice (some ⟨g, 0, none⟩) 4 cap) ∧ OwnV w' w.heap.size (.slice (some ⟨g, 0, none⟩) 4 cap) (Pl.lay 4 n) ∧ Below w.heap.size w w' :=
  (put4_any none 0 0 n [] w (Bys.none_ _ _) (by omega) hn).mono fun _ _ ⟨g, cap, h1, h2, h3⟩ => ⟨g, cap, by rw [h1, List.nil_append, Pl.len_lay], by rw [List.nil_append] at h2; have := h2.toV; rwa [Pl.len_lay] at this, h3⟩
theorem put8_new (n : Nat) (w : World) :
    Calls Try.prog 14 #[.slice none 0 0, .int .u64 (n : Int)] w fun e w' => ∃ g cap, e = .returned (.slice (some ⟨g, 0, none⟩) 8 cap) ∧ OwnV w' w.heap.size (.slice (some ⟨g, 0, none⟩) 8 cap) (Pl.lay 8 n) ∧ Below w.heap.size w w' :=
  (put8_any none 0 0 n [] w (Bys.none_ _ _) (by omega)).mono fun _ _ ⟨g, cap, h1, h2, h3⟩ => ⟨g, cap, by rw [h1, List.nil_append, Pl.len_lay], by rw [List.nil_append] at h2; have := h2.toV; rwa [Pl.len_lay] at this, h3⟩

set_option maxRecDepth 100000 in
set_option maxHeartbeats 2000000 in
theorem walk_err (w : World) (n : Nat) (hn : Pl.U n) (A : Option Addr) (m c : Nat) (bs : List Nat) (hA : Bys w w.heap.size A m c bs) (hr : m ≤ 140737488351232) (x : Nat) (hg : Pl.get bs = (0, 0, x)) (hx : x ≠ 0) :
    Calls Try.prog 5 #[.int .u64 (n : Int), .slice A m c] w fun e w' => e = .returned (.bool true) ∧ Below w.heap.size w w' := by
  have HG := Lib.hid hg
  have bx : ((x : Int) != 0) = true := by rw [bne_iff_ne]; omega
  clear hg hx
  have h10 := Pl.sz_le10 hn.out
  have hs10 := Pl.sz_le10 (Pl.fold_U (I_wrap (n : Int))).out
  obtain ⟨s, hs⟩ : ∃ s, s = wrap64 (n : Int) := ⟨_, rfl⟩
  have hI : Pl.I s := by rw [hs]; exact I_wrap _
  rw [← hs] at hs10
  have hs2 : wrap64 (n : Int) = s := hs.symm
  clear hs
  obtain ⟨q, hq⟩ : ∃ q : Nat, q = n % 4294967296 := ⟨_, rfl⟩
  have hq2 : (n : Int) % 4294967296 = (q : Int) := by omega
  have hq3 : q < 4294967296 := by omega
  clear hq
  have HN := Lib.hid hn
  clear hn
  go_enter Try.func5, Try.ntmps5
  go_wp2_with fail
  refine (put_new n w HN.out).mono ?_
  rintro e w1 ⟨g1, c1, rfl, hO1, hb1⟩
  have D0 : Own (w1.alloc (.cells #[] 5)) w1.heap.size w1.heap.size 0 [] := own_lit w1 [] (fun x hx => by cases hx) (by decide)
  have E0 : Below w1.heap.size w1 (w1.alloc (.cells #[] 5)) := (Below.refl _ _).alloc (Nat.le_refl _) _
  have HO1 := Lib.hid hO1.bysz
  have HD := Lib.hid D0
  have HE := Lib.hid E0
  clear D0 E0 hO1
  go_wp2_with (at_builtin; refine wpList_append_bys _ rfl (.tmp 20) (.tmp 21) rfl w1.heap.size _ 0 0 [] rfl HD.out.toV w1.heap.size _ _ _ (Pl.enc n) rfl (HO1.out.below HE.out (Nat.le_refl _)) (by omega) HE.out.size ?_)
  intro A2 c2 w2 hV2 hg2 hx2 hy2
  clear hx2 hy2
  have hV2 : OwnV w2 w1.heap.size (.slice A2 (Pl.sz n) c2) (Pl.enc n) := by simpa using hV2
  have hb2 : Below w.heap.size w w2 := hb1.trans ((below_append HD.out.toV hg2 HE.out HE.out.size).mono hb1.size)
  have hz2 : w1.heap.size ≤ w2.heap.size := Nat.le_trans HE.out.size hg2.size
  clear hg2 HD HE HO1
  have HV2 := Lib.hid hV2
  have HA2 := Lib.hid (hA.below hb2 (Nat.le_refl _))
  clear hV2
  go_wp2_with (at_builtin; refine wpList_append_bys _ rfl (.tmp 22) (.tmp 23) rfl w1.heap.size _ _ _ (Pl.enc n) rfl HV2.out w.heap.size _ _ _ bs rfl HA2.out (by omega) hz2 ?_)
  intro A3 c3 w3 hV3 hg3 hx3 hy3
  clear hx3 hy3
  have hb3 : Below w.heap.size w w3 := hb2.grown hg3 hb2.size (fun k e => Nat.le_trans hb1.size (HV2.out.lt k e).1)
  have hG3 := hV3.bys.2
  clear hg3 hV3 HA2 HV2 hz2
  have HG3 := Lib.hid (get_at _ _ _ _ w3 hG3 n (Pl.sz n) 0 (Pl.get_enc n bs HN.out.out))
  clear hG3
  go_wp2_with fail
  refine HG3.out.mono ?_
  rintro e w' ⟨rfl, rfl⟩
  clear HG3
  go_wp2_with fail
  refine (putInt_new s w3 hI).mono ?_
  rintro e w4 ⟨g4, c4, rfl, hV4, hc4⟩
  have hb4 : Below w.heap.size w w4 := hb3.trans (hc4.mono hb3.size)
  have HV4 := Lib.hid hV4
  have HA4 := Lib.hid (hA.below hb4 (Nat.le_refl _))
  have hz4 := hc4.size
  clear hV4 hc4
  go_wp2_with (at_builtin; refine wpList_append_bys _ rfl (.tmp 32) (.tmp 33) rfl w3.heap.size _ _ _ (Pl.enc (Pl.fold s)) rfl HV4.out w.heap.size _ _ _ bs rfl HA4.out (by omega) hz4 ?_)
  intro A5 c5 w5 hV5 hg5 hx5 hy5
  clear hx5 hy5
  have hb5 : Below w.heap.size w w5 := hb4.grown hg5 hb4.size (fun k e => Nat.le_trans hb3.size (HV4.out.lt k e).1)
  have hG5 := hV5.bys.2
  clear hg5 hV5 HA4 HV4 hz4
  have HG5 := Lib.hid (getInt_at _ _ _ _ w5 hG5 (Pl.fold s) (Pl.sz (Pl.fold s)) 0 (Pl.get_enc (Pl.fold s) bs (Pl.fold_U hI).out))
  clear hG5
  go_wp2_with fail
  refine HG5.out.mono ?_
  rintro e w' ⟨rfl, rfl⟩
  clear HG5
  rw [Pl.unfold_fold hI]
  go_wp2_with fail
  refine (put4_new q w5 hq3).mono ?_
  rintro e w6 ⟨g6, c6, rfl, hV6, hc6⟩
  have hb6 : Below w.heap.size w w6 := hb5.trans (hc6.mono hb5.size)
  have HV6 := Lib.hid hV6
  have HA6 := Lib.hid (hA.below hb6 (Nat.le_refl _))
  have hz6 := hc6.size
  clear hV6 hc6
  go_wp2_with (at_builtin; refine wpList_append_bys _ rfl (.tmp 42) (.tmp 43) rfl w5.heap.size _ _ _ (Pl.lay 4 q) rfl HV6.out w.heap.size _ _ _ bs rfl HA6.out (by omega) hz6 ?_)
  intro A7 c7 w7 hV7 hg7 hx7 hy7
  clear hx7 hy7
  have hb7 : Below w.heap.size w w7 := hb6.grown hg7 hb6.size (fun k e => Nat.le_trans hb5.size (HV6.out.lt k e).1)
  have hG7 := hV7.bys.2
  clear hg7 hV7 HA6 HV6 hz6
  have HG7 := Lib.hid (get4_at _ _ _ _ w7 hG7 q 0 (fix_lay 4 q bs hq3))
  clear hG7
  go_wp2_with fail
  refine HG7.out.mono ?_
  rintro e w' ⟨rfl, rfl⟩
  clear HG7
  go_wp2_with fail
  refine (put8_new n w7).mono ?_
  rintro e w8 ⟨g8, c8, rfl, hV8, hc8⟩
  have hb8 : Below w.heap.size w w8 := hb7.trans (hc8.mono hb7.size)
  have HV8 := Lib.hid hV8
  have HA8 := Lib.hid (hA.below hb8 (Nat.le_refl _))
  have hz8 := hc8.size
  clear hV8 hc8
  go_wp2_with (at_builtin; refine wpList_append_bys _ rfl (.tmp 50) (.tmp 51) rfl w7.heap.size _ _ _ (Pl.lay 8 n) rfl HV8.out w.heap.size _ _ _ bs rfl HA8.out (by omega) hz8 ?_)
  intro A9 c9 w9 hV9 hg9 hx9 hy9
  clear hx9 hy9
  have hb9 : Below w.heap.size w w9 := hb8.grown hg9 hb8.size (fun k e => Nat.le_trans hb7.size (HV8.out.lt k e).1)
  have hG9 := hV9.bys.2
  clear hg9 hV9 HA8 HV8 hz8
  have HG9 := Lib.hid (get8_at _ _ _ _ w9 hG9 n 0 (fix_lay 8 n bs HN.out.out))
  clear hG9
  go_wp2_with fail
  refine HG9.out.mono ?_
  rintro e w' ⟨rfl, rfl⟩
  clear HG9
  go_wp2_with fail
  refine (size_any n w9 HN.out).mono ?_
  rintro e w' ⟨rfl, rfl⟩
  go_wp2_with fail
  refine (fold_any s w9 hI).mono ?_
  rintro e w' ⟨rfl, rfl⟩
  go_wp2_with fail
  refine (size_any (Pl.fold s) w9 (Pl.fold_U hI)).mono ?_
  rintro e w' ⟨rfl, rfl⟩
  have HA9 := Lib.hid ((hA.below hb9 (Nat.le_refl _)).more hb9.size)
  go_wp2_with fail
  refine (get_at A m c bs w9 HA9.out _ _ _ HG.out).mono ?_
  rintro e w' ⟨rfl, rfl⟩
  go_wp2_with fail
  refine (awake_any w9).mono ?_
  rintro e w10 ⟨rfl, hb10⟩
  go_wp2_with fail
  go_ret
  exact ⟨rfl, hb9.trans (hb10.mono hb9.size)⟩

set_option maxRecDepth 100000 in
set_option maxHeartbeats 2000000 in
theorem walk_ok (w : World) (n : Nat) (hn : Pl.U n) (A : Option Addr) (m c : Nat) (bs : List Nat) (hA : Bys w w.heap.size A m c bs) (hr : m ≤ 140737488351232) (x k : Nat) (hg : Pl.get bs = (x, k, 0)) (hx : Pl.U x) (hk1 : 1 ≤ k) (hk10 : k ≤ 10) (hkm : k ≤ m) (hbk : Pl.enc x = bs.take k) :
    Calls Try.prog 5 #[.int .u64 (n : Int), .slice A m c] w fun e w' => e = .returned (.bool true) ∧ Below w.heap.size w w' := by
  have HG := Lib.hid hg
  have HX := Lib.hid hx
  have HBK := Lib.hid hbk
  clear hg hx hbk
  have h10 := Pl.sz_le10 hn.out
  have hs10 := Pl.sz_le10 (Pl.fold_U (I_wrap (n : Int))).out
  obtain ⟨s, hs⟩ : ∃ s, s = wrap64 (n : Int) := ⟨_, rfl⟩
  have hI : Pl.I s := by rw [hs]; exact I_wrap _
  rw [← hs] at hs10
  have hs2 : wrap64 (n : Int) = s := hs.symm
  clear hs
  obtain ⟨q, hq⟩ : ∃ q : Nat, q = n % 4294967296 := ⟨_, rfl⟩
  have hq2 : (n : Int) % 4294967296 = (q : Int) := by omega
  have hq3 : q < 4294967296 := by omega
  clear hq
  have HN := Lib.hid hn
  clear hn
  go_enter Try.func5, Try.ntmps5
  go_wp2_with fail
  refine (put_new n w HN.out).mono ?_
  rintro e w1 ⟨g1, c1, rfl, hO1, hb1⟩
  have D0 : Own (w1.alloc (.cells #[] 5)) w1.heap.size w1.heap.size 0 [] := own_lit w1 [] (fun x hx => by cases hx) (by decide)
  have E0 : Below w1.heap.size w1 (w1.alloc (.cells #[] 5)) := (Below.refl _ _).alloc (Nat.le_refl _) _
  have HO1 := Lib.hid hO1.bysz
  have HD := Lib.hid D0
  have HE := Lib.hid E0
  clear D0 E0 hO1
  go_wp2_with (at_builtin; refine wpList_append_bys _ rfl (.tmp 20) (.tmp 21) rfl w1.heap.size _ 0 0 [] rfl HD.out.toV w1.heap.size _ _ _ (Pl.enc n) rfl (HO1.out.below HE.out (Nat.le_refl _)) (by omega) HE.out.size ?_)
  intro A2 c2 w2 hV2 hg2 hx2 hy2
  clear hx2 hy2
  have hV2 : OwnV w2 w1.heap.size (.slice A2 (Pl.sz n) c2) (Pl.enc n) := by simpa using hV2
  have hb2 : Below w.heap.size w w2 := hb1.trans ((below_append HD.out.toV hg2 HE.out HE.out.size).mono hb1.size)
  have hz2 : w1.heap.size ≤ w2.heap.size := Nat.le_trans HE.out.size hg2.size
  clear hg2 HD HE HO1
  have HV2 := Lib.hid hV2
  have HA2 := Lib.hid (hA.below hb2 (Nat.le_refl _))
  clear hV2
  go_wp2_with (at_builtin; refine wpList_append_bys _ rfl (.tmp 22) (.tmp 23) rfl w1.heap.size _ _ _ (Pl.enc n) rfl HV2.out w.heap.size _ _ _ bs rfl HA2.out (by omega) hz2 ?_)
  intro A3 c3 w3 hV3 hg3 hx3 hy3
  clear hx3 hy3
  have hb3 : Below w.heap.size w w3 := hb2.grown hg3 hb2.size (fun k e => Nat.le_trans hb1.size (HV2.out.lt k e).1)
  have hG3 := hV3.bys.2
  clear hg3 hV3 HA2 HV2 hz2
  have HG3 := Lib.hid (get_at _ _ _ _ w3 hG3 n (Pl.sz n) 0 (Pl.get_enc n bs HN.out.out))
  clear hG3
  go_wp2_with fail
  refine HG3.out.mono ?_
  rintro e w' ⟨rfl, rfl⟩
  clear HG3
  go_wp2_with fail
  refine (putInt_new s w3 hI).mono ?_
  rintro e w4 ⟨g4, c4, rfl, hV4, hc4⟩
  have hb4 : Below w.heap.size w w4 := hb3.trans (hc4.mono hb3.size)
  have HV4 := Lib.hid hV4
  have HA4 := Lib.hid (hA.below hb4 (Nat.le_refl _))
  have hz4 := hc4.size
  clear hV4 hc4
  go_wp2_with (at_builtin; refine wpList_append_bys _ rfl (.tmp 32) (.tmp 33) rfl w3.heap.size _ _ _ (Pl.enc (Pl.fold s)) rfl HV4.out w.heap.size _ _ _ bs rfl HA4.out (by omega) hz4 ?_)
  intro A5 c5 w5 hV5 hg5 hx5 hy5
  clear hx5 hy5
  have hb5 : Below w.heap.size w w5 := hb4.grown hg5 hb4.size (fun k e => Nat.le_trans hb3.size (HV4.out.lt k e).1)
  have hG5 := hV5.bys.2
  clear hg5 hV5 HA4 HV4 hz4
  have HG5 := Lib.hid (getInt_at _ _ _ _ w5 hG5 (Pl.fold s) (Pl.sz (Pl.fold s)) 0 (Pl.get_enc (Pl.fold s) bs (Pl.fold_U hI).out))
  clear hG5
  go_wp2_with fail
  refine HG5.out.mono ?_
  rintro e w' ⟨rfl, rfl⟩
  clear HG5
  rw [Pl.unfold_fold hI]
  go_wp2_with fail
  refine (put4_new q w5 hq3).mono ?_
  rintro e w6 ⟨g6, c6, rfl, hV6, hc6⟩
  have hb6 : Below w.heap.size w w6 := hb5.trans (hc6.mono hb5.size)
  have HV6 := Lib.hid hV6
  have HA6 := Lib.hid (hA.below hb6 (Nat.le_refl _))
  have hz6 := hc6.size
  clear hV6 hc6
  go_wp2_with (at_builtin; refine wpList_append_bys _ rfl (.tmp 42) (.tmp 43) rfl w5.heap.size _ _ _ (Pl.lay 4 q) rfl HV6.out w.heap.size _ _ _ bs rfl HA6.out (by omega) hz6 ?_)
  intro A7 c7 w7 hV7 hg7 hx7 hy7
  clear hx7 hy7
  have hb7 : Below w.heap.size w w7 := hb6.grown hg7 hb6.size (fun k e => Nat.le_trans hb5.size (HV6.out.lt k e).1)
  have hG7 := hV7.bys.2
  clear hg7 hV7 HA6 HV6 hz6
  have HG7 := Lib.hid (get4_at _ _ _ _ w7 hG7 q 0 (fix_lay 4 q bs hq3))
  clear hG7
  go_wp2_with fail
  refine HG7.out.mono ?_
  rintro e w' ⟨rfl, rfl⟩
  clear HG7
  go_wp2_with fail
  refine (put8_new n w7).mono ?_
  rintro e w8 ⟨g8, c8, rfl, hV8, hc8⟩
  have hb8 : Below w.heap.size w w8 := hb7.trans (hc8.mono hb7.size)
  have HV8 := Lib.hid hV8
  have HA8 := Lib.hid (hA.below hb8 (Nat.le_refl _))
  have hz8 := hc8.size
  clear hV8 hc8
  go_wp2_with (at_builtin; refine wpList_append_bys _ rfl (.tmp 50) (.tmp 51) rfl w7.heap.size _ _ _ (Pl.lay 8 n) rfl HV8.out w.heap.size _ _ _ bs rfl HA8.out (by omega) hz8 ?_)
  intro A9 c9 w9 hV9 hg9 hx9 hy9
  clear hx9 hy9
  have hb9 : Below w.heap.size w w9 := hb8.grown hg9 hb8.size (fun k e => Nat.le_trans hb7.size (HV8.out.lt k e).1)
  have hG9 := hV9.bys.2
  clear hg9 hV9 HA8 HV8 hz8
  have HG9 := Lib.hid (get8_at _ _ _ _ w9 hG9 n 0 (fix_lay 8 n bs HN.out.out))
  clear hG9
  go_wp2_with fail
  refine HG9.out.mono ?_
  rintro e w' ⟨rfl, rfl⟩
  clear HG9
  go_wp2_with fail
  refine (size_any n w9 HN.out).mono ?_
  rintro e w' ⟨rfl, rfl⟩
  go_wp2_with fail
  refine (fold_any s w9 hI).mono ?_
  rintro e w' ⟨rfl, rfl⟩
  go_wp2_with fail
  refine (size_any (Pl.fold s) w9 (Pl.fold_U hI)).mono ?_
  rintro e w' ⟨rfl, rfl⟩
  have HA9 := Lib.hid ((hA.below hb9 (Nat.le_refl _)).more hb9.size)
  go_wp2_with fail
  refine (get_at A m c bs w9 HA9.out _ _ _ HG.out).mono ?_
  rintro e w' ⟨rfl, rfl⟩
  have hcap : c ≤ 9223372036854775807 := by have := HA9.out.cap; unfold maxLen at this; omega
  have hmc := HA9.out.le
  clear hq2 hs2 hs10 h10 hI hq3
  obtain ⟨ga, oa, hAA, hga, hgc⟩ := HA9.out.at_ (i := 0) (by omega)
  clear hga hgc hV2
  subst hAA
  have z1 : (0 : Int) ≤ (k : Int) := by omega
  have z2 : (k : Int) ≤ (c : Int) := by omega
  have z3 : (m : Int) ≤ (c : Int) := by omega
  have q1 : decide (1 ≤ (k : Int)) = true := decide_eq_true (by omega)
  have q2 : decide ((k : Int) ≤ 10) = true := decide_eq_true (by omega)
  have q3 : decide (k ≤ m) = true := decide_eq_true (by omega)
  have q4 : decide ((k : Int) ≤ (m : Int)) = true := decide_eq_true (by omega)
  have q5 : decide ((k : Int) ≤ min (m : Int) 10) = true := decide_eq_true (by omega)
  have HA9D := Lib.hid (show Bys w9.drew w9.drew.heap.size _ m c bs from HA9.out)
  go_wp2_with fail
  go_region_held3 (fun _ => True) (trivial) (first | (go_at_call 19; refine (awake_any _).mono ?_; rintro e w10 ⟨rfl, hb10⟩) | (go_at_call 11; refine (put_new x _ HX.out).mono ?_; rintro e w11 ⟨g11, c11, rfl, hO11, hb11⟩) | (go_at_call 18; refine (eq_yes _ _ _ _ _ _ (Pl.enc x) (bs.take k) _ (by exact hO11.bysz) (by exact (((HA9D.out.below hb10 (Nat.le_refl _)).below hb11 hb10.size).more (Nat.le_trans hb10.size hb11.size)).upto hkm) HBK.out).mono ?_; rintro e w12 ⟨rfl, rfl⟩))
  go_wp2_with fail
  go_ret
  have hb10' : Below w9.heap.size w9 w10 := ⟨hb10.os, hb10.tape, hb10.output, hb10.size, hb10.block⟩
  have hz9 := hb9.size
  have hz10 := hb10'.size
  exact ⟨rfl, (hb9.trans (hb10'.mono hz9)).trans (hb11.mono (by omega))⟩

theorem walk (w : World) (n : Nat) (hn : Pl.U n) (A : Option Addr) (m c : Nat) (bs : List Nat) (hA : Bys w w.heap.size A m c bs) (hr : m ≤ 140737488351232) :
    Calls Try.prog 5 #[.int .u64 (n : Int), .slice A m c] w fun e w' => e = .returned (.bool true) ∧ Below w.heap.size w w' := by
  obtain ⟨x, k, e, hg⟩ : ∃ a b c, Pl.get bs = (a, b, c) := ⟨_, _, _, rfl⟩
  by_cases he : e = 0
  · subst he
    have hx : Pl.U x := by
      have := Pl.get_lt bs
      rw [hg] at this
      exact Pl.U.mk this
    have hok := Pl.get_ok hA.oct (by rw [hg])
    rw [hg, hA.len] at hok
    exact walk_ok w n hn A m c bs hA hr x k hg hx hok.1 hok.2.1 hok.2.2.1 hok.2.2.2
  · have hz := Pl.get_err (bs := bs) (by rw [hg]; exact he)
    rw [hg] at hz
    simp only [Prod.mk.injEq, and_true] at hz
    obtain ⟨rfl, rfl⟩ := hz
    exact walk_err w n hn A m c bs hA hr e hg he
end Go.Proofs.Ytolgomnkgmpnmaa.numBack
