/-
  past.Past's Length, Since, At, Copy, Undo's and Drop's part of it: each at a past, at a revision that is not there, and at none. Conditions: those of a past; a revision of 64 bits.
-/
import Derived.Test.YtkgehgedbgogbaaPaT
namespace Go.Proofs.Ytkgehgedbgogbaa
open Go.RowKit
open Pl (Un)

namespace Pl
theorem place_ok {fr len least rev i : Nat} (hr : rev = fr + i) (h1 : least ≤ i) (h2 : i ≤ len) : place fr len least rev = ((i : Int), 0) := by
  unfold place
  rw [if_neg (by omega), if_neg (by omega)]
  congr 1
  omega
theorem place_above {fr len least rev : Nat} (h : fr + len < rev) : place fr len least rev = (0, 31) := if_pos h
theorem place_gone {fr len least rev : Nat} (h : rev ≤ fr + len) (h2 : rev < fr + least) : place fr len least rev = (0, 32) := by
  unfold place
  rw [if_neg (by omega), if_pos h2]
end Pl
variable {w : World} {p : Nat} {F : Nat → Prop} {fr : Nat} {N : Int} {P : List Pl.Op}

set_option maxRecDepth 100000 in
set_option maxHeartbeats 400000 in
theorem length_bad (h : PastAt w p F fr N P) (rev : Nat) (hv : rev ≤ 18446744073709551615) (E : Int) (hE : Pl.place fr P.length 0 rev = (0, E)) (hE0 : E ≠ 0) :
    Calls Try.prog 17 #[.pointer (some ⟨p, 0, none⟩), .int .u64 (rev : Int)] w fun e w' => e = .returned (.tuple #[.int .i64 0, .int .i64 E]) ∧ Below w.heap.size w w' := by
  have HP := Lib.hid h
  have HEE := Lib.hid hE
  have HV := Lib.hid hv
  have hEb : (E != 0) = true := by simpa using hE0
  clear h hE hE0 hv
  go_enter Try.func17, Try.ntmps17
  go_wp2_with fail
  refine (places_any (some ⟨p, 0, none⟩) 0 _).mono ?_
  rintro e w1 ⟨⟨f, rfl, a, b, rfl, ha, hb⟩, hbl⟩
  have HB1 := Lib.hid (hbl)
  have HC := Lib.hid (place_past (PastAt.then_ HP.out HB1.out) 0 rev (by decide) HV.out a b ha hb)
  rw [HEE.out] at HC
  clear ha hb hbl
  go_wp2_with fail
  refine HC.out.mono ?_
  rintro e w2 ⟨rfl, hb2⟩
  have HB2 := Lib.hid (below_then HB1.out hb2)
  clear hb2
  go_wp2_with fail
  go_returns
  exact ⟨rfl, HB2.out⟩
set_option maxRecDepth 100000 in
set_option maxHeartbeats 400000 in
theorem length_non {v : Option Addr} (h : NonAt w (.pointer v)) (rev : Nat) :
    Calls Try.prog 17 #[.pointer v, .int .u64 (rev : Int)] w fun e w' => e = .returned (.tuple #[.int .i64 0, .int .i64 2]) ∧ Below w.heap.size w w' := by
  have HP := Lib.hid h
  clear h
  go_enter Try.func17, Try.ntmps17
  go_wp2_with fail
  refine (places_any v 0 _).mono ?_
  rintro e w1 ⟨⟨f, rfl, a, b, rfl, ha, hb⟩, hbl⟩
  have HB1 := Lib.hid (hbl)
  have HC := Lib.hid (place_non (NonAt.then_ HP.out HB1.out) rev a b ha)
  clear ha hb hbl
  go_wp2_with fail
  refine HC.out.mono ?_
  rintro e w2 ⟨rfl, hb2⟩
  have HB2 := Lib.hid (below_then HB1.out hb2)
  clear hb2
  go_wp2_with fail
  go_returns
  exact ⟨rfl, HB2.out⟩
set_option maxRecDepth 100000 in
set_option maxHeartbeats 400000 in
theorem since_bad (h : PastAt w p F fr N P) (rev : Nat) (hv : rev ≤ 18446744073709551615) (E : Int) (hE : Pl.place fr P.length 0 rev = (0, E)) (hE0 : E ≠ 0) :
    Calls Try.prog 16 #[.pointer (some ⟨p, 0, none⟩), .int .u64 (rev : Int)] w fun e w' => e = .returned (.tuple #[.slice none 0 0, .int .i64 E]) ∧ Below w.heap.size w w' := by
  have HP := Lib.hid h
  have HEE := Lib.hid hE
  have HV := Lib.hid hv
  have hEb : (E != 0) = true := by simpa using hE0
  clear h hE hE0 hv
  go_enter Try.func16, Try.ntmps16
  go_wp2_with fail
  refine (places_any (some ⟨p, 0, none⟩) 0 _).mono ?_
  rintro e w1 ⟨⟨f, rfl, a, b, rfl, ha, hb⟩, hbl⟩
  have HB1 := Lib.hid (hbl)
  have HC := Lib.hid (place_past (PastAt.then_ HP.out HB1.out) 0 rev (by decide) HV.out a b ha hb)
  rw [HEE.out] at HC
  clear ha hb hbl
  go_wp2_with fail
  refine HC.out.mono ?_
  rintro e w2 ⟨rfl, hb2⟩
  have HB2 := Lib.hid (below_then HB1.out hb2)
  clear hb2
  go_wp2_with fail
  go_returns
  exact ⟨rfl, HB2.out⟩
set_option maxRecDepth 100000 in
set_option maxHeartbeats 400000 in
theorem since_non {v : Option Addr} (h : NonAt w (.pointer v)) (rev : Nat) :
    Calls Try.prog 16 #[.pointer v, .int .u64 (rev : Int)] w fun e w' => e = .returned (.tuple #[.slice none 0 0, .int .i64 2]) ∧ Below w.heap.size w w' := by
  have HP := Lib.hid h
  clear h
  go_enter Try.func16, Try.ntmps16
  go_wp2_with fail
  refine (places_any v 0 _).mono ?_
  rintro e w1 ⟨⟨f, rfl, a, b, rfl, ha, hb⟩, hbl⟩
  have HB1 := Lib.hid (hbl)
  have HC := Lib.hid (place_non (NonAt.then_ HP.out HB1.out) rev a b ha)
  clear ha hb hbl
  go_wp2_with fail
  refine HC.out.mono ?_
  rintro e w2 ⟨rfl, hb2⟩
  have HB2 := Lib.hid (below_then HB1.out hb2)
  clear hb2
  go_wp2_with fail
  go_returns
  exact ⟨rfl, HB2.out⟩
set_option maxRecDepth 100000 in
set_option maxHeartbeats 400000 in
theorem length_ok (h : PastAt w p F fr N P) (i rev : Nat) (hr : rev = fr + i) (hi : i ≤ P.length) :
    Calls Try.prog 17 #[.pointer (some ⟨p, 0, none⟩), .int .u64 (rev : Int)] w fun e w' => e = .returned (.tuple #[.int .i64 (N + Pl.total (P.take i)), .int .i64 0]) ∧ Below w.heap.size w w' := by
  have hv : rev ≤ 18446744073709551615 := by have := h.fine.rev; omega
  have HP := Lib.hid h
  have HEE := Lib.hid (Pl.place_ok hr (Nat.zero_le _) hi)
  have HV := Lib.hid hv
  have HI := Lib.hid hi
  obtain ⟨z, hz⟩ : ∃ z, z = N + Pl.total (P.take i) := ⟨_, rfl⟩
  rw [← hz]
  have HZ := Lib.hid hz
  clear h hr hv hi hz
  go_enter Try.func17, Try.ntmps17
  go_wp2_with fail
  refine (places_any (some ⟨p, 0, none⟩) 0 _).mono ?_
  rintro e w1 ⟨⟨f, rfl, a, b, rfl, ha, hb⟩, hbl⟩
  have HB1 := Lib.hid hbl
  have HC := Lib.hid (place_past (PastAt.then_ HP.out HB1.out) 0 rev (by decide) HV.out a b ha hb)
  rw [HEE.out] at HC
  clear ha hb hbl
  go_wp2_with fail
  refine HC.out.mono ?_
  rintro e w2 ⟨rfl, hb2⟩
  have HB2 := Lib.hid (below_then HB1.out hb2)
  obtain ⟨A, n, c, B, m, d, L, hP⟩ := PastAt.then_ HP.out HB2.out
  obtain ⟨c0, c1, c2⟩ := hP.cells
  have him : i < m := by rw [hP.m_len]; have := HI.out; omega
  obtain ⟨g, o, rfl, hg, hc⟩ := Rws.int_at hP.len him
  have a0 := hc i him
  rw [Pl.lens_at N P HI.out, ← HZ.out] at a0
  have z0 : (0 : Int) ≤ (i : Int) := by omega
  have z1 : (i : Int) < (m : Int) := by omega
  clear hb2 hP hc
  go_wp2_with fail
  go_returns
  exact ⟨rfl, HB2.out⟩
set_option maxRecDepth 100000 in
set_option maxHeartbeats 400000 in
theorem since_ok (h : PastAt w p F fr N P) (i rev : Nat) (hr : rev = fr + i) (hi : i ≤ P.length) :
    Calls Try.prog 16 #[.pointer (some ⟨p, 0, none⟩), .int .u64 (rev : Int)] w fun e w' => ∃ A c, e = .returned (.tuple #[.slice A (P.drop i).length c, .int .i64 0]) ∧ RowO w' w.heap.size (.slice A (P.drop i).length c) (P.drop i) ∧ Below w.heap.size w w' := by
  have hv : rev ≤ 18446744073709551615 := by have := h.fine.rev; omega
  have HP := Lib.hid h
  have HEE := Lib.hid (Pl.place_ok hr (Nat.zero_le _) hi)
  have HV := Lib.hid hv
  have HI := Lib.hid hi
  obtain ⟨K, hK⟩ : ∃ K, K = P.drop i := ⟨_, rfl⟩
  rw [← hK]
  have HK := Lib.hid hK
  clear h hr hv hi hK
  go_enter Try.func16, Try.ntmps16
  go_wp2_with fail
  refine (places_any (some ⟨p, 0, none⟩) 0 _).mono ?_
  rintro e w1 ⟨⟨f, rfl, a, b, rfl, ha, hb⟩, hbl⟩
  have HB1 := Lib.hid hbl
  have HC := Lib.hid (place_past (PastAt.then_ HP.out HB1.out) 0 rev (by decide) HV.out a b ha hb)
  rw [HEE.out] at HC
  clear ha hb hbl
  go_wp2_with fail
  refine HC.out.mono ?_
  rintro e w2 ⟨rfl, hb2⟩
  have HB2 := Lib.hid (below_then HB1.out hb2)
  have HD := Lib.hid (behind_any (PastAt.then_ HP.out HB2.out) i HI.out)
  rw [← HK.out] at HD
  clear hb2
  go_wp2_with fail
  refine HD.out.mono ?_
  rintro e w3 ⟨A, c, rfl, ho, hb3⟩
  have HO := Lib.hid (RowO.lower ho HB2.out.size)
  have HB3 := Lib.hid (below_then HB2.out hb3)
  clear ho hb3
  go_wp2_with fail
  go_returns
  exact ⟨A, c, rfl, HO.out, HB3.out⟩
end Go.Proofs.Ytkgehgedbgogbaa
