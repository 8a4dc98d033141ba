/-
  past.Past's At: at a past, at a revision that is not there, and at none. Conditions: those of a past; a revision of 64 bits.
-/
import Derived.Test.YtkgehgedbgogbaaPaU
namespace Go.Proofs.Ytkgehgedbgogbaa
open Go.RowKit
open Pl (Un)

theorem results_pair {fn : Func} {t s : Tmp} {tmps : Array Value} {p : Nat} {Z : World} {x y : Int} {A : Option Addr} {n c : Nat} {b : Bool} {v : Value} (h : fn.results = #[.cell t 38, .tmp s]) (ha : tmps.getD t undef = .pointer (some ⟨p, 0, none⟩)) (hs : tmps.getD s undef = v) (hZ : OAt Z p x y A n c b) :
    (results fn tmps).run Try.prog Z = .ok (.tuple #[.agg #[.int .u32 x, .int .u64 y, .slice A n c, .bool b], v]) Z := by
  obtain ⟨c0, c1, c2, c3⟩ := hZ.cells
  have ha' : tmps[t]?.getD undef = .pointer (some ⟨p, 0, none⟩) := by simpa using ha
  have hs' : tmps[s]?.getD undef = v := by simpa using hs
  simp [results, h, ha', hs', go_sem, c0, c1, c2, c3]
theorem op_new (w : World) : OAt (w.alloc (.cells #[.int .u32 0, .int .u64 0, .slice none 0 0, .bool false] 38)) w.heap.size 0 0 none 0 0 false := heap_new rfl
variable {w : World} {p : Nat} {F : Nat → Prop} {fr : Nat} {N : Int} {P : List Pl.Op}
set_option maxRecDepth 100000 in
set_option maxHeartbeats 400000 in
theorem at_bad (h : PastAt w p F fr N P) (rev : Nat) (hv : rev ≤ 18446744073709551615) (E : Int) (hE : Pl.place fr P.length 1 rev = (0, E)) (hE0 : E ≠ 0) :
    Calls Try.prog 22 #[.pointer (some ⟨p, 0, none⟩), .int .u64 (rev : Int)] w fun e w' => e = .returned (.tuple #[.agg #[.int .u32 0, .int .u64 0, .slice none 0 0, .bool false], .int .i64 E]) ∧ Below w.heap.size w w' := by
  have HP := Lib.hid h
  have HEE := Lib.hid hE
  have HV := Lib.hid hv
  have HO := Lib.hid (op_new w)
  have hEb : (E != 0) = true := by simpa using hE0
  clear h hE hE0 hv
  go_enter Try.func22, Try.ntmps22
  go_wp2_with fail
  refine (places_any (some ⟨p, 0, none⟩) 1 _).mono ?_
  rintro e w1 ⟨⟨f, rfl, a, b, rfl, ha, hb⟩, hbl⟩
  have HB1 := Lib.hid (below_then (below_box _ _) hbl)
  have HO1 := Lib.hid (OAt.then_ HO.out hbl)
  have HC := Lib.hid (place_past (PastAt.then_ HP.out HB1.out) 1 rev (by decide) HV.out a b ha hb)
  rw [HEE.out] at HC
  clear ha hb hbl
  go_wp2_with fail
  refine HC.out.mono ?_
  rintro e w2 ⟨rfl, hb2⟩
  have HB2 := Lib.hid (below_then HB1.out hb2)
  have HO2 := Lib.hid (OAt.then_ HO1.out hb2)
  obtain ⟨d0, d1, d2, d3⟩ := HO2.out.cells
  have f2 := fun j => HO2.out.frozen j
  clear hb2
  go_wp2_with fail
  exact bodyPost_ret (results_pair rfl (by rfl) (by rfl) (HO2.out.sets 0 0 none 0 0 false)) rfl ⟨rfl, (tn_four w2 w.heap.size _ _ _ _).below HB2.out HB2.out.size (fun b hb => by rw [hb]; exact Nat.le_refl _)⟩
set_option maxRecDepth 100000 in
set_option maxHeartbeats 400000 in
theorem at_non {v : Option Addr} (h : NonAt w (.pointer v)) (rev : Nat) :
    Calls Try.prog 22 #[.pointer v, .int .u64 (rev : Int)] w fun e w' => e = .returned (.tuple #[.agg #[.int .u32 0, .int .u64 0, .slice none 0 0, .bool false], .int .i64 2]) ∧ Below w.heap.size w w' := by
  have HP := Lib.hid h
  have HO := Lib.hid (op_new w)
  clear h
  go_enter Try.func22, Try.ntmps22
  go_wp2_with fail
  refine (places_any v 1 _).mono ?_
  rintro e w1 ⟨⟨f, rfl, a, b, rfl, ha, hb⟩, hbl⟩
  have HB1 := Lib.hid (below_then (below_box _ _) hbl)
  have HO1 := Lib.hid (OAt.then_ HO.out hbl)
  have HC := Lib.hid (place_non (NonAt.then_ HP.out HB1.out) rev a b ha)
  clear ha hb hbl
  go_wp2_with fail
  refine HC.out.mono ?_
  rintro e w2 ⟨rfl, hb2⟩
  have HB2 := Lib.hid (below_then HB1.out hb2)
  have HO2 := Lib.hid (OAt.then_ HO1.out hb2)
  obtain ⟨d0, d1, d2, d3⟩ := HO2.out.cells
  have f2 := fun j => HO2.out.frozen j
  clear hb2
  go_wp2_with fail
  exact bodyPost_ret (results_pair rfl (by rfl) (by rfl) (HO2.out.sets 0 0 none 0 0 false)) rfl ⟨rfl, (tn_four w2 w.heap.size _ _ _ _).below HB2.out HB2.out.size (fun b hb => by rw [hb]; exact Nat.le_refl _)⟩
set_option maxRecDepth 100000 in
set_option maxHeartbeats 400000 in
theorem at_ok (h : PastAt w p F fr N P) (i rev : Nat) (hr : rev = fr + i) (h1 : 1 ≤ i) (hi : i ≤ P.length) (x y : Int) (l : List Un) (b : Bool) (ho : (⟨x, y, l, b⟩ : Pl.Op) = P.getD (i - 1) default) :
    Calls Try.prog 22 #[.pointer (some ⟨p, 0, none⟩), .int .u64 (rev : Int)] w fun e w' => ∃ A c, e = .returned (.tuple #[.agg #[.int .u32 x, .int .u64 y, .slice A l.length c, .bool b], .int .i64 0]) ∧ OwnU w' w.heap.size (.slice A l.length c) l ∧ Below w.heap.size w w' := by
  have hv : rev ≤ 18446744073709551615 := by have := h.fine.rev; omega
  have hcnt := h.fine.cnt
  have HSM := Lib.hid (h.fine.small (P.getD (i - 1) default) (by rw [List.getD_eq_getElem?_getD, List.getElem?_eq_getElem (by omega)]; exact List.getElem_mem _))
  have HP := Lib.hid h
  have HEE := Lib.hid (Pl.place_ok hr h1 hi)
  have HV := Lib.hid hv
  have HI := Lib.hid (show i - 1 < P.length by omega)
  have HO := Lib.hid (op_new w)
  have HOO := Lib.hid ho
  have HBI := Lib.hid (show i ≤ 256 by omega)
  have hw1 : wrap64 ((i : Int) - 1) = ((i - 1 : Nat) : Int) := by unfold wrap64; omega
  clear h hr hv hi ho hcnt
  go_enter Try.func22, Try.ntmps22
  go_wp2_with fail
  refine (places_any (some ⟨p, 0, none⟩) 1 _).mono ?_
  rintro e w1 ⟨⟨f, rfl, a, b', rfl, ha, hb⟩, hbl⟩
  have HB1 := Lib.hid (below_then (below_box _ _) hbl)
  have HO1 := Lib.hid (OAt.then_ HO.out hbl)
  have HC := Lib.hid (place_past (PastAt.then_ HP.out HB1.out) 1 rev (by decide) HV.out a b' ha hb)
  rw [HEE.out] at HC
  clear ha hb hbl
  go_wp2_with fail
  refine HC.out.mono ?_
  rintro e w2 ⟨rfl, hb2⟩
  have HB2 := Lib.hid (below_then HB1.out hb2)
  have HO2 := Lib.hid (OAt.then_ HO1.out hb2)
  obtain ⟨A, n, c, B, m, d, L, hP⟩ := PastAt.then_ HP.out HB2.out
  obtain ⟨c0, c2, c3⟩ := hP.cells
  have him : i - 1 < n := by rw [hP.n_len]; exact HI.out
  obtain ⟨g1, o1, rfl, hg1, _, hc1⟩ := hP.ops.at_ him
  obtain ⟨a0, a1, a2, a3⟩ := hc1 (i - 1) him
  have hU := hP.ops.getD_ him
  have hop := hP.getD_ HI.out
  obtain ⟨⟨x', y', A2, n2, c2', l', b2⟩, hq⟩ : ∃ o, o = L.getD (i - 1) default := ⟨_, rfl⟩
  rw [← hq] at a0 a1 a2 a3 hU hop
  simp only at a0 a1 a2 a3 hU
  have hop2 : (⟨x', y', l', b2⟩ : Pl.Op) = ⟨x, y, l, b⟩ := by rw [HOO.out]; exact hop
  have hsm := HSM.out
  rw [← HOO.out] at hsm
  simp only [Pl.Op.mk.injEq] at hop2
  obtain ⟨rfl, rfl, rfl, rfl⟩ := hop2
  have hl2 := hU.1.len
  have HOW := Lib.hid (ownOp_any x' y' A2 n2 c2' l' b2 w2 hU.1 (by rw [← hl2]; exact hsm))
  have z0 : (0 : Int) ≤ ((i - 1 : Nat) : Int) := Int.natCast_nonneg _
  have z1 : ((i - 1 : Nat) : Int) < (n : Int) := Int.ofNat_lt.2 him
  clear hb2 hP hc1 hU hop hq hsm hl2 hg1
  go_wp2_with fail
  refine HOW.out.mono ?_
  rintro e w3 ⟨A3, c3', rfl, ho3, hb3⟩
  have HB3 := Lib.hid (below_then HB2.out hb3)
  have HO3 := Lib.hid (OAt.then_ HO2.out hb3)
  have HRO := Lib.hid ho3
  have HS2 := Lib.hid (show w.heap.size < w2.heap.size from HO2.out.lt)
  obtain ⟨d0, d1, d2, d3⟩ := HO3.out.cells
  have f2 := fun j => HO3.out.frozen j
  clear hb3 ho3 a0 a1 a2 a3 c0 c2 c3
  go_wp2_with fail
  exact bodyPost_ret (results_pair rfl (by rfl) (by rfl) (HO3.out.sets x' y' A3 l'.length c3' b2)) rfl ⟨A3, c3', rfl, OwnR.lower (OwnR.tn HRO.out (tn_four w3 w.heap.size _ _ _ _) fun g hg e => by have := (OwnR.lt HRO.out g hg).1; have := HS2.out; omega) HB2.out.size, (tn_four w3 w.heap.size _ _ _ _).below HB3.out HB3.out.size (fun b hb => by rw [hb]; exact Nat.le_refl _)⟩
end Go.Proofs.Ytkgehgedbgogbaa
