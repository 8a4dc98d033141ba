/-
  past.Past's Undo: at a past, at a revision that is not there, at one that is undone, and at none. Conditions: those of a past; a revision of 64 bits.
-/
import Derived.Test.YtkgehgedbgogbaaPaV
namespace Go.Proofs.Ytkgehgedbgogbaa
open Go.RowKit
open Pl (Un)

variable {w : World} {p : Nat} {F : Nat → Prop} {fr : Nat} {N : Int} {P : List Pl.Op}
set_option maxRecDepth 100000 in
set_option maxHeartbeats 400000 in
theorem undo_bad (h : PastAt w p F fr N P) (rev : Nat) (hv : rev ≤ 18446744073709551615) (E : Int) (hE : Pl.place fr P.length 1 rev = (0, E)) (hE0 : E ≠ 0) :
    Calls Try.prog 20 #[.pointer (some ⟨p, 0, none⟩), .int .u64 (rev : Int)] w fun e w' => e = .returned (.int .i64 E) ∧ Below w.heap.size w w' := by
  have HP := Lib.hid h
  have HEE := Lib.hid hE
  have HV := Lib.hid hv
  have hEb : (E != 0) = true := by simpa using hE0
  clear h hE hE0 hv
  go_enter Try.func20, Try.ntmps20
  go_wp2_with fail
  refine (places_any (some ⟨p, 0, none⟩) 1 _).mono ?_
  rintro e w1 ⟨⟨f, rfl, a, b, rfl, ha, hb⟩, hbl⟩
  have HB1 := Lib.hid hbl
  have HC := Lib.hid (place_past (PastAt.then_ HP.out HB1.out) 1 rev (by decide) HV.out a b ha hb)
  rw [HEE.out] at HC
  clear ha hb hbl
  go_wp2_with fail
  refine HC.out.mono ?_
  rintro e w2 ⟨rfl, hb2⟩
  have HB2 := Lib.hid (below_then HB1.out hb2)
  clear hb2
  go_wp2_with fail
  go_ret
  exact ⟨rfl, HB2.out⟩
set_option maxRecDepth 100000 in
set_option maxHeartbeats 400000 in
theorem undo_non {v : Option Addr} (h : NonAt w (.pointer v)) (rev : Nat) :
    Calls Try.prog 20 #[.pointer v, .int .u64 (rev : Int)] w fun e w' => e = .returned (.int .i64 2) ∧ Below w.heap.size w w' := by
  have HP := Lib.hid h
  clear h
  go_enter Try.func20, Try.ntmps20
  go_wp2_with fail
  refine (places_any v 1 _).mono ?_
  rintro e w1 ⟨⟨f, rfl, a, b, rfl, ha, hb⟩, hbl⟩
  have HB1 := Lib.hid hbl
  have HC := Lib.hid (place_non (NonAt.then_ HP.out HB1.out) rev a b ha)
  clear ha hb hbl
  go_wp2_with fail
  refine HC.out.mono ?_
  rintro e w2 ⟨rfl, hb2⟩
  have HB2 := Lib.hid (below_then HB1.out hb2)
  clear hb2
  go_wp2_with fail
  go_ret
  exact ⟨rfl, HB2.out⟩
set_option maxRecDepth 100000 in
set_option maxHeartbeats 400000 in
theorem undo_done (h : PastAt w p F fr N P) (i rev : Nat) (hr : rev = fr + i) (h1 : 1 ≤ i) (hi : i ≤ P.length) (hd : (P.getD (i - 1) default).b = true) :
    Calls Try.prog 20 #[.pointer (some ⟨p, 0, none⟩), .int .u64 (rev : Int)] w fun e w' => e = .returned (.int .i64 34) ∧ Below w.heap.size w w' := by
  have hv : rev ≤ 18446744073709551615 := by have := h.fine.rev; omega
  have hcnt := h.fine.cnt
  have HP := Lib.hid h
  have HEE := Lib.hid (Pl.place_ok hr h1 hi)
  have HV := Lib.hid hv
  have HI := Lib.hid (show i - 1 < P.length by omega)
  have HD := Lib.hid hd
  have hw1 : wrap64 ((i : Int) - 1) = ((i - 1 : Nat) : Int) := by unfold wrap64; omega
  clear h hr hv hi hcnt hd
  go_enter Try.func20, Try.ntmps20
  go_wp2_with fail
  refine (places_any (some ⟨p, 0, none⟩) 1 _).mono ?_
  rintro e w1 ⟨⟨f, rfl, a, b', rfl, ha, hb⟩, hbl⟩
  have HB1 := Lib.hid hbl
  have HC := Lib.hid (place_past (PastAt.then_ HP.out HB1.out) 1 rev (by decide) HV.out a b' ha hb)
  rw [HEE.out] at HC
  clear ha hb hbl
  go_wp2_with fail
  refine HC.out.mono ?_
  rintro e w2 ⟨rfl, hb2⟩
  have HB2 := Lib.hid (below_then HB1.out hb2)
  obtain ⟨A, n, c, B, m, d, L, hP⟩ := PastAt.then_ HP.out HB2.out
  obtain ⟨c0, c2, c3⟩ := hP.cells
  have him : i - 1 < n := by rw [hP.n_len]; exact HI.out
  obtain ⟨g1, o1, rfl, hg1, _, hc1⟩ := hP.ops.at_ him
  obtain ⟨a0, a1, a2, a3⟩ := hc1 (i - 1) him
  have hop := hP.getD_ HI.out
  rw [show (L.getD (i - 1) default).b = true from (congrArg Pl.Op.b hop).trans HD.out] at a3
  have z0 : (0 : Int) ≤ ((i - 1 : Nat) : Int) := Int.natCast_nonneg _
  have z1 : ((i - 1 : Nat) : Int) < (n : Int) := Int.ofNat_lt.2 him
  clear hb2 hP hc1 hop hg1 a0 a1 a2
  go_wp2_with fail
  go_ret
  exact ⟨rfl, HB2.out⟩
/-- a past whose operations were laid anew, one of them undone -/
theorem PastW.undone {w3 : World} {A A3 : Option Addr} {n c c3 : Nat} {B : Option Addr} {m d : Nat} {L : List OpV} (h : PastW w p (fun b => F b ∧ b < w.heap.size) fr N P A n c B m d L) (hF : ∀ b, w.heap.size ≤ b → F b) (hb : Below w.heap.size w w3) (i : Nat) (hi : i < P.length)
    (ho : OwnR encO 4 38 w3 w.heap.size (.slice A3 L.length c3) L) (hp0 : ¬ F p) : ∃ g, A3 = some ⟨g, 0, none⟩ ∧ g ≠ p ∧ (∀ j, j < 4 → (w3.setCell ⟨p, 1, none⟩ (.slice A3 L.length c3)).cell? ⟨g, i * 4 + j, none⟩ = (encO (L.getD i default))[j]?) ∧ (∀ j, (w3.setCell ⟨p, 1, none⟩ (.slice A3 L.length c3)).frozen? ⟨g, j, none⟩ = false) ∧
    PastAt ((w3.setCell ⟨p, 1, none⟩ (.slice A3 L.length c3)).setCell ⟨g, i * 4 + 3, none⟩ (.bool true)) p F fr N (P.set i { P.getD i default with b := true }) ∧ Tn (fun b => b = p) w ((w3.setCell ⟨p, 1, none⟩ (.slice A3 L.length c3)).setCell ⟨g, i * 4 + 3, none⟩ (.bool true)) := by
  have hLl := h.len_L
  obtain ⟨g, rfl, hg0, hg1⟩ := OwnR.pos_ ho (by omega)
  have hpl := h.lt
  have hgp : g ≠ p := by omega
  have h3 := h.then_ hb
  obtain ⟨V, hV⟩ : ∃ V : Value, V = .slice (some ⟨g, 0, none⟩) L.length c3 := ⟨_, rfl⟩
  obtain ⟨W4, hW4⟩ : ∃ W4, W4 = w3.setCell ⟨p, 1, none⟩ (.slice (some ⟨g, 0, none⟩) L.length c3) := ⟨_, rfl⟩
  have ht4 : Tn (fun b => b = p) w3 W4 := by rw [hW4]; exact (Tn.refl (fun b => b = p) w3).set_ (p := ⟨p, 1, none⟩) (Or.inr rfl) _
  have hO : OwnO 38 W4 w.heap.size (fun b => F b ∧ b < w.heap.size) (.slice (some ⟨g, 0, none⟩) L.length c3) L := by
    refine ⟨OwnR.tn ho ht4 (fun g' e e2 => ?_), fun o ho => ((h3.ops.2.2 o ho).tn ht4 fun b hb e => h3.no (by rw [← e]; exact hb)), fun g' e hf => ?_⟩
    · cases e; exact hgp e2
    · cases e; exact absurd hf.2 (by simpa using hg0)
  have hblk4 : W4.heap[p]? = some (.cells #[.int .u64 (fr : Int), .slice (some ⟨g, 0, none⟩) L.length c3, .slice B m d] 58 (0, 0)) := by
    rw [hW4]; exact blk_set (i := 1) h3.blk _
  obtain ⟨hm1, hm2⟩ := hO.mark i (by omega) true
  have ht5 : Tn (fun b => b = g) W4 (W4.setCell ⟨g, i * 4 + 3, none⟩ (.bool true)) := (Tn.refl (fun b => b = g) W4).set_ (p := ⟨g, i * 4 + 3, none⟩) (Or.inr rfl) _
  rw [← hW4]
  have hcells : ∀ j, j < 4 → W4.cell? ⟨g, i * 4 + j, none⟩ = (encO (L.getD i default))[j]? := fun j hj => by
    have hr := (OwnR.rws encO_len hO.row).2
    obtain ⟨g', o', e', _, hc⟩ := Rws.at_ encO_len hr (i := i) (by omega)
    cases e'
    have hx : (encO (L.getD i default))[j]? = some ((encO (L.getD i default))[j]'(by rw [encO_len]; exact hj)) := List.getElem?_eq_getElem _
    rw [hx]
    have := hc i (by omega) j _ hj hx
    rwa [Nat.zero_add] at this
  refine ⟨g, rfl, hgp, hcells, fun j => ?_, ⟨some ⟨g, 0, none⟩, L.length, c3, B, m, d, L.set i { L.getD i default with b := true }, ⟨?_, ?_, ?_, ?_, ?_, hp0, ?_⟩⟩, ?_⟩
  · obtain ⟨_, h0⟩ := hO.row
    rcases h0 with ⟨e, _⟩ | ⟨g', cap, cur, e, _, hh, _⟩
    · cases e
    · cases e; exact frozen_of_row W4 g j _ _ hh
  · exact (blk_keep (a := ⟨g, i * 4 + 3, none⟩) (.bool true) (Ne.symm hgp)).trans hblk4
  · obtain ⟨hn, hr⟩ := hm1.rws
    refine ⟨hr, fun _ ad e => ?_, fun o ho => (hm1.uns o ho).more fun b hb => hb.1⟩
    cases e; exact hF g hg0
  · rw [List.map_set, h.eq]
    congr 1
    have := h.getD_ hi
    rw [← this]; rfl
  · rw [Pl.lens_set]
    refine Rws.tn (T := fun b => b = g) (Rws.tn (T := fun b => b = p) h3.len ht4 (h3.inB.apart fun b hb e => h3.no (by rw [← e]; exact hb))) ht5 (h3.inB.apart fun b hb e => ?_)
    have := hb.2; omega
  · exact h3.inB.more fun b hb => hb.1
  · exact ⟨by rw [List.length_set]; exact h.fine.cnt, by rw [List.length_set]; exact h.fine.rev, h.fine.small.set i true⟩
  · exact ((Tn.of (fun b => b = p) hb).trans ht4 (fun _ _ x => x)).trans ht5 (fun b hb e => by omega)
set_option maxRecDepth 100000 in
set_option maxHeartbeats 400000 in
theorem undo_ok (h : PastAt w p F fr N P) (hF : ∀ b, w.heap.size ≤ b → F b) (i rev : Nat) (hr : rev = fr + i) (h1 : 1 ≤ i) (hi : i ≤ P.length) (hd : (P.getD (i - 1) default).b = false) :
    Calls Try.prog 20 #[.pointer (some ⟨p, 0, none⟩), .int .u64 (rev : Int)] w fun e w' => e = .returned (.int .i64 0) ∧ PastAt w' p F fr N (P.set (i - 1) { P.getD (i - 1) default with b := true }) ∧ Tn (fun b => b = p) w w' := by
  have hv : rev ≤ 18446744073709551615 := by have := h.fine.rev; omega
  have hcnt := h.fine.cnt
  have HP := Lib.hid h
  have HEE := Lib.hid (Pl.place_ok hr h1 hi)
  have HV := Lib.hid hv
  have HI := Lib.hid (show i - 1 < P.length by omega)
  have HD := Lib.hid hd
  have HF := Lib.hid hF
  have HCN := Lib.hid hcnt
  have hw1 : wrap64 ((i : Int) - 1) = ((i - 1 : Nat) : Int) := by unfold wrap64; omega
  clear h hr hv hi hcnt hd hF
  go_enter Try.func20, Try.ntmps20
  go_wp2_with fail
  refine (places_any (some ⟨p, 0, none⟩) 1 _).mono ?_
  rintro e w1 ⟨⟨f, rfl, a, b', rfl, ha, hb⟩, hbl⟩
  have HB1 := Lib.hid hbl
  have HC := Lib.hid (place_past (PastAt.then_ HP.out HB1.out) 1 rev (by decide) HV.out a b' ha hb)
  rw [HEE.out] at HC
  clear ha hb hbl
  go_wp2_with fail
  refine HC.out.mono ?_
  rintro e w2 ⟨rfl, hb2⟩
  have HB2 := Lib.hid (below_then HB1.out hb2)
  obtain ⟨A, n, c, B, m, d, L, hP⟩ := (PastAt.then_ HP.out HB2.out).old
  obtain ⟨c0, c2, c3⟩ := hP.cells
  have him : i - 1 < n := by rw [hP.n_len]; exact HI.out
  obtain ⟨g1, o1, rfl, hg1, _, hc1⟩ := hP.ops.at_ him
  obtain ⟨a0, a1, a2, a3⟩ := hc1 (i - 1) him
  have hop := hP.getD_ HI.out
  rw [show (L.getD (i - 1) default).b = false from (congrArg Pl.Op.b hop).trans HD.out] at a3
  have z0 : (0 : Int) ≤ ((i - 1 : Nat) : Int) := Int.natCast_nonneg _
  have z1 : ((i - 1 : Nat) : Int) < (n : Int) := Int.ofNat_lt.2 him
  have HPW := Lib.hid hP
  have HCL := Lib.hid (cloneO_any (some ⟨g1, o1, none⟩) n c L w2 hP.ops.1 (by rw [hP.n_len]; have := HCN.out; omega))
  have hLn : L.length = n := hP.ops.1.len
  clear hb2 hP hc1 hop hg1 a0 a1 a2
  go_wp2_with fail
  refine HCL.out.mono ?_
  rintro e w3 ⟨A3, c3', rfl, ho3, hb3⟩
  obtain ⟨g, rfl, hgp, hcl, hfz, hpast, htn⟩ := HPW.out.undone (fun b hb => HF.out b (Nat.le_trans HB2.out.size hb)) hb3 (i - 1) HI.out ho3 (fun h => HP.out.no h)
  have HPA := Lib.hid hpast
  have HTN := Lib.hid (show Tn (fun b => b = p) w _ from (Tn.of (fun b => b = p) HB2.out).trans htn (fun _ _ x => x))
  have hP3 := HPW.out.then_ hb3
  obtain ⟨k0, k1, k2⟩ := hP3.cells
  have kf := fun j => hP3.frozen j
  have q3 := hcl 3 (by decide)
  rw [show (encO (L.getD (i - 1) default))[3]? = some (.bool (L.getD (i - 1) default).b) from rfl] at q3
  rw [hLn] at q3 hfz HPA HTN ho3 ⊢
  clear hcl hpast htn hP3 ho3 hb3 a3 c0 c2 c3
  go_wp2_with fail
  go_ret
  exact ⟨rfl, HPA.out, HTN.out⟩
end Go.Proofs.Ytkgehgedbgogbaa
