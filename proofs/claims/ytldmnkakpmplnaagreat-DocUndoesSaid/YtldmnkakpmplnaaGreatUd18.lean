/-
  past.Past's At: at a past, at a revision that is not there, and at none. Conditions: those of a past; a revision of 64 bits.
  past.Past's Undo: at a past, at a revision that is not there, at one that is undone, and at none. Conditions: those of a past; a revision of 64 bits.
  past.Past's Copy and Drop: at a past and at none. Conditions: those of a past.
  past.Past's Push where it is refused (units that do not fit, a full past, none). Conditions: those of a past; the units of at most 2^47 bytes; the last length at most 2^60.
-/
import Derived.Test.YtldmnkakpmplnaaGreatUd17
import Derived.Test.YtldmnkakpmplnaaGreatUd11
set_option maxRecDepth 100000
namespace Go.Proofs.YtldmnkakpmplnaaGreat
open Go.RowKit
open Pl (Un)
theorem results_pair {fn : Func} {t s : Tmp} {tmps : Array Value} {p : Nat} {Z : World} {x y : Int} {A : Option Addr} {n c : Nat} {b : Bool} {v : Value} (h : fn.results = #[.cell t 45, .tmp s]) (ha : tmps.getD t undef = .pointer (some ⟨p, 0, none⟩)) (hs : tmps.getD s undef = v) (hZ : OAt Z p x y A n c b) :
    (results fn tmps).run Tryz.prog Z = .ok (.tuple #[.agg #[.int .u32 x, .int .u64 y, .slice A n c, .bool b], v]) Z := by
  obtain ⟨c0, c1, c2, c3⟩ := hZ.cells
  have ha' : tmps[t]?.getD undef = .pointer (some ⟨p, 0, none⟩) := by simpa using ha
  have hs' : tmps[s]?.getD undef = v := by simpa using hs
  simp [results, h, ha', hs', go_sem, c0, c1, c2, c3]
theorem op_new (w : World) : OAt (w.alloc (.cells #[.int .u32 0, .int .u64 0, .slice none 0 0, .bool false] 45)) w.heap.size 0 0 none 0 0 false := heap_new rfl
variable {w : World} {p : Nat} {F : Nat → Prop} {fr : Nat} {N : Int} {P : List Pl.Op}
set_option maxHeartbeats 400000 in
theorem at_bad (h : PastAt w p F fr N P) (rev : Nat) (hv : rev ≤ 18446744073709551615) (E : Int) (hE : Pl.place fr P.length 1 rev = (0, E)) (hE0 : E ≠ 0) :
    Calls Tryz.prog 110 #[.pointer (some ⟨p, 0, none⟩), .int .u64 (rev : Int)] w fun e w' => e = .returned (.tuple #[.agg #[.int .u32 0, .int .u64 0, .slice none 0 0, .bool false], .int .i64 E]) ∧ Below w.heap.size w w' := by
  have HP := Lib.hid h
  have HEE := Lib.hid hE
  have HV := Lib.hid hv
  have HO := Lib.hid (op_new w)
  have hEb : (E != 0) = true := by simpa using hE0
  clear h hE hE0 hv
  go_enter Tryz.func110, Tryz.ntmps110
  go_wp2_with fail
  refine (places_any (some ⟨p, 0, none⟩) 1 _).mono ?_
  rintro e w1 ⟨⟨f, rfl, a, b, rfl, ha, hb⟩, hbl⟩
  have HB1 := Lib.hid (below_then (below_box _ _) hbl)
  have HO1 := Lib.hid (OAt.then_ HO.out hbl)
  have HC := Lib.hid (place_past (PastAt.then_ HP.out HB1.out) 1 rev (by decide) HV.out a b ha hb)
  rw [HEE.out] at HC
  clear ha hb hbl
  go_wp2_with fail
  refine HC.out.mono ?_
  rintro e w2 ⟨rfl, hb2⟩
  have HB2 := Lib.hid (below_then HB1.out hb2)
  have HO2 := Lib.hid (OAt.then_ HO1.out hb2)
  obtain ⟨d0, d1, d2, d3⟩ := HO2.out.cells
  have f2 := fun j => HO2.out.frozen j
  clear hb2
  go_wp2_with fail
  exact bodyPost_ret (results_pair rfl (by rfl) (by rfl) (HO2.out.sets 0 0 none 0 0 false)) rfl ⟨rfl, (tn_four w2 w.heap.size _ _ _ _).below HB2.out HB2.out.size (fun b hb => by rw [hb]; exact Nat.le_refl _)⟩
set_option maxHeartbeats 400000 in
theorem at_ok (h : PastAt w p F fr N P) (i rev : Nat) (hr : rev = fr + i) (h1 : 1 ≤ i) (hi : i ≤ P.length) (x y : Int) (l : List Un) (b : Bool) (ho : (⟨x, y, l, b⟩ : Pl.Op) = P.getD (i - 1) default) :
    Calls Tryz.prog 110 #[.pointer (some ⟨p, 0, none⟩), .int .u64 (rev : Int)] w fun e w' => ∃ A c, e = .returned (.tuple #[.agg #[.int .u32 x, .int .u64 y, .slice A l.length c, .bool b], .int .i64 0]) ∧ OwnU w' w.heap.size (.slice A l.length c) l ∧ Below w.heap.size w w' := by
  have hv : rev ≤ 18446744073709551615 := by have := h.fine.rev; omega
  have hcnt := h.fine.cnt
  have HSM := Lib.hid (h.fine.small (P.getD (i - 1) default) (by rw [List.getD_eq_getElem?_getD, List.getElem?_eq_getElem (by omega)]; exact List.getElem_mem _))
  have HP := Lib.hid h
  have HEE := Lib.hid (Pl.place_ok hr h1 hi)
  have HV := Lib.hid hv
  have HI := Lib.hid (show i - 1 < P.length by omega)
  have HO := Lib.hid (op_new w)
  have HOO := Lib.hid ho
  have HBI := Lib.hid (show i ≤ 256 by omega)
  have hw1 : wrap64 ((i : Int) - 1) = ((i - 1 : Nat) : Int) := by unfold wrap64; omega
  clear h hr hv hi ho hcnt
  go_enter Tryz.func110, Tryz.ntmps110
  go_wp2_with fail
  refine (places_any (some ⟨p, 0, none⟩) 1 _).mono ?_
  rintro e w1 ⟨⟨f, rfl, a, b', rfl, ha, hb⟩, hbl⟩
  have HB1 := Lib.hid (below_then (below_box _ _) hbl)
  have HO1 := Lib.hid (OAt.then_ HO.out hbl)
  have HC := Lib.hid (place_past (PastAt.then_ HP.out HB1.out) 1 rev (by decide) HV.out a b' ha hb)
  rw [HEE.out] at HC
  clear ha hb hbl
  go_wp2_with fail
  refine HC.out.mono ?_
  rintro e w2 ⟨rfl, hb2⟩
  have HB2 := Lib.hid (below_then HB1.out hb2)
  have HO2 := Lib.hid (OAt.then_ HO1.out hb2)
  obtain ⟨A, n, c, B, m, d, L, hP⟩ := PastAt.then_ HP.out HB2.out
  obtain ⟨c0, c2, c3⟩ := hP.cells
  have him : i - 1 < n := by rw [hP.n_len]; exact HI.out
  obtain ⟨g1, o1, rfl, hg1, _, hc1⟩ := hP.ops.at_ him
  obtain ⟨a0, a1, a2, a3⟩ := hc1 (i - 1) him
  have hU := hP.ops.getD_ him
  have hop := hP.getD_ HI.out
  obtain ⟨⟨x', y', A2, n2, c2', l', b2⟩, hq⟩ : ∃ o, o = L.getD (i - 1) default := ⟨_, rfl⟩
  rw [← hq] at a0 a1 a2 a3 hU hop
  simp only at a0 a1 a2 a3 hU
  have hop2 : (⟨x', y', l', b2⟩ : Pl.Op) = ⟨x, y, l, b⟩ := by rw [HOO.out]; exact hop
  have hsm := HSM.out
  rw [← HOO.out] at hsm
  simp only [Pl.Op.mk.injEq] at hop2
  obtain ⟨rfl, rfl, rfl, rfl⟩ := hop2
  have hl2 := hU.1.len
  have HOW := Lib.hid (ownOp_any x' y' A2 n2 c2' l' b2 w2 hU.1 (by rw [← hl2]; exact hsm))
  have z0 : (0 : Int) ≤ ((i - 1 : Nat) : Int) := Int.natCast_nonneg _
  have z1 : ((i - 1 : Nat) : Int) < (n : Int) := Int.ofNat_lt.2 him
  clear hb2 hP hc1 hU hop hq hsm hl2 hg1
  go_wp2_with fail
  refine HOW.out.mono ?_
  rintro e w3 ⟨A3, c3', rfl, ho3, hb3⟩
  have HB3 := Lib.hid (below_then HB2.out hb3)
  have HO3 := Lib.hid (OAt.then_ HO2.out hb3)
  have HRO := Lib.hid ho3
  have HS2 := Lib.hid (show w.heap.size < w2.heap.size from HO2.out.lt)
  obtain ⟨d0, d1, d2, d3⟩ := HO3.out.cells
  have f2 := fun j => HO3.out.frozen j
  clear hb3 ho3 a0 a1 a2 a3 c0 c2 c3
  go_wp2_with fail
  exact bodyPost_ret (results_pair rfl (by rfl) (by rfl) (HO3.out.sets x' y' A3 l'.length c3' b2)) rfl ⟨A3, c3', rfl, OwnR.lower (OwnR.tn HRO.out (tn_four w3 w.heap.size _ _ _ _) fun g hg e => by have := (OwnR.lt HRO.out g hg).1; have := HS2.out; omega) HB2.out.size, (tn_four w3 w.heap.size _ _ _ _).below HB3.out HB3.out.size (fun b hb => by rw [hb]; exact Nat.le_refl _)⟩
end Go.Proofs.YtldmnkakpmplnaaGreat
namespace Go.Proofs.YtldmnkakpmplnaaGreat
open Go.RowKit
open Pl (Un)
variable {w : World} {p : Nat} {F : Nat → Prop} {fr : Nat} {N : Int} {P : List Pl.Op}
set_option maxHeartbeats 400000 in
theorem undo_done (h : PastAt w p F fr N P) (i rev : Nat) (hr : rev = fr + i) (h1 : 1 ≤ i) (hi : i ≤ P.length) (hd : (P.getD (i - 1) default).b = true) :
    Calls Tryz.prog 111 #[.pointer (some ⟨p, 0, none⟩), .int .u64 (rev : Int)] w fun e w' => e = .returned (.int .i64 34) ∧ Below w.heap.size w w' := by
  have hv : rev ≤ 18446744073709551615 := by have := h.fine.rev; omega
  have hcnt := h.fine.cnt
  have HP := Lib.hid h
  have HEE := Lib.hid (Pl.place_ok hr h1 hi)
  have HV := Lib.hid hv
  have HI := Lib.hid (show i - 1 < P.length by omega)
  have HD := Lib.hid hd
  have hw1 : wrap64 ((i : Int) - 1) = ((i - 1 : Nat) : Int) := by unfold wrap64; omega
  clear h hr hv hi hcnt hd
  go_enter Tryz.func111, Tryz.ntmps111
  go_wp2_with fail
  refine (places_any (some ⟨p, 0, none⟩) 1 _).mono ?_
  rintro e w1 ⟨⟨f, rfl, a, b', rfl, ha, hb⟩, hbl⟩
  have HB1 := Lib.hid hbl
  have HC := Lib.hid (place_past (PastAt.then_ HP.out HB1.out) 1 rev (by decide) HV.out a b' ha hb)
  rw [HEE.out] at HC
  clear ha hb hbl
  go_wp2_with fail
  refine HC.out.mono ?_
  rintro e w2 ⟨rfl, hb2⟩
  have HB2 := Lib.hid (below_then HB1.out hb2)
  obtain ⟨A, n, c, B, m, d, L, hP⟩ := PastAt.then_ HP.out HB2.out
  obtain ⟨c0, c2, c3⟩ := hP.cells
  have him : i - 1 < n := by rw [hP.n_len]; exact HI.out
  obtain ⟨g1, o1, rfl, hg1, _, hc1⟩ := hP.ops.at_ him
  obtain ⟨a0, a1, a2, a3⟩ := hc1 (i - 1) him
  have hop := hP.getD_ HI.out
  rw [show (L.getD (i - 1) default).b = true from (congrArg Pl.Op.b hop).trans HD.out] at a3
  have z0 : (0 : Int) ≤ ((i - 1 : Nat) : Int) := Int.natCast_nonneg _
  have z1 : ((i - 1 : Nat) : Int) < (n : Int) := Int.ofNat_lt.2 him
  clear hb2 hP hc1 hop hg1 a0 a1 a2
  go_wp2_with fail
  go_ret
  exact ⟨rfl, HB2.out⟩
theorem PastW.undone {w3 : World} {A A3 : Option Addr} {n c c3 : Nat} {B : Option Addr} {m d : Nat} {L : List OpV} (h : PastW w p (fun b => F b ∧ b < w.heap.size) fr N P A n c B m d L) (hF : ∀ b, w.heap.size ≤ b → F b) (hb : Below w.heap.size w w3) (i : Nat) (hi : i < P.length)
    (ho : OwnR encO 4 45 w3 w.heap.size (.slice A3 L.length c3) L) (hp0 : ¬ F p) : ∃ g, A3 = some ⟨g, 0, none⟩ ∧ g ≠ p ∧ (∀ j, j < 4 → (w3.setCell ⟨p, 1, none⟩ (.slice A3 L.length c3)).cell? ⟨g, i * 4 + j, none⟩ = (encO (L.getD i default))[j]?) ∧ (∀ j, (w3.setCell ⟨p, 1, none⟩ (.slice A3 L.length c3)).frozen? ⟨g, j, none⟩ = false) ∧
    PastAt ((w3.setCell ⟨p, 1, none⟩ (.slice A3 L.length c3)).setCell ⟨g, i * 4 + 3, none⟩ (.bool true)) p F fr N (P.set i { P.getD i default with b := true }) ∧ Tn (fun b => b = p) w ((w3.setCell ⟨p, 1, none⟩ (.slice A3 L.length c3)).setCell ⟨g, i * 4 + 3, none⟩ (.bool true)) := by
  have hLl := h.len_L
  obtain ⟨g, rfl, hg0, hg1⟩ := OwnR.pos_ ho (by omega)
  have hpl := h.lt
  have hgp : g ≠ p := by omega
  have h3 := h.then_ hb
  obtain ⟨V, hV⟩ : ∃ V : Value, V = .slice (some ⟨g, 0, none⟩) L.length c3 := ⟨_, rfl⟩
  obtain ⟨W4, hW4⟩ : ∃ W4, W4 = w3.setCell ⟨p, 1, none⟩ (.slice (some ⟨g, 0, none⟩) L.length c3) := ⟨_, rfl⟩
  have ht4 : Tn (fun b => b = p) w3 W4 := by rw [hW4]; exact (Tn.refl (fun b => b = p) w3).set_ (p := ⟨p, 1, none⟩) (Or.inr rfl) _
  have hO : OwnO 45 W4 w.heap.size (fun b => F b ∧ b < w.heap.size) (.slice (some ⟨g, 0, none⟩) L.length c3) L := by
    refine ⟨OwnR.tn ho ht4 (fun g' e e2 => ?_), fun o ho => ((h3.ops.2.2 o ho).tn ht4 fun b hb e => h3.no (by rw [← e]; exact hb)), fun g' e hf => ?_⟩
    · cases e; exact hgp e2
    · cases e; exact absurd hf.2 (by simpa using hg0)
  have hblk4 : W4.heap[p]? = some (.cells #[.int .u64 (fr : Int), .slice (some ⟨g, 0, none⟩) L.length c3, .slice B m d] 176 (0, 0)) := by
    rw [hW4]; exact blk_set (i := 1) h3.blk _
  obtain ⟨hm1, hm2⟩ := hO.mark i (by omega) true
  have ht5 : Tn (fun b => b = g) W4 (W4.setCell ⟨g, i * 4 + 3, none⟩ (.bool true)) := (Tn.refl (fun b => b = g) W4).set_ (p := ⟨g, i * 4 + 3, none⟩) (Or.inr rfl) _
  rw [← hW4]
  have hcells : ∀ j, j < 4 → W4.cell? ⟨g, i * 4 + j, none⟩ = (encO (L.getD i default))[j]? := fun j hj => by
    have hr := (OwnR.rws encO_len hO.row).2
    obtain ⟨g', o', e', _, hc⟩ := Rws.at_ encO_len hr (i := i) (by omega)
    cases e'
    have hx : (encO (L.getD i default))[j]? = some ((encO (L.getD i default))[j]'(by rw [encO_len]; exact hj)) := List.getElem?_eq_getElem _
    rw [hx]
    have := hc i (by omega) j _ hj hx
    rwa [Nat.zero_add] at this
  refine ⟨g, rfl, hgp, hcells, fun j => ?_, ⟨some ⟨g, 0, none⟩, L.length, c3, B, m, d, L.set i { L.getD i default with b := true }, ⟨?_, ?_, ?_, ?_, ?_, hp0, ?_⟩⟩, ?_⟩
  · obtain ⟨_, h0⟩ := hO.row
    rcases h0 with ⟨e, _⟩ | ⟨g', cap, cur, e, _, hh, _⟩
    · cases e
    · cases e; exact frozen_of_row W4 g j _ _ hh
  · exact (blk_keep (a := ⟨g, i * 4 + 3, none⟩) (.bool true) (Ne.symm hgp)).trans hblk4
  · obtain ⟨hn, hr⟩ := hm1.rws
    refine ⟨hr, fun _ ad e => ?_, fun o ho => (hm1.uns o ho).more fun b hb => hb.1⟩
    cases e; exact hF g hg0
  · rw [List.map_set, h.eq]
    congr 1
    have := h.getD_ hi
    rw [← this]; rfl
  · rw [Pl.lens_set]
    refine Rws.tn (T := fun b => b = g) (Rws.tn (T := fun b => b = p) h3.len ht4 (h3.inB.apart fun b hb e => h3.no (by rw [← e]; exact hb))) ht5 (h3.inB.apart fun b hb e => ?_)
    have := hb.2; omega
  · exact h3.inB.more fun b hb => hb.1
  · exact ⟨by rw [List.length_set]; exact h.fine.cnt, by rw [List.length_set]; exact h.fine.rev, h.fine.small.set i true⟩
  · exact ((Tn.of (fun b => b = p) hb).trans ht4 (fun _ _ x => x)).trans ht5 (fun b hb e => by omega)
set_option maxHeartbeats 400000 in
theorem undo_ok (h : PastAt w p F fr N P) (hF : ∀ b, w.heap.size ≤ b → F b) (i rev : Nat) (hr : rev = fr + i) (h1 : 1 ≤ i) (hi : i ≤ P.length) (hd : (P.getD (i - 1) default).b = false) :
    Calls Tryz.prog 111 #[.pointer (some ⟨p, 0, none⟩), .int .u64 (rev : Int)] w fun e w' => e = .returned (.int .i64 0) ∧ PastAt w' p F fr N (P.set (i - 1) { P.getD (i - 1) default with b := true }) ∧ Tn (fun b => b = p) w w' := by
  have hv : rev ≤ 18446744073709551615 := by have := h.fine.rev; omega
  have hcnt := h.fine.cnt
  have HP := Lib.hid h
  have HEE := Lib.hid (Pl.place_ok hr h1 hi)
  have HV := Lib.hid hv
  have HI := Lib.hid (show i - 1 < P.length by omega)
  have HD := Lib.hid hd
  have HF := Lib.hid hF
  have HCN := Lib.hid hcnt
  have hw1 : wrap64 ((i : Int) - 1) = ((i - 1 : Nat) : Int) := by unfold wrap64; omega
  clear h hr hv hi hcnt hd hF
  go_enter Tryz.func111, Tryz.ntmps111
  go_wp2_with fail
  refine (places_any (some ⟨p, 0, none⟩) 1 _).mono ?_
  rintro e w1 ⟨⟨f, rfl, a, b', rfl, ha, hb⟩, hbl⟩
  have HB1 := Lib.hid hbl
  have HC := Lib.hid (place_past (PastAt.then_ HP.out HB1.out) 1 rev (by decide) HV.out a b' ha hb)
  rw [HEE.out] at HC
  clear ha hb hbl
  go_wp2_with fail
  refine HC.out.mono ?_
  rintro e w2 ⟨rfl, hb2⟩
  have HB2 := Lib.hid (below_then HB1.out hb2)
  obtain ⟨A, n, c, B, m, d, L, hP⟩ := (PastAt.then_ HP.out HB2.out).old
  obtain ⟨c0, c2, c3⟩ := hP.cells
  have him : i - 1 < n := by rw [hP.n_len]; exact HI.out
  obtain ⟨g1, o1, rfl, hg1, _, hc1⟩ := hP.ops.at_ him
  obtain ⟨a0, a1, a2, a3⟩ := hc1 (i - 1) him
  have hop := hP.getD_ HI.out
  rw [show (L.getD (i - 1) default).b = false from (congrArg Pl.Op.b hop).trans HD.out] at a3
  have z0 : (0 : Int) ≤ ((i - 1 : Nat) : Int) := Int.natCast_nonneg _
  have z1 : ((i - 1 : Nat) : Int) < (n : Int) := Int.ofNat_lt.2 him
  have HPW := Lib.hid hP
  have HCL := Lib.hid (cloneO_any (some ⟨g1, o1, none⟩) n c L w2 hP.ops.1 (by rw [hP.n_len]; have := HCN.out; omega))
  have hLn : L.length = n := hP.ops.1.len
  clear hb2 hP hc1 hop hg1 a0 a1 a2
  go_wp2_with fail
  refine HCL.out.mono ?_
  rintro e w3 ⟨A3, c3', rfl, ho3, hb3⟩
  obtain ⟨g, rfl, hgp, hcl, hfz, hpast, htn⟩ := HPW.out.undone (fun b hb => HF.out b (Nat.le_trans HB2.out.size hb)) hb3 (i - 1) HI.out ho3 (fun h => HP.out.no h)
  have HPA := Lib.hid hpast
  have HTN := Lib.hid (show Tn (fun b => b = p) w _ from (Tn.of (fun b => b = p) HB2.out).trans htn (fun _ _ x => x))
  have hP3 := HPW.out.then_ hb3
  obtain ⟨k0, k1, k2⟩ := hP3.cells
  have kf := fun j => hP3.frozen j
  have q3 := hcl 3 (by decide)
  rw [show (encO (L.getD (i - 1) default))[3]? = some (.bool (L.getD (i - 1) default).b) from rfl] at q3
  rw [hLn] at q3 hfz HPA HTN ho3 ⊢
  clear hcl hpast htn hP3 ho3 hb3 a3 c0 c2 c3
  go_wp2_with fail
  go_ret
  exact ⟨rfl, HPA.out, HTN.out⟩
end Go.Proofs.YtldmnkakpmplnaaGreat
namespace Go.Proofs.YtldmnkakpmplnaaGreat
open Go.RowKit
open Pl (Un)
def CpP (B fr : Nat) (N : Int) (P : List Pl.Op) (v : Value) (w : World) : Prop := ∃ q, v = .pointer (some ⟨q, 0, none⟩) ∧ B ≤ q ∧ PastAt w q (fun b => B ≤ b ∧ b ≠ q) fr N P
theorem CpP.new {w0 w : World} {fr : Nat} {N : Int} {P : List Pl.Op} {A A' : Option Addr} {c c' : Nat} (hS : Below w0.heap.size w0 w) (hf : Pl.Fine fr P) (ho : RowO w w0.heap.size (.slice A P.length c) P) (hl : OwnR encI 1 3 w w0.heap.size (.slice A' (Pl.lens N P).length c') (Pl.lens N P)) :
    CpP w0.heap.size fr N P (.pointer (some ⟨w.heap.size, 0, none⟩)) (w.alloc (.cells #[.int .u64 (fr : Int), .slice A P.length c, .slice A' (Pl.lens N P).length c'] 176)) := by
  have hb := below_box w (.cells #[.int .u64 (fr : Int), .slice A P.length c, .slice A' (Pl.lens N P).length c'] 176)
  obtain ⟨_, L, h1, h2⟩ := ho.ops
  have h3 := (OwnR.rws encI_len hl).2
  have h4 := h1.then_ hb
  have h0 := below_size hS
  refine ⟨w.heap.size, rfl, h0, A, P.length, c, A', (Pl.lens N P).length, c', L, heap_new rfl, ?_, h2, Rws.then_ h3 hb, fun h ad e => ?_, fun e => e.2 rfl, hf⟩
  · refine ⟨h4.1, fun h ad e => ⟨h1.2.1 h ad e, ?_⟩, fun o ho => ⟨(h4.2.2 o ho).1, fun h ad e => ⟨(h1.2.2 o ho).2 h ad e, ?_⟩⟩⟩
    · have := Rws.in_ h1.1 h ad e; omega
    · have := Rws.in_ (h1.2.2 o ho).1 h ad e; omega
  · subst e
    have := OwnR.lt hl _ rfl
    exact ⟨this.1, by omega⟩
variable {w : World} {p : Nat} {F : Nat → Prop} {fr : Nat} {N : Int} {P : List Pl.Op}
theorem Pl.Fine.drop {fr : Nat} {P : List Pl.Op} (h : Pl.Fine fr P) (k : Nat) (hk : k ≤ P.length) : Pl.Fine (fr + k) (P.drop k) :=
  ⟨by rw [List.length_drop]; have := h.cnt; omega, by rw [List.length_drop]; have := h.rev; omega, h.small.drop k⟩
end Go.Proofs.YtldmnkakpmplnaaGreat
namespace Go.Proofs.YtldmnkakpmplnaaGreat
open Go.RowKit
open Pl (Un)
variable {w : World} {p : Nat} {F : Nat → Prop} {fr : Nat} {N : Int} {P : List Pl.Op}
structure PuH (w V : World) (p : Nat) (F : Nat → Prop) (fr : Nat) (N : Int) (P : List Pl.Op) (x y : Int) (A : Option Addr) (n c : Nat) (l : List Un) (b : Bool) (gB oB m d k : Nat) (N1 ra rb : Int) : Prop where
  oa : OAt V w.heap.size x y A n c b
  bel : Below w.heap.size w V
  pa : PastAt V p F fr N P
  pw : ∃ A' n' c' L', PastW V p F fr N P A' n' c' (some ⟨gB, oB, none⟩) m d L'
  un : Uns V V.heap.size A n c l
  kk : k = P.length
  km : k < m
  n1 : N1 = N + Pl.total P
  cn : ∀ w1, Below V.heap.size V w1 → w1.cell? ⟨gB, oB + k, none⟩ = some (.int .i64 N1)
  lo : ∀ w1, Below V.heap.size V w1 → Calls Tryz.prog 79 #[.slice A n c, .int .i64 N1] w1 fun e w' => e = .returned (.tuple #[.int .i64 ra, .int .i64 rb]) ∧ Below w1.heap.size w1 w'
theorem PuH.make (h : PastAt w p F fr N P) (x y : Int) (A : Option Addr) (n c : Nat) (l : List Un) (b : Bool) (h1 : Uns w w.heap.size A n c l) (hn : n * 40 ≤ 140737488355328) (hN : N + Pl.total P ≤ 1152921504606846976) (ra rb : Int) (hl : Pl.longL l (N + Pl.total P) = (ra, rb)) :
    ∃ gB oB m d k N1, PuH w (w.alloc (.cells #[.int .u32 x, .int .u64 y, .slice A n c, .bool b] 45)) p F fr N P x y A n c l b gB oB m d k N1 ra rb := by
  obtain ⟨V, hV⟩ : ∃ V, V = w.alloc (.cells #[.int .u32 x, .int .u64 y, .slice A n c, .bool b] 45) := ⟨_, rfl⟩
  have hb : Below w.heap.size w V := by rw [hV]; exact below_box _ _
  have ho : OAt V w.heap.size x y A n c b := by rw [hV]; exact heap_new rfl
  rw [← hV]
  have hpa := h.then_ hb
  obtain ⟨A', n', c', B, m, d, L', hw⟩ := hpa
  have hm := hw.m_len
  obtain ⟨gB, oB, rfl, hg, hc⟩ := Rws.int_at hw.len (i := P.length) (by omega)
  refine ⟨gB, oB, m, d, P.length, N + Pl.total P, ⟨ho, hb, ⟨A', n', c', _, m, d, L', hw⟩, ⟨A', n', c', L', hw⟩, Rws.then_ h1 hb, rfl, by omega, rfl, fun w1 hb1 => ?_, fun w1 hb1 => ?_⟩⟩
  · have := hc P.length (by omega)
    rw [Pl.lens_at N P (Nat.le_refl _), List.take_length] at this
    exact (hb1.cell (p := ⟨gB, oB + P.length, none⟩) hg).trans this
  · have := long_big A n c l (N + Pl.total P) w1 (Rws.then_ (Rws.then_ h1 hb) hb1) (by omega) hN
    rwa [hl] at this
set_option maxHeartbeats 400000 in
theorem push_full (h : PastAt w p F fr N P) (x y : Int) (A : Option Addr) (n c : Nat) (l : List Un) (b : Bool) (h1 : Uns w w.heap.size A n c l) (hn : n * 40 ≤ 140737488355328) (hN : N + Pl.total P ≤ 1152921504606846976) (ra : Int) (hl : Pl.longL l (N + Pl.total P) = (ra, 0)) (hfull : fr + P.length = 1099511627776 ∨ P.length = 256) :
    Calls Tryz.prog 161 #[.pointer (some ⟨p, 0, none⟩), .agg #[.int .u32 x, .int .u64 y, .slice A n c, .bool b]] w fun e w' => e = .returned (.tuple #[.int .u64 0, .int .i64 7]) ∧ Below w.heap.size w w' := by
  obtain ⟨gB, oB, m, d, k, N1, hH⟩ := PuH.make h x y A n c l b h1 hn hN ra 0 hl
  obtain ⟨V, hV⟩ : ∃ V, V = w.alloc (.cells #[.int .u32 x, .int .u64 y, .slice A n c, .bool b] 45) := ⟨_, rfl⟩
  rw [← hV] at hH
  obtain ⟨A', n', c', L', hPW⟩ := hH.pw
  obtain ⟨rb, hrb⟩ : ∃ rb : Int, rb = 0 := ⟨_, rfl⟩
  rw [← hrb] at hH
  have HPW := Lib.hid hPW
  have HPA := Lib.hid hH.pa
  have HOA := Lib.hid hH.oa
  have HN := Lib.hid (none_past hH.pa)
  have HK := Lib.hid hH.kk
  have HCN := Lib.hid hH.cn
  have HLO := Lib.hid hH.lo
  have HBV := Lib.hid hH.bel
  have HRB := Lib.hid hrb
  have zk0 : (0 : Int) ≤ (k : Int) := Int.natCast_nonneg _
  have zk1 : (k : Int) < (m : Int) := Int.ofNat_lt.2 hH.km
  have HV := Lib.hid hV
  have HFU := Lib.hid hfull
  clear h h1 hn hN hl hfull hH hPW hV hrb
  go_enter Tryz.func161, Tryz.ntmps161
  go_wp2_with fail
  rw [← HV.out]
  refine HN.out.mono ?_
  rintro e w' ⟨rfl, hw⟩
  rw [hw]
  clear hw
  go_wp2_with fail
  refine Rg.wp_region_inv (Below V.heap.size V) (Rg.Wd.at [.is (.pointer (some ⟨w.heap.size, 2, none⟩)), .is (.slice A n c), .is (.pointer (some ⟨p, 0, none⟩)), .is (.pointer (some ⟨p, 0, none⟩)), .is (.pointer (some ⟨p, 2, none⟩)), .is (.slice (some ⟨gB, oB, none⟩) m d), .is (.pointer (some ⟨p, 0, none⟩)), .is (.int .i64 (k : Int)), .is (.pointer (some ⟨gB, oB + k, none⟩)), .is (.int .i64 N1), .is (.tuple #[.int .i64 ra, .int .i64 rb]), .is (.tuple #[.int .i64 ra, .int .i64 rb]), .is (.int .i64 ra), .is (.int .i64 rb), .is (.int .i64 ra), .is (.int .i64 rb)]) (by kernel_rfl) (by kernel_rfl) (Rg.Wd.stays _ _) ((below_drawn (Below.refl _ _))) ⟨?_, ?_, ?_, ?_, ?_, ?_, ?_, ?_, ?_, ?_, ?_, ?_, ?_, ?_, ?_, ?_, trivial⟩ ?_
  · intro a w1 hS hb hd
    have e3 := hb 3 (Rg.nw (by decide))
    simp [Act.eval] at e3
    exact Rg.does_pure (Rg.wanted_none rfl) (by simp [execOp, e3, go_sem]) hS rfl
  · intro a w1 hS hb hd
    have e11 := hd ⟨0, .data⟩ (by simp) rfl _ _ rfl rfl
    have e11 : a.tmps[11]?.getD undef = (.pointer (some ⟨w.heap.size, 2, none⟩)) := Rg.slot e11
    exact Rg.does_pure (Rg.wanted_none rfl) (by simp [execOp, e11, (HOA.out.then_ hS).cells.2.2.1, go_sem]) hS rfl
  · intro a w1 hS hb hd
    have e0 := hb 0 (Rg.nw (by decide))
    simp [Act.eval] at e0
    exact Rg.does_pure (Rg.wanted_none rfl) (by simp [execOp, e0, go_sem]) hS rfl
  · intro a w1 hS hb hd
    have e13 := hd ⟨2, .data⟩ (by simp) rfl _ _ rfl rfl
    have e13 : a.tmps[13]?.getD undef = (.pointer (some ⟨p, 0, none⟩)) := Rg.slot e13
    exact Rg.does_pure (Rg.wanted_none rfl) (by simp [execOp, e13, go_sem]) hS rfl
  · intro a w1 hS hb hd
    have e14 := hd ⟨3, .data⟩ (by simp) rfl _ _ rfl rfl
    have e14 : a.tmps[14]?.getD undef = (.pointer (some ⟨p, 0, none⟩)) := Rg.slot e14
    exact Rg.does_pure (Rg.wanted_none rfl) (by simp [execOp, e14, go_sem]) hS rfl
  · intro a w1 hS hb hd
    have e15 := hd ⟨4, .data⟩ (by simp) rfl _ _ rfl rfl
    have e15 : a.tmps[15]?.getD undef = (.pointer (some ⟨p, 2, none⟩)) := Rg.slot e15
    exact Rg.does_pure (Rg.wanted_none rfl) (by simp [execOp, e15, (HPW.out.then_ hS).cells.2.2, go_sem]) hS rfl
  · intro a w1 hS hb hd
    have e0 := hb 0 (Rg.nw (by decide))
    simp [Act.eval] at e0
    exact Rg.does_pure (Rg.wanted_none rfl) (by simp [execOp, e0, go_sem]) hS rfl
  · intro a w1 hS hb hd
    have e17 := hd ⟨6, .data⟩ (by simp) rfl _ _ rfl rfl
    have e17 : a.tmps[17]?.getD undef = (.pointer (some ⟨p, 0, none⟩)) := Rg.slot e17
    refine Rg.does_call (f := 160) (args := #[.pointer (some ⟨p, 0, none⟩)]) (Rg.wanted_none rfl) (by simp [e17, go_sem]) ?_
    refine (len_past (HPA.out.then_ hS)).mono ?_; rintro e w3 ⟨rfl, rfl⟩; exact ⟨_, rfl, by rw [HK.out]; rfl, hS, Below.refl _ _⟩
  · intro a w1 hS hb hd
    have e16 := hd ⟨5, .data⟩ (by simp) rfl _ _ rfl rfl
    have e16 : a.tmps[16]?.getD undef = (.slice (some ⟨gB, oB, none⟩) m d) := Rg.slot e16
    have e18 := hd ⟨7, .data⟩ (by simp) rfl _ _ rfl rfl
    have e18 : a.tmps[18]?.getD undef = (.int .i64 (k : Int)) := Rg.slot e18
    exact Rg.does_pure (Rg.wanted_none rfl) (by simp [execOp, e16, e18, zk0, zk1, go_sem]) hS rfl
  · intro a w1 hS hb hd
    have e19 := hd ⟨8, .data⟩ (by simp) rfl _ _ rfl rfl
    have e19 : a.tmps[19]?.getD undef = (.pointer (some ⟨gB, oB + k, none⟩)) := Rg.slot e19
    exact Rg.does_pure (Rg.wanted_none rfl) (by simp [execOp, e19, (HCN.out w1 hS), go_sem]) hS rfl
  · intro a w1 hS hb hd
    have e12 := hd ⟨1, .data⟩ (by simp) rfl _ _ rfl rfl
    have e12 : a.tmps[12]?.getD undef = (.slice A n c) := Rg.slot e12
    have e20 := hd ⟨9, .data⟩ (by simp) rfl _ _ rfl rfl
    have e20 : a.tmps[20]?.getD undef = (.int .i64 N1) := Rg.slot e20
    refine Rg.does_call (f := 79) (args := #[.slice A n c, .int .i64 N1]) (Rg.wanted_none rfl) (by simp [e12, e20, go_sem]) ?_
    refine (HLO.out w1 hS).mono ?_; rintro e w3 ⟨rfl, hb⟩; exact ⟨_, rfl, rfl, below_then hS hb, hb⟩
  · intro a w1 hS hb hd
    have e21 := hd ⟨10, .data⟩ (by simp) rfl _ _ rfl rfl
    have e21 : a.tmps[21]?.getD undef = (.tuple #[.int .i64 ra, .int .i64 rb]) := Rg.slot e21
    exact Rg.does_pure (Rg.wanted_none rfl) (by simp [execOp, e21, go_sem]) hS rfl
  · intro a w1 hS hb hd
    have e10 := hd ⟨11, .data⟩ (by simp) rfl _ _ rfl rfl
    have e10 : a.tmps[10]?.getD undef = (.tuple #[.int .i64 ra, .int .i64 rb]) := Rg.slot e10
    exact Rg.does_pure (Rg.wanted_none rfl) (by simp [execOp, e10, go_sem]) hS rfl
  · intro a w1 hS hb hd
    have e10 := hd ⟨11, .data⟩ (by simp) rfl _ _ rfl rfl
    have e10 : a.tmps[10]?.getD undef = (.tuple #[.int .i64 ra, .int .i64 rb]) := Rg.slot e10
    exact Rg.does_pure (Rg.wanted_none rfl) (by simp [execOp, e10, go_sem]) hS rfl
  · intro a w1 hS hb hd
    have e22 := hd ⟨12, .data⟩ (by simp) rfl _ _ rfl rfl
    have e22 : a.tmps[22]?.getD undef = (.int .i64 ra) := Rg.slot e22
    exact Rg.does_pure (Rg.wanted_none rfl) (by simp [execOp, e22, go_sem]) hS rfl
  · intro a w1 hS hb hd
    have e23 := hd ⟨13, .data⟩ (by simp) rfl _ _ rfl rfl
    have e23 : a.tmps[23]?.getD undef = (.int .i64 rb) := Rg.slot e23
    exact Rg.does_pure (Rg.wanted_none rfl) (by simp [execOp, e23, go_sem]) hS rfl
  · intro v w3 hS hv
    have v6 := hv 14 _ _ rfl rfl
    have v7 := hv 15 _ _ rfl rfl
    have HB := Lib.hid (below_then HBV.out hS)
    have HNW := Lib.hid (now_past (HPA.out.then_ hS))
    have HLE := Lib.hid (len_past (HPA.out.then_ hS))
    rw [← HK.out] at HNW HLE
    clear hS hv
    simp only [Rg.putAll, Nat.zero_add, Nat.reduceAdd]
    simp only [Act.put, List.setIfInBounds_toArray, List.set_cons_succ, List.set_cons_zero]
    rw [v6, v7, HRB.out]
    obtain ⟨nw, hnw⟩ : ∃ nw, nw = fr + k := ⟨_, rfl⟩
    rw [← hnw] at HNW
    have hfu := HFU.out
    rw [← HK.out, ← hnw] at hfu
    by_cases h1 : nw = 1099511627776
    · have z1 : ((nw : Int) == 1099511627776) = true := by rw [h1]; rfl
      clear hnw hfu h1
      go_wp2_with fail
      refine HNW.out.mono ?_
      rintro e w' ⟨rfl, hw⟩
      rw [hw]
      clear hw
      go_wp2_with fail
      go_returns
      exact ⟨rfl, HB.out⟩
    · have hk : k = 256 := by omega
      have z1 : ((nw : Int) == 1099511627776) = false := by simp; omega
      subst hk
      clear hnw hfu h1
      go_wp2_with fail
      refine HNW.out.mono ?_
      rintro e w' ⟨rfl, hw⟩
      rw [hw]
      clear hw
      go_wp2_with fail
      refine HLE.out.mono ?_
      rintro e w' ⟨rfl, hw⟩
      rw [hw]
      clear hw
      go_wp2_with fail
      go_returns
      exact ⟨rfl, HB.out⟩
end Go.Proofs.YtldmnkakpmplnaaGreat
