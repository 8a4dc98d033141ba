/-
  The walk of UndoAlone: whatever numbers and whatever row come in, it returns true; nothing that was there turned. Conditions: those that it states.
-/
import Derived.Test.YtlnekhkdncccgaaUnL
namespace Go.Proofs.Ytlnekhkdncccgaa
open Go.RowKit
open Pl (Un)

namespace undoAlone
/-- between one Ins and the next: the later row, in its cell -/
def LaR (W0 : World) (pb N M : Nat) (i : Value) (wr : World) : Prop :=
  ∃ (j : Nat) (A : Option Addr) (c : Nat), i = .int .i64 (j : Int) ∧ j ≤ M ∧ InCell wr pb (.slice A j c) ∧ OwnU wr W0.heap.size (.slice A j c) (Pl.lat N j) ∧ Tn (fun b => b = pb) W0 wr
/-- between one Pos and the next -/
def LbR (W : World) (base N M : Nat) (V : Value) (i : Value) (wr : World) : Prop :=
  ∃ j : Nat, i = .int .i64 (j : Int) ∧ j ≤ M ∧ OwnU wr base V (Pl.lat (N + 1) j ++ (Pl.lat N M).drop j) ∧ Tn (fun b => V.ownBlock = some b) W wr
/-- a text and no error -/
def TwC (cs : List Int) (v : Value) (w : World) : Prop := ∃ A c, v = .tuple #[.slice A cs.length c, .int .i64 0] ∧ Crs w w.heap.size A cs.length c cs
theorem TwC.stb (cs : List Int) : Rg.Stb (TwC cs) := fun _ _ _ ⟨A, c, e, h⟩ hb => ⟨A, c, e, h.then_ hb⟩
set_option maxRecDepth 100000 in
set_option maxHeartbeats 8000000 in
theorem walk (w : World) (n : Nat) (hn : n < 256) (B : Option Addr) (m d : Nat) (l : List Un) (hB : Units w w.heap.size B m d l) (mo : Nat) (hmo : mo < 256) :
    Calls Try.prog 6 #[.int .u8 (n : Int), .slice B m d, .int .u8 (mo : Int)] w fun e w' => e = .returned (.bool true) ∧ Below w.heap.size w w' := by
  obtain ⟨K, hK⟩ : ∃ K, K = n % 40 + 1 := ⟨_, rfl⟩
  have hK40 : K ≤ 40 := by omega
  have hk1 : (n : Int) % 40 + 1 = (K : Int) := by omega
  obtain ⟨M, hM⟩ : ∃ M, M = mo % 9 := ⟨_, rfl⟩
  have HM8 := Lib.hid (show M ≤ 8 by omega)
  have HMQ := Lib.hid (show (mo : Int) % 9 = (M : Int) by omega)
  have HK40 := Lib.hid hK40
  have B_0 := Lib.hid hB.1
  clear hB hK hK40 hM
  go_enter Try.func6, Try.ntmps6
  go_wp2_with fail
  clear hk1
  refine ((numbered_any K (by have := HK40.out; omega) w)).mono ?_
  rintro e w_1 ⟨A0, c0, rfl, ho, hb⟩
  have B_2 := Lib.hid (Rws.then_ B_0.out hb)
  have HB_3 := Lib.hid (hb)
  clear B_0
  obtain ⟨T, hT⟩ : ∃ T, T = Pl.numL K := ⟨_, rfl⟩
  rw [← hT] at ho
  have HT := Lib.hid hT
  have HTL := Lib.hid (show T.length = K by rw [hT]; exact Pl.num_len K)
  have T_4 := Lib.hid (ho.crs.2)
  clear hb ho hT
  go_wp2_with fail
  refine ((me_any w_1)).mono ?_
  rintro e w_5 ⟨rfl, hb⟩
  have B_6 := Lib.hid (Rws.then_ B_2.out hb)
  have T_7 := Lib.hid (Crs.then_ T_4.out hb)
  have HB_8 := Lib.hid (below_then' HB_3.out hb HB_3.out.size)
  clear B_2 T_4 HB_3
  clear hb
  go_wp2_with fail
  refine ((fit_any B m d l K 1 7 2000 w_5 B_6.out (by have := HK40.out; omega) (by omega))).mono ?_
  rintro e w_9 ⟨A1, c1, la, rfl, hla, ho, hbr, _, hb⟩
  clear B_6
  have T_10 := Lib.hid (Crs.then_ T_7.out hb)
  have HB_11 := Lib.hid (below_then' HB_8.out hb HB_8.out.size)
  clear T_7 HB_8
  have LA_12 := Lib.hid (ho)
  have HLA := Lib.hid (And.intro hla hbr)
  have hp := Pl.back_plain hbr hla HK40.out
  rw [← HT.out] at hp
  clear hb ho hla hbr
  obtain ⟨NA, hNA⟩ : ∃ k, k = (la).length := ⟨_, rfl⟩
  rw [← hNA] at LA_12 ⊢
  have HNA := Lib.hid hNA
  clear hNA
  obtain ⟨FA, hFA⟩ : ∃ x, x = Pl.fillL la T := ⟨_, rfl⟩
  rw [← hFA] at hp
  have HFA := Lib.hid hFA
  have HP := Lib.hid hp
  have HFL := Lib.hid (show FA.length = NA by rw [hp.2.1, HNA.out])
  have hna : NA ≤ 20 := by rw [HNA.out]; exact HLA.out.1
  have hk40 := HK40.out
  have hm8 := HM8.out
  clear hp hFA
  go_wp2_with fail
  refine ((fill_any A1 NA c1 la A0 K c0 T w_9 (OwnU.uns LA_12.out) T_10.out (by omega) (by omega) HP.out.1)).mono ?_
  rintro e w_13 ⟨A2, c2, rfl, ho, hb⟩
  rw [← HFA.out] at ho
  rw [← HNA.out] at ho ⊢
  clear LA_12
  have T_14 := Lib.hid (Crs.then_ T_10.out hb)
  have HB_15 := Lib.hid (below_then' HB_11.out hb HB_11.out.size)
  clear T_10 HB_11
  have A_16 := Lib.hid (ho)
  clear hb ho
  go_wp2_with fail
  refine ((applyR_fit A0 K c0 T A2 NA c2 FA w_13 T_14.out (OwnU.uns A_16.out) (by omega) (by omega) HP.out.2.2.1)).mono ?_
  rintro e w_17 ⟨A3, c3, rfl, ho, hb⟩
  obtain ⟨NW, hNW⟩ : ∃ x, x = Pl.leave FA T := ⟨_, rfl⟩
  have HAL := Lib.hid (Pl.alone (M := M) HP.out.2.2.1 HP.out.2.2.2 (by rw [HTL.out]; exact hk40) (by rw [HFL.out]; exact hna) hm8)
  rw [← hNW] at ho HAL ⊢
  have h60 : NW.length ≤ 60 := by have h := Pl.len_leave_le HP.out.2.2.1; rw [← hNW, HTL.out, HFL.out] at h; omega
  clear hNW
  obtain ⟨N3, hN3⟩ : ∃ k, k = (NW).length := ⟨_, rfl⟩
  rw [← hN3] at ho h60 ⊢
  have HN3 := Lib.hid hN3
  clear hN3
  rw [← HN3.out, HTL.out] at HAL
  have HOB := Lib.hid ho
  have HBB := Lib.hid hb
  obtain ⟨pb, hpb⟩ : ∃ pb, pb = w_17.heap.size := ⟨_, rfl⟩
  obtain ⟨W0, hW0⟩ : ∃ x, x = w_17.alloc (.cells #[.slice none 0 0] 23) := ⟨_, rfl⟩
  have hs0 : W0.heap.size = pb + 1 := by rw [hW0, hpb]; simp
  have hb0 : Below w_17.heap.size w_17 W0 := by rw [hW0]; exact below_box _ _
  have HI0 := Lib.hid (show InCell W0 pb (.slice none 0 0) by rw [hW0, hpb]; exact heap_new rfl)
  have HO0 := Lib.hid (OwnC.then_ ho hb0)
  have HB0 := Lib.hid (below_then' hb hb0 hb.size)
  have HLT0 := Lib.hid ho.lt
  have HPB0 := Lib.hid hpb
  have HSZ0 := Lib.hid hs0
  have HSA := Lib.hid (show w_13.heap.size ≤ pb by rw [hpb]; exact hb.size)
  have HW0 := Lib.hid hW0
  have HR1 := Lib.hid (show LaR W0 pb N3 M (.int .i64 ((0 : Nat) : Int)) W0 from ⟨0, none, 0, rfl, Nat.zero_le _, HI0.out, OwnR.nil_ _ _ _ _ _, Tn.refl _ _⟩)
  clear ho hb hpb hW0 hs0 hb0
  go_wp2_with fail
  rw [← HW0.out, ← HPB0.out, HMQ.out]
  clear HMQ hmo
  go_loopw [46] (fun i wr => LaR W0 pb N3 M i wr) (fun i _ => M - (intOf i).toNat)
  case atStart => exact HR1.out
  case round =>
    clear HR1
    obtain ⟨wr1, hwz⟩ : ∃ z, z = wr := ⟨_, rfl⟩
    subst hwz
    obtain ⟨j, AL, cL, rfl, hj, hi, ho, ht⟩ := hrel
    by_cases hlt : j < M
    · as_aux_lemma =>
        have hne : Value.ownBlock (.slice AL j cL) ≠ some pb := fun h => by have := (ho.lt _ h).1; have := HSZ0.out; omega
        have HNE := Lib.hid hne
        have HOL := Lib.hid (fun g hg => (ho.lt g hg).2)
        have HPB := Lib.hid hi.lt
        have HBS := Lib.hid ht.size
        have HT := Lib.hid ht
        have HOG := Lib.hid (fun g hg => (ho.lt g hg).1)
        have HJM := Lib.hid (show j ≤ 1000 by omega)
        obtain ⟨PP, hPP⟩ : ∃ x : Int, x = (N3 : Int) + (j : Int) := ⟨_, rfl⟩
        obtain ⟨CC, hCC⟩ : ∃ x : Int, x = 3000 + (j : Int) := ⟨_, rfl⟩
        have HS0 := Lib.hid (show LaS wr1 pb W0.heap.size (j + 1) (.slice AL j cL) (Pl.lat N3 j) ⟨1, PP, CC, 2, 1⟩ (fun _ => false) wr1.drew from
          ⟨(fun e => by cases e), (fun e => by cases e), (fun _ => hi), (fun _ => OwnR.then_ ho (below_drawn (Below.refl _ _))), (fun e => by cases e), (Tn.refl _ _).drew⟩)
        have HV1 := Lib.hid (show IntKind.i64.wrap ((N3 : Int) + (j : Int)) = PP by rw [IntKind.wrap_i64]; omega)
        have HV2 := Lib.hid (show IntKind.i64.wrap (3000 + (j : Int)) = CC by rw [IntKind.wrap_i64]; omega)
        have HV3 := Lib.hid (show IntKind.i32.wrap CC = CC by rw [IntKind.wrap_i32]; omega)
        have HU := Lib.hid (show Pl.lat N3 (j + 1) = Pl.lat N3 j ++ [⟨1, PP, CC, 2, 1⟩] by rw [Pl.lat_succ, hPP, hCC]; unfold Pl.latU; rw [Int.natCast_add])
        have z0 : (0 : Int) ≤ (j : Int) := Int.natCast_nonneg j
        have z1 : (j : Int) < (M : Int) := Int.ofNat_lt.2 hlt
        have HMS := Lib.hid (show M - (j + 1) < M - j by omega)
        have HJ1 := Lib.hid (show j + 1 ≤ M from hlt)
        clear hi ho ht hne hPP hCC
        go_wp2_with fail
        refine Rq.wp_region_inv (LaS wr1 pb W0.heap.size (j + 1) (.slice AL j cL) (Pl.lat N3 j) ⟨1, PP, CC, 2, 1⟩) (LaT pb (.slice AL j cL)) (Rq.Wd.at [.is (.slice AL j cL), .is (.slice A3 N3 c3), .is (.int .i64 (N3 : Int)), .is (.int .i64 (j : Int)), .is (.int .i64 PP), .is (.int .i64 (j : Int)), .is (.int .i64 CC), .is (.int .i32 CC), .is (.agg #[.int .u32 2, .int .u64 1]), .is (.agg #[.int .i64 1, .int .i64 PP, .int .i32 CC, .int .u32 2, .int .u64 1]), .pred (LaN pb (.slice AL j cL) ⟨1, PP, CC, 2, 1⟩), .pred (LaP pb W0.heap.size (j + 1) (Pl.lat N3 j) ⟨1, PP, CC, 2, 1⟩), .any]) (by kernel_rfl) (by kernel_rfl) (Rq.Wd.stays _ _ (fun i q hi k v w w' hk hp hr => (by rcases i with _ | _ | _ | _ | _ | _ | _ | _ | _ | _ | _ | _ | _ | i <;> simp at hi <;> subst hi; exact LaN.stay hp hr; exact LaP.stay hp (fun e => hk e.symm) hr))) HS0.out ⟨?_, ?_, ?_, ?_, ?_, ?_, ?_, ?_, ?_, ?_, ?_, ?_, ?_, trivial⟩ ?_
        · intro L a w1 hL hS hb hd
          have e11 := hb 11 (Rq.nw (by decide))
          simp [Act.eval] at e11
          exact Rq.does_pure (Rq.wanted_none rfl) (by simp [execOp, e11, (hS.old hL).cell, go_sem]) rfl (hS.stay (by decide) (by decide)) (LaT.refl _ _ _ _)
        · intro L a w1 hL hS hb hd
          have e9 := hb 9 (Rq.nw (by decide))
          simp [Act.eval] at e9
          exact Rq.does_pure (Rq.wanted_none rfl) (by simp [execOp, e9, go_sem]) rfl (hS.stay (by decide) (by decide)) (LaT.refl _ _ _ _)
        · intro L a w1 hL hS hb hd
          have p50 := (hd ⟨1, .data⟩ (by simp) rfl).2 _ _ rfl rfl
          have e50 : a.tmps[50]?.getD undef = (.slice A3 N3 c3) := Rq.slot p50
          exact Rq.does_pure (Rq.wanted_none rfl) (by simp [e50, go_sem]) rfl (hS.stay (by decide) (by decide)) (LaT.refl _ _ _ _)
        · intro L a w1 hL hS hb hd
          have e12 := hb 12 (Rq.nw (by decide))
          simp [Act.eval] at e12
          exact Rq.does_pure (Rq.wanted_none rfl) (by simp [execOp, e12, go_sem]) rfl (hS.stay (by decide) (by decide)) (LaT.refl _ _ _ _)
        · intro L a w1 hL hS hb hd
          have p51 := (hd ⟨2, .data⟩ (by simp) rfl).2 _ _ rfl rfl
          have e51 : a.tmps[51]?.getD undef = (.int .i64 (N3 : Int)) := Rq.slot p51
          have p52 := (hd ⟨3, .data⟩ (by simp) rfl).2 _ _ rfl rfl
          have e52 : a.tmps[52]?.getD undef = (.int .i64 (j : Int)) := Rq.slot p52
          exact Rq.does_pure (Rq.wanted_none rfl) (by simp [execOp, e51, e52, HV1.out, go_sem]) rfl (hS.stay (by decide) (by decide)) (LaT.refl _ _ _ _)
        · intro L a w1 hL hS hb hd
          have e12 := hb 12 (Rq.nw (by decide))
          simp [Act.eval] at e12
          exact Rq.does_pure (Rq.wanted_none rfl) (by simp [execOp, e12, go_sem]) rfl (hS.stay (by decide) (by decide)) (LaT.refl _ _ _ _)
        · intro L a w1 hL hS hb hd
          have p54 := (hd ⟨5, .data⟩ (by simp) rfl).2 _ _ rfl rfl
          have e54 : a.tmps[54]?.getD undef = (.int .i64 (j : Int)) := Rq.slot p54
          exact Rq.does_pure (Rq.wanted_none rfl) (by simp [execOp, e54, HV2.out, go_sem]) rfl (hS.stay (by decide) (by decide)) (LaT.refl _ _ _ _)
        · intro L a w1 hL hS hb hd
          have p55 := (hd ⟨6, .data⟩ (by simp) rfl).2 _ _ rfl rfl
          have e55 : a.tmps[55]?.getD undef = (.int .i64 CC) := Rq.slot p55
          exact Rq.does_pure (Rq.wanted_none rfl) (by simp [execOp, e55, HV3.out, go_sem]) rfl (hS.stay (by decide) (by decide)) (LaT.refl _ _ _ _)
        · intro L a w1 hL hS hb hd
          refine Rq.does_call (f := 24) (args := #[]) (Rq.wanted_none rfl) (by simp [go_sem]) ?_
          exact (you_any w1).mono fun e w3 ⟨h1, h2⟩ => ⟨_, h1, rfl, hS.next (by decide) (by decide) h2, LaT.bel (by decide) (by decide) h2⟩
        · intro L a w1 hL hS hb hd
          have p53 := (hd ⟨4, .data⟩ (by simp) rfl).2 _ _ rfl rfl
          have e53 : a.tmps[53]?.getD undef = (.int .i64 PP) := Rq.slot p53
          have p56 := (hd ⟨7, .data⟩ (by simp) rfl).2 _ _ rfl rfl
          have e56 : a.tmps[56]?.getD undef = (.int .i32 CC) := Rq.slot p56
          have p57 := (hd ⟨8, .data⟩ (by simp) rfl).2 _ _ rfl rfl
          have e57 : a.tmps[57]?.getD undef = (.agg #[.int .u32 2, .int .u64 1]) := Rq.slot p57
          exact Rq.does_pure (Rq.wanted_none rfl) (by simp [execOp, e53, e56, e57, go_sem]) rfl (hS.stay (by decide) (by decide)) (LaT.refl _ _ _ _)
        · intro L a w1 hL hS hb hd
          have p58 := (hd ⟨9, .data⟩ (by simp) rfl).2 _ _ rfl rfl
          have e58 : a.tmps[58]?.getD undef = (.agg #[.int .i64 1, .int .i64 PP, .int .i32 CC, .int .u32 2, .int .u64 1]) := Rq.slot p58
          have hpw := hS.tn.size; have hrow := OwnU.uns (unit_row w1 1 PP CC 2 1); have hF : LaN pb (.slice AL j cL) ⟨1, PP, CC, 2, 1⟩ (.slice (some ⟨w1.heap.size, 0, none⟩) 1 1) (w1.alloc (.cells #[.int .i64 1, .int .i64 PP, .int .i32 CC, .int .u32 2, .int .u64 1] 42)) := ⟨w1.heap.size, rfl, (fun e => by have := HPB.out; omega), (fun e => by have := HOL.out _ e; omega), hrow⟩; have hR := LaT.bel (pb := pb) (V := .slice AL j cL) (k := 10) (by decide) (by decide) (below_box w1 (.cells #[.int .i64 1, .int .i64 PP, .int .i32 CC, .int .u32 2, .int .u64 1] 42)); have hS2 := hS.next (i := 10) (by decide) (by decide) (below_box w1 (.cells #[.int .i64 1, .int .i64 PP, .int .i32 CC, .int .u32 2, .int .u64 1] 42)); exact Rq.does_run (x := .slice (some ⟨w1.heap.size, 0, none⟩) 1 1) (w' := (w1.alloc (.cells #[.int .i64 1, .int .i64 PP, .int .i32 CC, .int .u32 2, .int .u64 1] 42))) (Rq.wanted_none rfl) (build_unit 58 1 PP CC 2 1 a w1 _ rfl e58) hF hS2 hR
        · intro L a w1 hL hS hb hd
          have p49 := (hd ⟨0, .data⟩ (by simp) rfl).2 _ _ rfl rfl
          have e49 : a.tmps[49]?.getD undef = (.slice AL j cL) := Rq.slot p49
          have p59 := (hd ⟨10, .data⟩ (by simp) rfl).2 _ _ rfl rfl
          have h0 := (hd ⟨0, .data⟩ (by simp) rfl).1; have hpw := hS.tn.size; obtain ⟨v2, w2, hr, hp, ht⟩ := app_run _ hS hL p59 HNE.out (Nat.lt_of_lt_of_le HPB.out hpw) (Nat.le_trans HBS.out hpw) HJM.out; exact Rq.does_run (Rq.wanted_none rfl) (exec_appendU (.tmp 49) (.tmp 59) rfl p49 rfl hr) hp (hS.app hL h0 HNE.out ht) (by unfold LaT; rw [if_pos rfl]; exact ht)
        · intro L a w1 hL hS hb hd
          have e11 := hb 11 (Rq.nw (by decide))
          simp [Act.eval] at e11
          have p60 := (hd ⟨11, .data⟩ (by simp) rfl).2 _ _ rfl rfl
          have h11 := (hd ⟨11, .data⟩ (by simp) rfl).1; have hI := hS.2.2.1 hL; have hc := hI.cell; have hf : w1.frozen? ⟨pb, 0, none⟩ = false := frozen_of_row w1 pb 0 _ _ hI; obtain ⟨A9, c9, e60, hp2⟩ := p60; have e60' := Rq.slot e60; exact Rq.does_skip rfl (Rq.wanted_none rfl) (by simp [execOp, e11, e60', hc, hf, go_sem]) trivial (hS.laid h11 hL ⟨A9, c9, rfl, hp2⟩) (by unfold LaT; rw [if_neg (by decide), if_pos rfl]; exact (Tn.refl (fun b => b = pb) w1).set_ (p := ⟨pb, 0, none⟩) (Or.inr rfl) _)
        · intro L v w3 hS hall hv
          obtain ⟨A9, c9, hI9, hO9⟩ := hS.2.2.2.2.1 (hall 12 (by decide))
          have HI9 := Lib.hid hI9
          have HO9 := Lib.hid (show OwnU w3 W0.heap.size (.slice A9 (j + 1) c9) (Pl.lat N3 (j + 1)) by rw [HU.out]; exact hO9)
          have HT9 := Lib.hid (HT.out.trans hS.tn (fun b hb h => by
            rcases h with h | h
            · exact h
            · have := HOG.out b h; omega))
          clear hS hall hv hI9 hO9
          simp only [Rq.putAll, Nat.zero_add, Nat.reduceAdd]
          simp only [Act.put, List.setIfInBounds_toArray, List.set_cons_succ, List.set_cons_zero]
          go_wp2_with fail
          go_roundw
          case rel => exact ⟨j + 1, A9, c9, by go_num, HJ1.out, HI9.out, HO9.out, HT9.out⟩
          case measure => simp [intOf]; exact HMS.out
    · as_aux_lemma =>
        obtain rfl : M = j := by omega
        have hbT : Below w_13.heap.size w_13 wr1 := ht.below HB0.out HB0.out.size (fun b hb => by rw [hb]; exact HSA.out)
        have hno : OwnC wr1 w_13.heap.size (.slice A3 N3 c3) NW := OwnC.tn HO0.out ht (fun g hg h => by have := (HLT0.out g hg).2; have := HPB0.out; omega)
        have hbx := below_box wr1 (.cells #[.int .i32 900] 40)
        have HSV := Lib.hid (show Crs (World.alloc wr1 (.cells #[.int .i32 900] 40)) (World.alloc wr1 (.cells #[.int .i32 900] 40)).heap.size (some ⟨wr1.heap.size, 0, none⟩) 1 1 [900] from chars_row wr1 [900] (small_js (by simp)) (by simp [maxLen]))
        have HOV := Lib.hid (OwnC.then_ hno hbx)
        have HBV := Lib.hid (below_then hbT hbx)
        have hsz := HBV.out.size
        have HIV := Lib.hid (hi.tn (Tn.of (fun _ => False) hbx) (fun h => h))
        have HOL := Lib.hid (OwnR.then_ ho hbx)
        have HOG := Lib.hid ho.lt
        clear hi ho ht hbT hno hbx HI0 HO0
        go_wp2_with (at_builtin; refine wpList_append_crs (World.alloc wr1 (.cells #[.int .i32 900] 40)) rfl (.tmp 62) (.tmp 63) rfl w_13.heap.size A3 N3 c3 NW (by rfl) HOV.out _ (some ⟨wr1.heap.size, 0, none⟩) 1 1 [900] (by rfl) HSV.out (by omega) hsz ?_)
        intro A9 c9 w10 hO hg hat
        have hn2 : OwnC w10 w_13.heap.size (.slice A9 (N3 + 1) c9) (NW ++ [900]) := hO
        have hb10 := below_appendC HOV.out hg HBV.out hsz
        have ht10 : Tn (fun b => Value.ownBlock (.slice A3 N3 c3) = some b) (World.alloc wr1 (.cells #[.int .i32 900] 40)) w10 := (Tn.refl _ _).grown hg (fun k e => Or.inr e)
        have hi10 := HIV.out.tn ht10 (fun h => by have := (HLT0.out _ h).2; have := HPB0.out; omega)
        have ho10 := OwnR.tn HOL.out ht10 (fun g hg h => by have := (HLT0.out _ h).2; have := HPB0.out; have := (HOG.out g hg).1; have := HSZ0.out; omega)
        have HAT := Lib.hid (show ∀ g, Value.ownBlock (.slice A9 (N3 + 1) c9) = some g → Value.ownBlock (.slice AL M cL) ≠ some g from fun g h9 hL => by
          have := HOG.out g hL
          rcases hat with h | h
          · rw [h9] at h
            have := (HLT0.out g h.symm).2; have := HPB0.out; have := HSZ0.out; omega
          · rw [h9] at h
            have h2 : g = wr1.heap.size + 1 := (Option.some.inj h).trans (by simp)
            omega)
        have HN2 := Lib.hid hn2
        have HB10 := Lib.hid hb10
        have HI10 := Lib.hid hi10
        have hc10 := hi10.cell
        have HO10 := Lib.hid ho10
        have HPV := Lib.hid (show Value.ownBlock (.slice AL M cL) ≠ some pb from fun h => by have := (HOG.out _ h).1; have := HSZ0.out; omega)
        have HR2 := Lib.hid (show LbR w10 W0.heap.size N3 M (.slice AL M cL) (.int .i64 ((0 : Nat) : Int)) w10 from ⟨0, rfl, Nat.zero_le _, by rw [List.drop_zero]; exact ho10, Tn.refl _ _⟩)
        clear hO hg hat hn2 hb10 ht10 hi10 ho10 HSV HOV HBV HIV HOL hsz
        go_wp2_with fail
        clear hlt hj hc10
        go_loopw [67] (fun i wr => LbR w10 W0.heap.size N3 M (.slice AL M cL) i wr) (fun i _ => M - (intOf i).toNat)
        case atStart => exact HR2.out
        case round =>
          clear HR2
          obtain ⟨wr2, hwz⟩ : ∃ z, z = wr := ⟨_, rfl⟩
          subst hwz
          obtain ⟨j, rfl, hj, ho, ht⟩ := hrel
          have hin := HI10.out.tn ht (fun h => HPV.out h)
          have hcp := hin.cell
          by_cases hlt : j < M
          · as_aux_lemma =>
              obtain ⟨g, rfl, _⟩ := OwnR.pos_ ho (by omega)
              obtain ⟨d0, d1, d2, d3, d4, df⟩ := OwnU.cells ho hlt
              have hjl : j < (Pl.lat N3 M).length := by rw [Pl.lat_len]; exact hlt
              rw [list_at (Pl.lat_len (N3 + 1) j) j rfl, Pl.lat_getD N3 M j hlt] at d0 d1 d2 d3 d4
              have hget : (Pl.lat (N3 + 1) j ++ (Pl.lat N3 M).drop j)[j]? = some (Pl.latU N3 j) := by
                rw [getD_of_get (by rw [List.length_append, Pl.lat_len, List.length_drop]; omega), list_at (Pl.lat_len (N3 + 1) j) j rfl, Pl.lat_getD N3 M j hlt]
              obtain ⟨PP, hPP⟩ : ∃ x : Int, x = (Pl.latU N3 j).p := ⟨_, rfl⟩
              obtain ⟨QQ, hQQ⟩ : ∃ x : Int, x = (Pl.latU (N3 + 1) j).p := ⟨_, rfl⟩
              have hw1 : wrap64 (PP + 1) = QQ := by rw [hPP, hQQ]; unfold Pl.latU wrap64; simp only; omega
              rw [← hPP] at d1
              have h7 := (OwnR.set_ encU_len ho j 1 (.int .i64 QQ) (by decide) (Pl.latU N3 j) ⟨(Pl.latU N3 j).k, QQ, (Pl.latU N3 j).c, (Pl.latU N3 j).x, (Pl.latU N3 j).y⟩ hget rfl).1
              rw [show (⟨(Pl.latU N3 j).k, QQ, (Pl.latU N3 j).c, (Pl.latU N3 j).x, (Pl.latU N3 j).y⟩ : Un) = Pl.latU (N3 + 1) j by rw [hQQ]; rfl, list_set (Pl.lat_len (N3 + 1) j) hjl, ← Pl.lat_succ] at h7
              have HO7 := Lib.hid h7
              have HT7 := Lib.hid (ht.set_ (p := ⟨g, j * 5 + 1, none⟩) (Or.inr rfl) (.int .i64 QQ))
              have z0 : (0 : Int) ≤ (j : Int) := Int.natCast_nonneg j
              have z1 : (j : Int) < (M : Int) := Int.ofNat_lt.2 hlt
              have HMS := Lib.hid (show M - (j + 1) < M - j by omega)
              have HJ1 := Lib.hid (show j + 1 ≤ M from hlt)
              clear ho ht hin hget hPP hQQ h7 hjl
              go_wp2_with fail
              go_roundw
              case rel => exact ⟨j + 1, by go_num, HJ1.out, HO7.out, HT7.out⟩
              case measure => simp [intOf]; exact HMS.out
          · as_aux_lemma =>
              obtain rfl : M = j := by omega
              rw [List.drop_of_length_le (by rw [Pl.lat_len]; exact Nat.le_refl _), List.append_nil] at ho
              have hb : Below w_13.heap.size w_13 wr2 := ht.below HB10.out HB10.out.size (fun b hb => by have := (HOG.out b hb).1; have := HSZ0.out; have := HSA.out; omega)
              have hnn := (OwnC.tn HN2.out ht (fun g h9 hL => HAT.out g h9 hL)).crs.2
              have T_18 := Lib.hid (Crs.then_ T_14.out hb)
              have A_19 := Lib.hid (OwnR.then_ A_16.out hb)
              have HB_20 := Lib.hid (below_then' HB_15.out hb HB_15.out.size)
              clear T_14 A_16 HB_15
              have N_21 := Lib.hid (hnn)
              have LT_22 := Lib.hid (ho)
              have CL_23 := Lib.hid (hin)
              clear hb hnn ho hin ht HN2 HB10 HI10 HO10 HAT HPV HOG HB0 HLT0 HPB0 HSZ0 HSA HBB HOB
              go_wp2_with fail
              clear hcp hlt hj
              obtain ⟨N2, hN2⟩ : ∃ x, x = NW ++ [900] := ⟨_, rfl⟩
              obtain ⟨RT, hRT⟩ : ∃ x, x = T ++ [900] ++ Pl.latC M := ⟨_, rfl⟩
              obtain ⟨TB, hTB⟩ : ∃ x, x = T ++ [900] := ⟨_, rfl⟩
              obtain ⟨BK, hBK⟩ : ∃ x, x = Pl.cleanL (Pl.invR 1 7 FA) := ⟨_, rfl⟩
              obtain ⟨TH, hTH⟩ : ∃ x, x = N2 ++ Pl.latC M := ⟨_, rfl⟩
              have HAX := HAL.out
              rw [← hN2, ← hTH, ← hRT, ← hTB, ← hBK] at HAX
              obtain ⟨e1, e2, e3, e4, e5, e6, e7, e8, e9⟩ := HAX
              have HBK := Lib.hid e1
              have HBK2 := Lib.hid (show Pl.cleanL (Pl.pastR (Pl.invR 1 7 FA) (([] : List RowV).map RowV.l)) = BK from hBK.symm)
              have HFT0 := Lib.hid e2
              have HRT0 := Lib.hid e3
              have HFT1 := Lib.hid e4
              have HRT1 := Lib.hid e5
              have HFT2 := Lib.hid e6
              have HRT2 := Lib.hid e7
              have HFT3 := Lib.hid e8
              have HRT3 := Lib.hid e9
              have hbk : BK.length ≤ 20 := by
                rw [hBK]
                have h1 := Pl.len_clean (Pl.invR 1 7 FA)
                rw [Pl.inv_len, HFL.out] at h1; omega
              have hn5 : TH.length ≤ 100 := by rw [hTH, hN2, List.length_append, List.length_append, Pl.latC_len, ← HN3.out]; simp only [List.length_cons, List.length_nil]; omega
              have hk41' := hk40
              have HKT := Lib.hid (show TB.length = K + 1 by rw [hTB, List.length_append, HTL.out]; rfl)
              rw [← hN2] at N_21
              clear e1 e2 e3 e4 e5 e6 e7 e8 e9 hN2 hRT hTB hBK hTH
              refine ((applyR_fit A9 (N3 + 1) c9 N2 AL M cL _ wr2 N_21.out (OwnU.uns LT_22.out) (by omega) (by omega) HFT0.out)).mono ?_
              rintro e w_24 ⟨A5, c5, rfl, ho, hb⟩
              rw [HRT0.out] at ho ⊢
              obtain ⟨N5, hN5⟩ : ∃ k, k = (TH).length := ⟨_, rfl⟩
              rw [← hN5] at ho hn5 ⊢
              have HN5 := Lib.hid hN5
              clear hN5
              have T_25 := Lib.hid (Crs.then_ T_18.out hb)
              have A_26 := Lib.hid (OwnR.then_ A_19.out hb)
              have N_27 := Lib.hid (Crs.then_ N_21.out hb)
              have LT_28 := Lib.hid (OwnR.then_ LT_22.out hb)
              have CL_29 := Lib.hid (InCell.tn CL_23.out (Tn.of (fun _ => False) hb) (fun h => h))
              have HB_30 := Lib.hid (below_then' HB_20.out hb HB_20.out.size)
              clear T_18 A_19 N_21 LT_22 CL_23 HB_20
              have H_31 := Lib.hid (ho.crs.2)
              clear hb ho
              go_wp2_with fail
              obtain ⟨W9, hW9⟩ : ∃ x, x = w_24 := ⟨_, rfl⟩
              have THF := H_31.out
              have FAF := A_26.out
              have LTF := LT_28.out
              have CLF := CL_29.out
              rw [← hW9] at THF FAF LTF CLF ⊢
              have HW9 := Lib.hid hW9
              clear hW9
              refine Rg.wp_region_inv (fun w' => Below W9.heap.size W9 w') (Rg.Wd.at [.is (.slice A5 N5 c5), .is (.slice A2 NA c2), .is (.agg #[.int .u32 1, .int .u64 7]), .is (.slice AL M cL), .pred (RowsU [⟨AL, M, cL, Pl.lat (N3 + 1) M⟩]) RowsU.stb, .pred (RowU BK) RowU.stb, .pred (TwC RT) (TwC.stb RT), .pred (TwC RT) (TwC.stb RT), .pred (TxtIs RT) TxtIs.stb, .is (.int .i64 0), .pred (TxtIs RT) TxtIs.stb, .is (.int .i64 0)]) (by kernel_rfl) (by kernel_rfl) (Rg.Wd.stays _ _) (below_drawn (Below.refl _ _)) ⟨?_, ?_, ?_, ?_, ?_, ?_, ?_, ?_, ?_, ?_, ?_, ?_, trivial⟩ ?_
              · intro a w1 hS hb hd
                have e14 := hb 14 (Rg.nw (by decide))
                simp [Act.eval] at e14
                exact Rg.does_pure (Rg.wanted_none rfl) (by simp [execOp, e14, go_sem]) hS rfl
              · intro a w1 hS hb hd
                have e1 := hb 1 (Rg.nw (by decide))
                simp [Act.eval] at e1
                exact Rg.does_pure (Rg.wanted_none rfl) (by simp [execOp, e1, go_sem]) hS rfl
              · intro a w1 hS hb hd
                refine Rg.does_call (f := 13) (args := #[]) (Rg.wanted_none rfl) (by simp [go_sem]) ?_
                exact (me_any w1).mono fun e w3 ⟨h1, h2⟩ => ⟨_, h1, rfl, below_then hS h2, h2⟩
              · intro a w1 hS hb hd
                have e11 := hb 11 (Rg.nw (by decide))
                simp [Act.eval] at e11
                exact Rg.does_pure (Rg.wanted_none rfl) (by simp [execOp, e11, (InCell.tn CLF (Tn.of (fun _ => False) hS) (fun h => h)).cell, go_sem]) hS rfl
              · intro a w1 hS hb hd
                have e89 := hd ⟨3, .data⟩ (by simp) rfl _ _ rfl rfl
                have e89 : a.tmps[89]?.getD undef = (.slice AL M cL) := Rg.slot e89
                exact Rg.does_new (x := .slice (some ⟨w1.heap.size, 0, none⟩) 1 1) (ob := .cells #[.slice AL M cL] 23) (Rg.wanted_none rfl) (by simp [execOp, e89, go_sem]) (below_alloc hS _) ⟨_, _, rfl, rows_one w1 ⟨AL, M, cL, Pl.lat (N3 + 1) M⟩ (OwnU.uns (OwnR.then_ LTF hS)) (by simp only; omega)⟩
              · intro a w1 hS hb hd
                have e87 := hd ⟨1, .data⟩ (by simp) rfl _ _ rfl rfl
                have e87 : a.tmps[87]?.getD undef = (.slice A2 NA c2) := Rg.slot e87
                have e88 := hd ⟨2, .data⟩ (by simp) rfl _ _ rfl rfl
                have e88 : a.tmps[88]?.getD undef = (.agg #[.int .u32 1, .int .u64 7]) := Rg.slot e88
                have e90 := hd ⟨4, .data⟩ (by simp) rfl _ _ rfl rfl
                obtain ⟨B5, d5, eg, hr5⟩ := e90; have eh := Rg.slot eg; simp only [List.length_cons, List.length_nil, Nat.zero_add] at eh; have hp := back_any A2 NA c2 FA 1 7 B5 d5 [⟨AL, M, cL, Pl.lat (N3 + 1) M⟩] w1 (OwnU.uns (OwnR.then_ FAF hS)) hr5 (by omega) (by simp); rw [show Pl.cleanL (Pl.pastR (Pl.invR 1 7 FA) (([⟨AL, M, cL, Pl.lat (N3 + 1) M⟩] : List RowV).map RowV.l)) = BK from HBK.out] at hp; refine Rg.does_call (f := 15) (args := #[.slice A2 NA c2, .agg #[.int .u32 1, .int .u64 7], .slice B5 1 d5]) (Rg.wanted_none rfl) (by simp [e87, e88, eh, go_sem]) ?_; exact hp.mono fun e w3 ⟨A9, c9, h1, h3, h2⟩ => ⟨_, h1, ⟨A9, c9, rfl, OwnU.uns h3⟩, below_then hS h2, h2⟩
              · intro a w1 hS hb hd
                have e86 := hd ⟨0, .data⟩ (by simp) rfl _ _ rfl rfl
                have e86 : a.tmps[86]?.getD undef = (.slice A5 N5 c5) := Rg.slot e86
                have e91 := hd ⟨5, .data⟩ (by simp) rfl _ _ rfl rfl
                obtain ⟨B6, d6, eg, hr6⟩ := e91; have eh := Rg.slot eg; have hp := applyR_fit A5 N5 c5 TH B6 BK.length d6 BK w1 (THF.then_ hS) hr6 (by omega) (by omega) HFT1.out; rw [HRT1.out] at hp; refine Rg.does_call (f := 23) (args := #[.slice A5 N5 c5, .slice B6 BK.length d6]) (Rg.wanted_none rfl) (by simp [e86, eh, go_sem]) ?_; exact hp.mono fun e w3 ⟨A9, c9, h1, h3, h2⟩ => ⟨_, h1, ⟨A9, c9, rfl, h3.crs.2⟩, below_then hS h2, h2⟩
              · intro a w1 hS hb hd
                have e92 := hd ⟨6, .data⟩ (by simp) rfl _ _ rfl rfl
                obtain ⟨B7, d7, eg, hr7⟩ := e92; have eh := Rg.slot eg; exact Rg.does_pure (x := .tuple #[.slice B7 RT.length d7, .int .i64 0]) (Rg.wanted_none rfl) (by simp [execOp, eh, go_sem]) hS ⟨B7, d7, rfl, hr7⟩
              · intro a w1 hS hb hd
                have e85 := hd ⟨7, .data⟩ (by simp) rfl _ _ rfl rfl
                obtain ⟨B7, d7, eg, hr7⟩ := e85; have eh := Rg.slot eg; exact Rg.does_pure (x := .slice B7 RT.length d7) (Rg.wanted_none rfl) (by simp [execOp, eh, go_sem]) hS ⟨B7, d7, rfl, hr7⟩
              · intro a w1 hS hb hd
                have e85 := hd ⟨7, .data⟩ (by simp) rfl _ _ rfl rfl
                obtain ⟨B7, d7, eg, hr7⟩ := e85; have eh := Rg.slot eg; exact Rg.does_pure (Rg.wanted_none rfl) (by simp [execOp, eh, go_sem]) hS rfl
              · intro a w1 hS hb hd
                have e93 := hd ⟨8, .data⟩ (by simp) rfl _ _ rfl rfl
                obtain ⟨B7, d7, eg, hr7⟩ := e93; have eh := Rg.slot eg; exact Rg.does_pure (x := .slice B7 RT.length d7) (Rg.wanted_none rfl) (by simp [execOp, eh, go_sem]) hS ⟨B7, d7, rfl, hr7⟩
              · intro a w1 hS hb hd
                have e94 := hd ⟨9, .data⟩ (by simp) rfl _ _ rfl rfl
                have e94 : a.tmps[94]?.getD undef = (.int .i64 0) := Rg.slot e94
                exact Rg.does_pure (Rg.wanted_none rfl) (by simp [execOp, e94, go_sem]) hS rfl
              · intro v wq hS hv
                obtain ⟨A16, c16, e16, hcr⟩ := hv 10 _ _ rfl rfl
                have e17 : v 11 = .int .i64 0 := hv 11 _ _ rfl rfl
                clear hv
                simp only [Rg.putAll, Nat.zero_add, Nat.reduceAdd]
                simp only [Act.put, List.setIfInBounds_toArray, List.set_cons_succ, List.set_cons_zero]
                rw [e16, e17]
                have hb : Below w_24.heap.size w_24 wq := by rw [← HW9.out]; exact hS
                clear hS THF FAF LTF CLF e16 e17
                clear H_31
                have T_32 := Lib.hid (Crs.then_ T_25.out hb)
                have A_33 := Lib.hid (OwnR.then_ A_26.out hb)
                have N_34 := Lib.hid (Crs.then_ N_27.out hb)
                have LT_35 := Lib.hid (OwnR.then_ LT_28.out hb)
                have CL_36 := Lib.hid (InCell.tn CL_29.out (Tn.of (fun _ => False) hb) (fun h => h))
                have HB_37 := Lib.hid (below_then' HB_30.out hb HB_30.out.size)
                clear T_25 A_26 N_27 LT_28 CL_29 HB_30
                have AA_38 := Lib.hid (hcr)
                clear hb hcr HW9
                go_wp2_with fail
                refine ((me_any wq)).mono ?_
                rintro e w_39 ⟨rfl, hb⟩
                have T_40 := Lib.hid (Crs.then_ T_32.out hb)
                have A_41 := Lib.hid (OwnR.then_ A_33.out hb)
                have N_42 := Lib.hid (Crs.then_ N_34.out hb)
                have LT_43 := Lib.hid (OwnR.then_ LT_35.out hb)
                have CL_44 := Lib.hid (InCell.tn CL_36.out (Tn.of (fun _ => False) hb) (fun h => h))
                have AA_45 := Lib.hid (Crs.then_ AA_38.out hb)
                have HB_46 := Lib.hid (below_then' HB_37.out hb HB_37.out.size)
                clear T_32 A_33 N_34 LT_35 CL_36 AA_38 HB_37
                clear hb
                go_wp2_with fail
                refine ((back_any A2 NA c2 FA 1 7 none 0 [] w_39 (OwnU.uns A_41.out) (RowsV.none_ _ none) (by omega) (by simp))).mono ?_
                rintro e w_47 ⟨A6, c6, rfl, ho, hb⟩
                rw [HBK2.out] at ho ⊢
                obtain ⟨N6, hN6⟩ : ∃ k, k = BK.length := ⟨_, rfl⟩
                rw [← hN6] at ho ⊢
                have hn6 : N6 ≤ 20 := by rw [hN6]; exact hbk
                clear hN6
                have T_48 := Lib.hid (Crs.then_ T_40.out hb)
                have A_49 := Lib.hid (OwnR.then_ A_41.out hb)
                have N_50 := Lib.hid (Crs.then_ N_42.out hb)
                have LT_51 := Lib.hid (OwnR.then_ LT_43.out hb)
                have CL_52 := Lib.hid (InCell.tn CL_44.out (Tn.of (fun _ => False) hb) (fun h => h))
                have AA_53 := Lib.hid (Crs.then_ AA_45.out hb)
                have HB_54 := Lib.hid (below_then' HB_46.out hb HB_46.out.size)
                clear T_40 A_41 N_42 LT_43 CL_44 AA_45 HB_46
                have K_55 := Lib.hid (ho)
                clear hb ho
                go_wp2_with fail
                refine ((applyR_fit A9 (N3 + 1) c9 N2 A6 N6 c6 BK w_47 N_50.out (OwnU.uns K_55.out) (by omega) (by omega) HFT2.out)).mono ?_
                rintro e w_56 ⟨A8, c8, rfl, ho, hb⟩
                rw [HRT2.out, HKT.out] at ho ⊢
                obtain ⟨K1, hK1⟩ : ∃ k, k = K + 1 := ⟨_, rfl⟩
                have HK1 := Lib.hid hK1
                rw [← hK1] at ho ⊢
                have hk41 : K1 ≤ 41 := by omega
                clear hK1
                clear K_55
                have T_57 := Lib.hid (Crs.then_ T_48.out hb)
                have A_58 := Lib.hid (OwnR.then_ A_49.out hb)
                have N_59 := Lib.hid (Crs.then_ N_50.out hb)
                have LT_60 := Lib.hid (OwnR.then_ LT_51.out hb)
                have CL_61 := Lib.hid (InCell.tn CL_52.out (Tn.of (fun _ => False) hb) (fun h => h))
                have AA_62 := Lib.hid (Crs.then_ AA_53.out hb)
                have HB_63 := Lib.hid (below_then' HB_54.out hb HB_54.out.size)
                clear T_48 A_49 N_50 LT_51 CL_52 AA_53 HB_54
                have TB_64 := Lib.hid (ho.crs.2)
                clear hb ho
                obtain ⟨WP, hWP⟩ : ∃ x, x = w_56.alloc (.cells #[.slice A8 K1 c8] 22) := ⟨_, rfl⟩
                obtain ⟨pc, hpc⟩ : ∃ x, x = w_56.heap.size := ⟨_, rfl⟩
                have hb : Below w_56.heap.size w_56 WP := by rw [hWP]; exact below_box _ _
                have hi : InC WP pc (.slice A8 K1 c8) := by rw [hWP, hpc]; exact heap_new rfl
                have HWP := Lib.hid hWP
                have HPC := Lib.hid hpc
                clear hWP hpc
                have T_65 := Lib.hid (Crs.then_ T_57.out hb)
                have A_66 := Lib.hid (OwnR.then_ A_58.out hb)
                have N_67 := Lib.hid (Crs.then_ N_59.out hb)
                have LT_68 := Lib.hid (OwnR.then_ LT_60.out hb)
                have CL_69 := Lib.hid (InCell.tn CL_61.out (Tn.of (fun _ => False) hb) (fun h => h))
                have AA_70 := Lib.hid (Crs.then_ AA_62.out hb)
                have TB_71 := Lib.hid (Crs.then_ TB_64.out hb)
                have HB_72 := Lib.hid (below_then' HB_63.out hb HB_63.out.size)
                clear T_57 A_58 N_59 LT_60 CL_61 AA_62 TB_64 HB_63
                have CB_73 := Lib.hid (hi)
                clear hb hi
                go_wp2_with fail
                rw [← HWP.out, ← HPC.out]
                obtain ⟨W9, hW9⟩ : ∃ x, x = WP := ⟨_, rfl⟩
                have TBF := TB_71.out
                have LTF := LT_68.out
                have CLF := CL_69.out
                have CBF := CB_73.out
                rw [← hW9] at TBF LTF CLF CBF ⊢
                have HW9 := Lib.hid hW9
                clear hW9
                refine Rg.wp_region_inv (fun w' => Below W9.heap.size W9 w') (Rg.Wd.at [.is (.slice A8 K1 c8), .is (.func (.func 29) #[] #[.pointer (some ⟨pb, 0, none⟩), .pointer (some ⟨pc, 0, none⟩)]), .pred (RowU (Pl.lat K1 M)) RowU.stb, .pred (TwC RT) (TwC.stb RT), .pred (TwC RT) (TwC.stb RT), .pred (TxtIs RT) TxtIs.stb, .is (.int .i64 0), .pred (TxtIs RT) TxtIs.stb, .is (.int .i64 0)]) (by kernel_rfl) (by kernel_rfl) (Rg.Wd.stays _ _) (below_drawn (Below.refl _ _)) ⟨?_, ?_, ?_, ?_, ?_, ?_, ?_, ?_, ?_, trivial⟩ ?_
                · intro a w1 hS hb hd
                  have e18 := hb 18 (Rg.nw (by decide))
                  simp [Act.eval] at e18
                  exact Rg.does_pure (Rg.wanted_none rfl) (by simp [execOp, e18, (InC.tn CBF (Tn.of (fun _ => False) hS) (fun h => h)).cell, go_sem]) hS rfl
                · intro a w1 hS hb hd
                  have e11 := hb 11 (Rg.nw (by decide))
                  simp [Act.eval] at e11
                  have e18 := hb 18 (Rg.nw (by decide))
                  simp [Act.eval] at e18
                  exact Rg.does_pure (Rg.wanted_none rfl) (by simp [execOp, e11, e18, go_sem]) hS rfl
                · intro a w1 hS hb hd
                  have e105 := hd ⟨1, .data⟩ (by simp) rfl _ _ rfl rfl
                  have e105 : a.tmps[105]?.getD undef = (.func (.func 29) #[] #[.pointer (some ⟨pb, 0, none⟩), .pointer (some ⟨pc, 0, none⟩)]) := Rg.slot e105
                  have hp := closure_any (N3 + 1) K1 M AL cL A8 c8 pb pc w1 (InCell.tn CLF (Tn.of (fun _ => False) hS) (fun h => h)) (OwnU.uns (OwnR.then_ LTF hS)) (InC.tn CBF (Tn.of (fun _ => False) hS) (fun h => h)) (by omega) (by omega); refine Rg.does_call (f := 29) (args := #[.pointer (some ⟨pb, 0, none⟩), .pointer (some ⟨pc, 0, none⟩)]) (Rg.wanted_none rfl) (by simp [e105, go_sem]) ?_; exact hp.mono fun e w3 ⟨A9, c9, h1, h3, h2⟩ => ⟨_, h1, ⟨A9, c9, rfl, OwnU.uns h3⟩, below_then hS h2, h2⟩
                · intro a w1 hS hb hd
                  have e104 := hd ⟨0, .data⟩ (by simp) rfl _ _ rfl rfl
                  have e104 : a.tmps[104]?.getD undef = (.slice A8 K1 c8) := Rg.slot e104
                  have e106 := hd ⟨2, .data⟩ (by simp) rfl _ _ rfl rfl
                  obtain ⟨B6, d6, eg, hr6⟩ := e106; have eh := Rg.slot eg; rw [Pl.lat_len] at eh hr6; have hp := applyR_fit A8 K1 c8 TB B6 M d6 (Pl.lat K1 M) w1 (TBF.then_ hS) hr6 (by omega) (by omega) (by rw [HK1.out]; exact HFT3.out); rw [show Pl.leave (Pl.lat K1 M) TB = RT by rw [HK1.out]; exact HRT3.out] at hp; refine Rg.does_call (f := 23) (args := #[.slice A8 K1 c8, .slice B6 M d6]) (Rg.wanted_none rfl) (by simp [e104, eh, go_sem]) ?_; exact hp.mono fun e w3 ⟨A9, c9, h1, h3, h2⟩ => ⟨_, h1, ⟨A9, c9, rfl, h3.crs.2⟩, below_then hS h2, h2⟩
                · intro a w1 hS hb hd
                  have e107 := hd ⟨3, .data⟩ (by simp) rfl _ _ rfl rfl
                  obtain ⟨B7, d7, eg, hr7⟩ := e107; have eh := Rg.slot eg; exact Rg.does_pure (x := .tuple #[.slice B7 RT.length d7, .int .i64 0]) (Rg.wanted_none rfl) (by simp [execOp, eh, go_sem]) hS ⟨B7, d7, rfl, hr7⟩
                · intro a w1 hS hb hd
                  have e103 := hd ⟨4, .data⟩ (by simp) rfl _ _ rfl rfl
                  obtain ⟨B7, d7, eg, hr7⟩ := e103; have eh := Rg.slot eg; exact Rg.does_pure (x := .slice B7 RT.length d7) (Rg.wanted_none rfl) (by simp [execOp, eh, go_sem]) hS ⟨B7, d7, rfl, hr7⟩
                · intro a w1 hS hb hd
                  have e103 := hd ⟨4, .data⟩ (by simp) rfl _ _ rfl rfl
                  obtain ⟨B7, d7, eg, hr7⟩ := e103; have eh := Rg.slot eg; exact Rg.does_pure (Rg.wanted_none rfl) (by simp [execOp, eh, go_sem]) hS rfl
                · intro a w1 hS hb hd
                  have e108 := hd ⟨5, .data⟩ (by simp) rfl _ _ rfl rfl
                  obtain ⟨B7, d7, eg, hr7⟩ := e108; have eh := Rg.slot eg; exact Rg.does_pure (x := .slice B7 RT.length d7) (Rg.wanted_none rfl) (by simp [execOp, eh, go_sem]) hS ⟨B7, d7, rfl, hr7⟩
                · intro a w1 hS hb hd
                  have e109 := hd ⟨6, .data⟩ (by simp) rfl _ _ rfl rfl
                  have e109 : a.tmps[109]?.getD undef = (.int .i64 0) := Rg.slot e109
                  exact Rg.does_pure (Rg.wanted_none rfl) (by simp [execOp, e109, go_sem]) hS rfl
                · intro v wz hS hv
                  obtain ⟨A20, c20, e20, hcr⟩ := hv 7 _ _ rfl rfl
                  have e21 : v 8 = .int .i64 0 := hv 8 _ _ rfl rfl
                  clear hv
                  simp only [Rg.putAll, Nat.zero_add, Nat.reduceAdd]
                  simp only [Act.put, List.setIfInBounds_toArray, List.set_cons_succ, List.set_cons_zero]
                  rw [e20, e21]
                  have hb : Below WP.heap.size WP wz := by rw [← HW9.out]; exact hS
                  clear hS TBF LTF CLF CBF e20 e21
                  have T_74 := Lib.hid (Crs.then_ T_65.out hb)
                  have A_75 := Lib.hid (OwnR.then_ A_66.out hb)
                  have N_76 := Lib.hid (Crs.then_ N_67.out hb)
                  have LT_77 := Lib.hid (OwnR.then_ LT_68.out hb)
                  have CL_78 := Lib.hid (InCell.tn CL_69.out (Tn.of (fun _ => False) hb) (fun h => h))
                  have AA_79 := Lib.hid (Crs.then_ AA_70.out hb)
                  have TB_80 := Lib.hid (Crs.then_ TB_71.out hb)
                  have CB_81 := Lib.hid (InC.tn CB_73.out (Tn.of (fun _ => False) hb) (fun h => h))
                  have HB_82 := Lib.hid (below_then' HB_72.out hb HB_72.out.size)
                  clear T_65 A_66 N_67 LT_68 CL_69 AA_70 TB_71 CB_73 HB_72
                  have CC_83 := Lib.hid (hcr)
                  clear hb hcr HW9
                  go_wp2_with fail
                  refine ((awake_any wz)).mono ?_
                  rintro e w_84 ⟨rfl, hb⟩
                  have T_85 := Lib.hid (Crs.then_ T_74.out hb)
                  have A_86 := Lib.hid (OwnR.then_ A_75.out hb)
                  have N_87 := Lib.hid (Crs.then_ N_76.out hb)
                  have LT_88 := Lib.hid (OwnR.then_ LT_77.out hb)
                  have CL_89 := Lib.hid (InCell.tn CL_78.out (Tn.of (fun _ => False) hb) (fun h => h))
                  have AA_90 := Lib.hid (Crs.then_ AA_79.out hb)
                  have TB_91 := Lib.hid (Crs.then_ TB_80.out hb)
                  have CB_92 := Lib.hid (InC.tn CB_81.out (Tn.of (fun _ => False) hb) (fun h => h))
                  have CC_93 := Lib.hid (Crs.then_ CC_83.out hb)
                  have HB_94 := Lib.hid (below_then' HB_82.out hb HB_82.out.size)
                  clear T_74 A_75 N_76 LT_77 CL_78 AA_79 TB_80 CB_81 CC_83 HB_82
                  clear hb
                  go_wp2_with fail
                  have hq := equalC_any A16 A20 RT.length c16 RT.length c20 RT RT w_84 AA_90.out CC_93.out
                  rw [decide_eq_true rfl] at hq
                  refine (hq).mono ?_
                  rintro e w_95 ⟨rfl, hb⟩
                  have T_96 := Lib.hid (Crs.then_ T_85.out hb)
                  have A_97 := Lib.hid (OwnR.then_ A_86.out hb)
                  have N_98 := Lib.hid (Crs.then_ N_87.out hb)
                  have LT_99 := Lib.hid (OwnR.then_ LT_88.out hb)
                  have CL_100 := Lib.hid (InCell.tn CL_89.out (Tn.of (fun _ => False) hb) (fun h => h))
                  have AA_101 := Lib.hid (Crs.then_ AA_90.out hb)
                  have TB_102 := Lib.hid (Crs.then_ TB_91.out hb)
                  have CB_103 := Lib.hid (InC.tn CB_92.out (Tn.of (fun _ => False) hb) (fun h => h))
                  have CC_104 := Lib.hid (Crs.then_ CC_93.out hb)
                  have HB_105 := Lib.hid (below_then' HB_94.out hb HB_94.out.size)
                  clear T_85 A_86 N_87 LT_88 CL_89 AA_90 TB_91 CB_92 CC_93 HB_94
                  clear hb hq
                  go_wp2_with fail
                  go_ret
                  exact ⟨rfl, HB_105.out⟩
end undoAlone
end Go.Proofs.Ytlnekhkdncccgaa
