/-
  PastUndone's walk: an operation is undone once, none but it changes, a copy ahead of that has it not. Conditions: each operation's units are of at most 2^47 bytes.
-/
import Derived.Test.YtkgehgedbgogbaaPbD
import Derived.Deep.CutBlock
import Derived.Deep.DeepCutAuto
namespace Go.Proofs.Ytkgehgedbgogbaa
open Go.RowKit
open Pl (Un)

namespace Pl
/-- not undone -/
def plain (o : Op) : Op := { o with b := false }
theorem taken_mem (n : Int) (a : List Op) : ∀ o ∈ taken n a, o ∈ a := by
  refine snoc_ind (P := fun a => ∀ o ∈ taken n a, o ∈ a) (fun o h => by cases h) (fun a o ih x hx => ?_) a
  rw [taken_snoc] at hx
  rw [List.mem_append]
  split at hx
  · rcases List.mem_append.1 hx with hx | hx
    · exact Or.inl (ih x hx)
    · exact Or.inr hx
  · exact Or.inl (ih x hx)
theorem taken_plain (n : Int) (P : List Op) (j : Nat) : ∀ o ∈ taken n ((P.map plain).take j), o.b = false := fun o ho => by
  have h := List.mem_of_mem_take (taken_mem _ _ o ho)
  obtain ⟨x, _, rfl⟩ := List.mem_map.1 h
  rfl
theorem small_plain {P : List Op} (h : Small P) : Small (P.map plain) := fun o ho => by
  obtain ⟨x, hx, rfl⟩ := List.mem_map.1 ho
  exact h x hx
theorem plain_at (P : List Op) {j : Nat} (h : j < P.length) : (P.map plain).getD j default = plain (P.getD j default) := by
  rw [List.getD_eq_getElem?_getD, List.getD_eq_getElem?_getD, List.getElem?_map, List.getElem?_eq_getElem h]
  rfl
/-- one of them undone -/
def und (T : List Op) (i : Nat) : List Op := T.set i { T.getD i default with b := true }
theorem und_len (T : List Op) (i : Nat) : (und T i).length = T.length := by simp [und]
theorem und_at (T : List Op) (i t : Nat) (ht : t < T.length) (h : ∀ o ∈ T, o.b = false) : (und T i).getD t default = { T.getD t default with b := decide (t = i) } := by
  unfold und
  rw [List.getD_eq_getElem?_getD, List.getElem?_set]
  have hb : (T.getD t default).b = false := h _ (by rw [List.getD_eq_getElem?_getD, List.getElem?_eq_getElem ht]; exact List.getElem_mem _)
  by_cases e : i = t
  · subst e
    rw [if_pos rfl, if_pos ht, decide_eq_true rfl]
    rfl
  · rw [if_neg e, decide_eq_false (fun h => e h.symm), ← List.getD_eq_getElem?_getD]
    generalize T.getD t default = o at hb
    obtain ⟨x, y, l, b⟩ := o
    have hb2 : b = false := hb
    rw [hb2]
/-- half way: the first of them as the one row, the others as the other -/
def mixed (U T : List Op) (t : Nat) : List Op := U.take t ++ T.drop t
theorem mixed_at {U T : List Op} {t : Nat} (h : U.length = T.length) (ht : t < T.length) : (mixed U T t).getD t default = T.getD t default := by
  unfold mixed
  rw [List.getD_eq_getElem?_getD, List.getElem?_append_right (by rw [List.length_take]; omega), List.length_take, List.getElem?_drop, List.getD_eq_getElem?_getD]
  congr 2
  omega
theorem mixed_step {U T : List Op} {t : Nat} (h : U.length = T.length) (ht : t < T.length) (o : Op) (ho : o = U.getD t default) : (mixed U T t).set t o = mixed U T (t + 1) := by
  unfold mixed
  have e1 : U.take (t + 1) = U.take t ++ [o] := by
    rw [List.take_succ_eq_append_getElem (by omega), ho, List.getD_eq_getElem?_getD, List.getElem?_eq_getElem (by omega)]
    rfl
  have e2 : T.drop t = T.getD t default :: T.drop (t + 1) := by
    rw [List.drop_eq_getElem_cons ht, List.getD_eq_getElem?_getD, List.getElem?_eq_getElem ht]
    rfl
  rw [e1, e2, List.set_append_right _ _ (by rw [List.length_take]; omega), List.length_take, show t - min t U.length = 0 by omega, List.set_cons_zero, List.append_assoc]
  rfl
theorem mixed_at2 {U T : List Op} {t : Nat} (h : U.length = T.length) (ht : t < T.length) : (mixed U T (t + 1)).getD t default = U.getD t default := by
  unfold mixed
  rw [List.getD_eq_getElem?_getD, List.getElem?_append_left (by rw [List.length_take]; omega), List.getElem?_take, if_pos (Nat.lt_succ_self _), List.getD_eq_getElem?_getD]
theorem mixed_zero (U T : List Op) : mixed U T 0 = T := by simp [mixed]
end Pl
/-- between one Push and the next, each without its mark -/
def PushU (W : World) (p : Nat) (P : List Pl.Op) (i : Value) (wr : World) : Prop := ∃ j : Nat, i = .int .i64 (j : Int) ∧ j ≤ P.length ∧ j ≤ 40 ∧ PastAt wr p (fun b => b ≠ p) 0 100 (Pl.taken 100 ((P.map Pl.plain).take j)) ∧ Below W.heap.size W wr
/-- between one operation and the next of the second loop -/
def UnR (W : World) (B q gm M mc : Nat) (F : Nat → Prop) (T U : List Pl.Op) (lA : Option Addr) (lc : Nat) (Ll : List OpV) (i : Value) (wr : World) : Prop :=
  ∃ t : Nat, i = .int .i64 (t : Int) ∧ t ≤ M ∧ OpsF wr (fun b => b < B) lA M lc Ll ∧ (∃ L, OwnO 38 wr B F (.slice (some ⟨gm, 0, none⟩) M mc) L ∧ L.map OpV.op = Pl.mixed U T t) ∧ PastAt wr q (fun b => b < B ∧ b ≠ q) 0 100 T ∧ Below W.heap.size W wr
theorem OpsF.rowP {w : World} {F : Nat → Prop} {A : Option Addr} {n c : Nat} {L : List OpV} (h : OpsF w F A n c L) : RowP w A n c (L.map OpV.op) := ⟨L, h.more fun _ _ => trivial, rfl⟩
theorem OwnO.rowP {w : World} {B : Nat} {F : Nat → Prop} {A : Option Addr} {n c : Nat} {L : List OpV} (h : OwnO 38 w B F (.slice A n c) L) : RowP w A n c (L.map OpV.op) := ⟨L, ⟨h.rws.2, fun _ _ _ => trivial, fun o ho => (h.uns o ho).more fun _ _ => trivial⟩, rfl⟩
theorem OwnO.frozen {w : World} {B g : Nat} {F : Nat → Prop} {n c : Nat} {L : List OpV} (h : OwnO 38 w B F (.slice (some ⟨g, 0, none⟩) n c) L) (j : Nat) : w.frozen? ⟨g, j, none⟩ = false := by
  obtain ⟨_, h0⟩ := h.row
  rcases h0 with ⟨e, _⟩ | ⟨g', cap, cur, e, _, hh, _⟩
  · cases e
  · cases e; exact frozen_of_row w g j _ _ hh
/-- in what was there ahead of B -/
theorem OpsF.old {w : World} {F : Nat → Prop} {A : Option Addr} {n c : Nat} {L : List OpV} (h : OpsF w F A n c L) : OpsF w (fun b => b < w.heap.size) A n c L :=
  ⟨h.1, fun h0 ad e => Rws.in_ h.1 h0 ad e, fun o ho => ⟨(h.2.2 o ho).1, fun h0 ad e => Rws.in_ (h.2.2 o ho).1 h0 ad e⟩⟩
set_option maxRecDepth 100000 in
set_option maxHeartbeats 2000000 in
theorem pastUndone.walk (W : World) (A0 : Option Addr) (n0 c0 : Nat) (L : List OpV) (h : OpsF W (fun b => b < W.heap.size) A0 n0 c0 L) (hs : ∀ o ∈ L, (∀ u ∈ o.l, Pl.UnB u) ∧ o.c * 40 ≤ reachBytes ∧ Pl.IdB o.x o.y) (a8 : Nat) (ya : a8 < 256) :
    Calls Try.prog 4 #[.slice A0 n0 c0, .int .u8 (a8 : Int)] W fun e w' => e = .returned (.bool true) ∧ Below W.heap.size W w' := by
  obtain ⟨hrow, hsml⟩ := open_row h hs
  obtain ⟨P, hP⟩ : ∃ P, P = L.map OpV.op := ⟨_, rfl⟩
  rw [← hP] at hrow hsml
  have hcap := h.1.cap
  have hle := h.1.le
  unfold maxLen at hcap
  have HROW := Lib.hid hrow
  have HSML := Lib.hid hsml
  have HPL := Lib.hid hrow.len
  clear h hs hP hrow hsml
  go_enter Try.func4, Try.ntmps4
  go_wp2_with fail
  refine (show Calls Try.prog 7 #[.int .u64 0, .int .i64 100] W _ from new_any 0 100 W (by decide) (by decide)).mono ?_
  rintro e w1 ⟨rfl, hp1, hb1⟩
  obtain ⟨p, hp⟩ : ∃ p, p = W.heap.size + 1 := ⟨_, rfl⟩
  rw [← hp] at hp1 ⊢
  have HLE := Lib.hid (show W.heap.size ≤ p by omega)
  have HP1 := Lib.hid hp1
  have HB1 := Lib.hid hb1
  clear hp hp1 hb1
  go_upto_block 0 with fail
  go_cut [7] (fun _ wx => ∃ j : Nat, j ≤ 40 ∧ PastAt wx p (fun b => b ≠ p) 0 100 (Pl.taken 100 ((P.map Pl.plain).take j)) ∧ Below W.heap.size W wx)
  case first =>
    go_wp2_with fail
    go_loopw [7] (fun i wr => PushU W p P i wr) (fun i _ => 40 - (intOf i).toNat)
    case atStart => exact ⟨0, rfl, Nat.zero_le _, Nat.zero_le _, by rw [List.take_zero]; exact HP1.out, HB1.out⟩
    case round =>
      obtain ⟨j, rfl, hj, hj2, hpj, hbj⟩ := hrel
      have HPJ := Lib.hid hpj
      have HBJ := Lib.hid hbj
      rw [HPL.out] at hj
      clear hpj hbj
      by_cases hlt : j < n0
      · by_cases hlt2 : j < 40
        · obtain ⟨g, o, A2, n2, c2, rfl, hcl, hun⟩ := (HROW.out.then_ HBJ.out).at_ hlt
          obtain ⟨a0, a1, a2, a3⟩ := hcl wr (Below.refl _ _)
          have hjP : j < P.length := by rw [HPL.out]; exact hlt
          have hjP2 : j < (P.map Pl.plain).length := by rw [List.length_map]; exact hjP
          have hstep := Pl.taken_take 100 (P.map Pl.plain) hjP2
          rw [Pl.plain_at P hjP] at hstep
          have hsm := HSML.out (P.getD j default) (by rw [List.getD_eq_getElem?_getD, List.getElem?_eq_getElem hjP]; exact List.getElem_mem _)
          obtain ⟨⟨x, y, l, b⟩, hq⟩ : ∃ q, q = P.getD j default := ⟨_, rfl⟩
          rw [← hq] at a0 a1 a3 hun hstep hsm
          simp only at a0 a1 a3 hun hsm
          have htl := taken_le 100 (P.map Pl.plain) j
          have hbx := below_box wr (.cells #[.int .u32 x, .int .u64 y, .slice A2 n2 c2, .bool false] 38)
          have HPU := Lib.hid (push_any (HPJ.out.then_ hbx) x y A2 n2 c2 l false (Rws.then_ hun hbx) hsm (by decide) (by omega) (by omega))
          have HBX := Lib.hid (below_then HBJ.out hbx)
          have z0 : (0 : Int) ≤ (j : Int) := Int.natCast_nonneg _
          have z1 : (j : Int) < (n0 : Int) := Int.ofNat_lt.2 hlt
          have HST := Lib.hid (show _ = Pl.step 100 _ (⟨x, y, l, false⟩ : Pl.Op) from hstep)
          have HJ1 := Lib.hid (show j + 1 ≤ P.length from hjP)
          clear hcl hun hjP hjP2 hstep hsm hq htl hbx
          go_wp2_with fail
          refine HPU.out.mono ?_
          rintro e w2 ⟨r, E, rfl, hpu⟩
          have HP2 := Lib.hid (show PastAt w2 p (fun b => b ≠ p) 0 100 (Pl.taken 100 ((P.map Pl.plain).take (j + 1))) by rw [HST.out]; exact hpu.past)
          have HB2 := Lib.hid (tn_past HLE.out HBX.out hpu.tn)
          clear hpu a0 a1 a2 a3
          go_wp2_with fail
          go_roundw
          case rel => exact ⟨j + 1, by go_num, HJ1.out, hlt2, HP2.out, HB2.out⟩
          case measure => simp [intOf]; omega
        · go_wp2_with fail
          go_meet
          exact ⟨j, hj2, HPJ.out, HBJ.out⟩
      · go_wp2_with fail
        go_meet
        exact ⟨j, hj2, HPJ.out, HBJ.out⟩
  case rest =>
    obtain ⟨j, hj, hpj, hbj⟩ := hcut
    have hfal := Pl.taken_plain 100 P j
    obtain ⟨T, hT⟩ : ∃ T, T = Pl.taken 100 ((P.map Pl.plain).take j) := ⟨_, rfl⟩
    have hTl : T.length ≤ 40 := by rw [hT]; have := taken_le 100 (P.map Pl.plain) j; omega
    rw [← hT] at hpj hfal
    obtain ⟨M, hM⟩ : ∃ M, M = T.length := ⟨_, rfl⟩
    have hMb : M ≤ 40 := by rw [hM]; exact hTl
    have HPJ := Lib.hid hpj
    have HBJ := Lib.hid hbj
    have hln := len_past hpj
    rw [← hM] at hln
    have HLN := Lib.hid hln
    have HFA := Lib.hid hfal
    have HM := Lib.hid hM
    clear hpj hbj hj hT hTl hfal hln
    by_cases h0 : M = 0
    · have HU0 := Lib.hid (undo_bad HPJ.out 0 (by decide) 32 (by rw [← hM, h0]; decide) (by decide))
      have HT0 := Lib.hid (show T.length = 0 by rw [← hM]; exact h0)
      subst h0
      clear hM
      go_wp2_with fail
      refine HLN.out.mono ?_
      rintro e w2 ⟨rfl, hw⟩
      rw [hw]
      clear hw
      go_wp2_with fail
      refine (show Calls Try.prog 20 #[.pointer (some ⟨p, 0, none⟩), .int .u64 0] wc _ from HU0.out).mono ?_
      rintro e w3 ⟨rfl, hb3⟩
      have HB3 := Lib.hid (below_then HBJ.out hb3)
      have HU1 := Lib.hid (undo_bad (HPJ.out.then_ hb3) 1 (by decide) 31 (by rw [HT0.out]; decide) (by decide))
      clear hb3 HU0
      go_wp2_with fail
      refine (show Calls Try.prog 20 #[.pointer (some ⟨p, 0, none⟩), .int .u64 1] w3 _ from HU1.out).mono ?_
      rintro e w4 ⟨rfl, hb4⟩
      have HB4 := Lib.hid (below_then HB3.out hb4)
      clear hb4 HU1
      go_wp2_with fail
      refine (wakes_any _).mono ?_
      rintro e w5 ⟨rfl, hb5⟩
      have HB5 := Lib.hid (below_then HB4.out hb5)
      clear hb5
      go_wp2_with fail
      go_ret
      exact ⟨rfl, HB5.out⟩
    · obtain ⟨ia, hia⟩ : ∃ i, i = a8 % M := ⟨_, rfl⟩
      have hiaM : ia < M := by rw [hia]; exact Nat.mod_lt _ (by omega)
      have r1 : (a8 : Int).tmod (M : Int) = (ia : Int) := by rw [hia]; exact tmod_nat a8 M
      have r1b : (a8 : Int) % (M : Int) = (ia : Int) := by rw [hia]; exact (Int.natCast_emod a8 M).symm
      obtain ⟨rv, hrv⟩ : ∃ v, v = 1 + ia := ⟨_, rfl⟩
      have hM0 : ((M : Int) == 0) = false := by simp; exact h0
      have hia1 : 1 + ia - 1 = ia := by omega
      have hiT : 1 + ia ≤ T.length := by omega
      have hrv0 : rv = 0 + (1 + ia) := by omega
      have HRV := Lib.hid hrv0
      have HIT := Lib.hid hiT
      have HI1 := Lib.hid hia1
      have HIM := Lib.hid hiaM
      have HTF := Lib.hid (show (T.getD ia default).b = false from HFA.out _ (by rw [List.getD_eq_getElem?_getD, List.getElem?_eq_getElem (by omega)]; exact List.getElem_mem _))
      obtain ⟨U, hU⟩ : ∃ U, U = Pl.und T ia := ⟨_, rfl⟩
      have HU := Lib.hid hU
      have HUL := Lib.hid (show U.length = T.length by rw [hU, Pl.und_len])
      have HUT := Lib.hid (show (U.getD ia default).b = true by rw [hU, Pl.und_at T ia ia (by omega) HFA.out]; simp)
      have HMP := Lib.hid (show 0 < M by omega)
      have HRE := Lib.hid (show ∀ t : Nat, ((t : Int) + 1 == (rv : Int)) = decide (t = ia) from fun t => by
        rw [Bool.eq_iff_iff, beq_iff_eq, decide_eq_true_iff, hrv]; omega)
      have hc1 : IntKind.u64.wrap (ia : Int) = (ia : Int) := wrap_u64 (by omega) (by omega)
      have hc2 : IntKind.u64.wrap (1 + (ia : Int)) = (rv : Int) := by rw [wrap_u64 (by omega) (by omega)]; omega
      clear hia hiaM hrv hia1 hiT hrv0 hU hM
      go_wp2_with fail
      refine HLN.out.mono ?_
      rintro e w2 ⟨rfl, hw⟩
      rw [hw]
      clear hw
      go_wp2_with fail
      refine HLN.out.mono ?_
      rintro e w2 ⟨rfl, hw⟩
      rw [hw]
      clear hw
      go_wp2_with fail
      refine (copy_any HPJ.out).mono ?_
      rintro e w2 ⟨q, rfl, hq, hpq, hb2⟩
      have HP2 := Lib.hid (HPJ.out.then_ hb2)
      have HQ2 := Lib.hid hpq
      have HB2 := Lib.hid (below_then HBJ.out hb2)
      have HQP := Lib.hid (show p < wc.heap.size from HPJ.out.lt)
      have HQG := Lib.hid hq
      have hun := undo_ok HP2.out (past_new HP2.out) (1 + ia) rv HRV.out (Nat.le_add_right _ _) HIT.out (by rw [HI1.out]; exact HTF.out)
      rw [HI1.out] at hun
      have HUN := Lib.hid hun
      clear hq hpq hb2 hun hc1 hc2 r1 r1b
      go_wp2_with fail
      refine HUN.out.mono ?_
      rintro e w3 ⟨rfl, hp3, ht3⟩
      have HP3 := Lib.hid (show PastAt w3 p (fun b => b ≠ p) 0 100 U by rw [HU.out]; exact hp3)
      have HQ3 := Lib.hid (HQ2.out.tn ht3 (fun b hb e => by have := hb.1; have := HQP.out; omega) (fun e => by have := HQP.out; have := HQG.out; omega))
      have HB3 := Lib.hid (tn_past HLE.out HB2.out ht3)
      have HUD := Lib.hid (undo_done HP3.out (1 + ia) rv HRV.out (Nat.le_add_right _ _) (by rw [HUL.out]; exact HIT.out) (by rw [HI1.out]; exact HUT.out))
      clear hp3 ht3 HUN HP2 HQ2
      go_wp2_with fail
      refine HUD.out.mono ?_
      rintro e w4 ⟨rfl, hb4⟩
      have HP4 := Lib.hid (HP3.out.then_ hb4)
      have HQ4 := Lib.hid (HQ3.out.then_ hb4)
      have HB4 := Lib.hid (below_then HB3.out hb4)
      have hsi := since_ok HP4.out 0 0 rfl (Nat.zero_le _)
      rw [List.drop_zero, HUL.out, ← HM.out] at hsi
      have HSI := Lib.hid hsi
      clear hb4 HUD HP3 HQ3 hsi
      go_wp2_with fail
      refine (show Calls Try.prog 16 #[.pointer (some ⟨p, 0, none⟩), .int .u64 0] w4 _ from HSI.out).mono ?_
      rintro e w6 ⟨lA, lc, rfl, hl6, hb6⟩
      have HP6 := Lib.hid (HP4.out.then_ hb6)
      have HQ6 := Lib.hid (HQ4.out.then_ hb6)
      have HB6 := Lib.hid (below_then HB4.out hb6)
      obtain ⟨hzz, Ll, hl1, hl2⟩ := hl6.ops
      clear hzz
      have HL6 := Lib.hid hl1.old
      have HLM := Lib.hid hl2
      have hsi := since_ok HQ6.out 0 0 rfl (Nat.zero_le _)
      rw [List.drop_zero, ← HM.out] at hsi
      have HSQ := Lib.hid hsi
      have HQL6 := Lib.hid HQ6.out.lt
      clear hl6 hb6 hsi HSI HP4 HQ4 hl1 hl2
      go_wp2_with fail
      refine (show Calls Try.prog 16 #[.pointer (some ⟨q, 0, none⟩), .int .u64 0] w6 _ from HSQ.out).mono ?_
      rintro e w7 ⟨mA, mc, rfl, hm7, hb7⟩
      have HP7 := Lib.hid (HP6.out.then_ hb7)
      have HQ7 := Lib.hid (show PastAt w7 q (fun b => b < w6.heap.size ∧ b ≠ q) 0 100 T from (HQ6.out.old.then_ hb7).more (fun b hb => ⟨hb.2, hb.1.2⟩) (fun e => e.2 rfl))
      have HB7 := Lib.hid (below_then HB6.out hb7)
      have HL7 := Lib.hid (HL6.out.then_ hb7)
      obtain ⟨F, Lm, hm1, hm2, hm3⟩ := hm7
      obtain ⟨gm, rfl, hgm, _⟩ := OwnR.pos_ hm1.row HMP.out
      have HM1 := Lib.hid hm1
      have HM2 := Lib.hid (show ∀ b, F b → w6.heap.size ≤ b from fun b hb => (hm2 b hb).1)
      have HM3 := Lib.hid hm3
      have HGM := Lib.hid hgm
      have hln2 := len_past HP7.out
      rw [HUL.out, ← HM.out] at hln2
      have HLN2 := Lib.hid hln2
      clear hb7 hm1 hm2 hm3 hgm hln2 HSQ HP6 HQ6 HL6
      go_wp2_with fail
      refine HLN2.out.mono ?_
      rintro e w8 ⟨rfl, hw⟩
      rw [hw]
      clear hw
      go_wp2_with fail
      go_loopw [17] (fun i wr => UnR W w6.heap.size q gm M mc F T U lA lc Ll i wr) (fun i _ => M - (intOf i).toNat)
      case atStart => exact ⟨0, rfl, Nat.zero_le _, HL7.out, ⟨Lm, HM1.out, by rw [Pl.mixed_zero]; exact HM3.out⟩, HQ7.out, HB7.out⟩
      case round =>
        obtain ⟨t, rfl, ht, hlr, ⟨Lt, hmr, hmm⟩, hqr, hbr⟩ := hrel
        have HLR := Lib.hid hlr
        have HMR := Lib.hid hmr
        have HMM := Lib.hid hmm
        have HQR := Lib.hid hqr
        have HBR := Lib.hid hbr
        clear hlr hmr hmm hqr hbr
        by_cases hlt : t < M
        · have htT : t < T.length := by rw [← HM.out]; exact hlt
          have hbb := Pl.und_at T ia t htT HFA.out
          rw [← HU.out] at hbb
          obtain ⟨bb, hbd⟩ : ∃ b, b = decide (t = ia) := ⟨_, rfl⟩
          rw [← hbd] at hbb
          have hre := HRE.out t
          rw [← hbd] at hre
          obtain ⟨g, o, A20, n20, c20, rfl, hcl0, _⟩ := HLR.out.rowP.at_ hlt
          have a3 := (hcl0 wr (Below.refl _ _)).2.2.2
          rw [HLM.out, hbb] at a3
          simp only at a3
          obtain ⟨gx, ox, A30, n30, c30, hAm, hcm0, _⟩ := HMR.out.rowP.at_ hlt
          cases hAm
          have m3 := (hcm0 wr (Below.refl _ _)).2.2.2
          rw [HMM.out, Pl.mixed_at HUL.out htT, show (T.getD t default).b = false from HFA.out _ (by rw [List.getD_eq_getElem?_getD, List.getElem?_eq_getElem htT]; exact List.getElem_mem _), Nat.zero_add] at m3
          have mf := HMR.out.frozen
          have hLt : t < Lt.length := by rw [← List.length_map (f := OpV.op), HMM.out]; simp [Pl.mixed, HUL.out]; omega
          have hLo : (Lt.getD t default).op = T.getD t default := by
            rw [← Pl.mixed_at HUL.out htT, ← HMM.out, List.getD_eq_getElem?_getD, List.getD_eq_getElem?_getD, List.getElem?_map, List.getElem?_eq_getElem hLt]
            rfl
          obtain ⟨hk1, hk2⟩ := HMR.out.mark t hLt bb
          obtain ⟨L2, hL2⟩ : ∃ L2, L2 = Lt.set t { Lt.getD t default with b := bb } := ⟨_, rfl⟩
          have hmap : L2.map OpV.op = Pl.mixed U T (t + 1) := by
            rw [hL2, List.map_set, HMM.out]
            refine Pl.mixed_step HUL.out htT _ ?_
            rw [hbb, ← hLo]
            rfl
          obtain ⟨V, hV⟩ : ∃ V, V = wr.setCell ⟨gm, t * 4 + 3, none⟩ (.bool bb) := ⟨_, rfl⟩
          rw [← hV, ← hL2] at hk1
          have htv : Tn (fun b => b = gm) wr V := by rw [hV]; exact (Tn.refl (fun b => b = gm) wr).set_ (p := ⟨gm, t * 4 + 3, none⟩) (Or.inr rfl) _
          have hlv := HLR.out.tn htv (fun b hb e => by have := HGM.out; omega)
          have hqv := HQR.out.tn htv (fun b hb e => by have := HGM.out; have := hb.1; omega) (fun e => by have := HGM.out; have := HQL6.out; omega)
          have hbv := htv.below HBR.out HBR.out.size (fun b hb => by rw [hb]; exact Nat.le_trans HB6.out.size HGM.out)
          obtain ⟨g', o', A2, n2, c2, e', hcl, hun⟩ := hlv.rowP.at_ hlt
          cases e'
          obtain ⟨g', o', A3, n3, c3, e', hcm, hum⟩ := hk1.rowP.at_ hlt
          cases e'
          rw [HLM.out, hbb] at hcl hun
          rw [hmap, Pl.mixed_at2 HUL.out htT, hbb] at hcm hum
          obtain ⟨⟨x, y, l, b0⟩, hqo⟩ : ∃ o, o = T.getD t default := ⟨_, rfl⟩
          rw [← hqo] at hcl hun hcm hum
          simp only [Nat.zero_add] at hcl hun hcm hum
          have HCL := Lib.hid hcl
          have HCM := Lib.hid hcm
          have HON := Lib.hid (show ∀ w1, Below V.heap.size V w1 → Calls Try.prog 21 #[.agg #[.int .u32 x, .int .u64 y, .slice A2 n2 c2, .bool bb], .agg #[.int .u32 x, .int .u64 y, .slice A3 n3 c3, .bool bb]] w1 fun e w' => e = .returned (.bool true) ∧ Below w1.heap.size w1 w' from fun w1 hb => by
            have := one10_any x y A2 n2 c2 l bb x y A3 n3 c3 l bb w1 (Rws.then_ hun hb) (Rws.then_ hum hb)
            rwa [decide_eq_true rfl] at this)
          have HLV := Lib.hid hlv
          have HKV := Lib.hid hk1
          have HMV := Lib.hid hmap
          have HQV := Lib.hid hqv
          have HBV := Lib.hid hbv
          have HV := Lib.hid hV
          have HT1 := Lib.hid (show t + 1 ≤ M from hlt)
          have HMS := Lib.hid (show M - (t + 1) < M - t by omega)
          have z0 : (0 : Int) ≤ (t : Int) := Int.natCast_nonneg _
          have z1 : (t : Int) < (M : Int) := Int.ofNat_lt.2 hlt
          clear htT hbb hbd hcl0 hcm0 hLt hLo hk1 hk2 hL2 hmap hV htv hlv hqv hbv hcl hun hcm hum hqo
          go_wp2_with fail
          rw [← HV.out]
          refine Rg.wp_region_inv (Below V.heap.size V) (Rg.Wd.at [.is (.slice (some ⟨g, o, none⟩) M lc), .is (.int .i64 (t : Int)), .is (.pointer (some ⟨g, o + t * 4, none⟩)), .is (.agg #[.int .u32 x, .int .u64 y, .slice A2 n2 c2, .bool bb]), .is (.slice (some ⟨gm, 0, none⟩) M mc), .is (.int .i64 (t : Int)), .is (.pointer (some ⟨gm, t * 4, none⟩)), .is (.agg #[.int .u32 x, .int .u64 y, .slice A3 n3 c3, .bool bb]), .is (.bool true), .is (.bool false)]) (by kernel_rfl) (by kernel_rfl) (Rg.Wd.stays _ _) ((below_drawn (Below.refl _ _))) ⟨?_, ?_, ?_, ?_, ?_, ?_, ?_, ?_, ?_, ?_, trivial⟩ ?_
          · intro a w1 hS hb hd
            have e13 := hb 13 (Rg.nw (by decide))
            simp [Act.eval] at e13
            exact Rg.does_pure (Rg.wanted_none rfl) (by simp [execOp, e13, go_sem]) hS rfl
          · intro a w1 hS hb hd
            have e17 := hb 17 (Rg.nw (by decide))
            simp [Act.eval] at e17
            exact Rg.does_pure (Rg.wanted_none rfl) (by simp [execOp, e17, go_sem]) hS rfl
          · intro a w1 hS hb hd
            have e142 := hd ⟨0, .data⟩ (by simp) rfl _ _ rfl rfl
            have e142 : a.tmps[142]?.getD undef = (.slice (some ⟨g, o, none⟩) M lc) := Rg.slot e142
            have e143 := hd ⟨1, .data⟩ (by simp) rfl _ _ rfl rfl
            have e143 : a.tmps[143]?.getD undef = (.int .i64 (t : Int)) := Rg.slot e143
            exact Rg.does_pure (Rg.wanted_none rfl) (by simp [execOp, e142, e143, z0, z1, go_sem]) hS rfl
          · intro a w1 hS hb hd
            have e144 := hd ⟨2, .data⟩ (by simp) rfl _ _ rfl rfl
            have e144 : a.tmps[144]?.getD undef = (.pointer (some ⟨g, o + t * 4, none⟩)) := Rg.slot e144
            exact Rg.does_pure (Rg.wanted_none rfl) (by simp [execOp, e144, (HCL.out w1 hS).1, (HCL.out w1 hS).2.1, (HCL.out w1 hS).2.2.1, (HCL.out w1 hS).2.2.2, go_sem]) hS rfl
          · intro a w1 hS hb hd
            have e15 := hb 15 (Rg.nw (by decide))
            simp [Act.eval] at e15
            exact Rg.does_pure (Rg.wanted_none rfl) (by simp [execOp, e15, go_sem]) hS rfl
          · intro a w1 hS hb hd
            have e17 := hb 17 (Rg.nw (by decide))
            simp [Act.eval] at e17
            exact Rg.does_pure (Rg.wanted_none rfl) (by simp [execOp, e17, go_sem]) hS rfl
          · intro a w1 hS hb hd
            have e146 := hd ⟨4, .data⟩ (by simp) rfl _ _ rfl rfl
            have e146 : a.tmps[146]?.getD undef = (.slice (some ⟨gm, 0, none⟩) M mc) := Rg.slot e146
            have e147 := hd ⟨5, .data⟩ (by simp) rfl _ _ rfl rfl
            have e147 : a.tmps[147]?.getD undef = (.int .i64 (t : Int)) := Rg.slot e147
            exact Rg.does_pure (Rg.wanted_none rfl) (by simp [execOp, e146, e147, z0, z1, go_sem]) hS rfl
          · intro a w1 hS hb hd
            have e148 := hd ⟨6, .data⟩ (by simp) rfl _ _ rfl rfl
            have e148 : a.tmps[148]?.getD undef = (.pointer (some ⟨gm, t * 4, none⟩)) := Rg.slot e148
            exact Rg.does_pure (Rg.wanted_none rfl) (by simp [execOp, e148, (HCM.out w1 hS).1, (HCM.out w1 hS).2.1, (HCM.out w1 hS).2.2.1, (HCM.out w1 hS).2.2.2, go_sem]) hS rfl
          · intro a w1 hS hb hd
            have e145 := hd ⟨3, .data⟩ (by simp) rfl _ _ rfl rfl
            have e145 : a.tmps[145]?.getD undef = (.agg #[.int .u32 x, .int .u64 y, .slice A2 n2 c2, .bool bb]) := Rg.slot e145
            have e149 := hd ⟨7, .data⟩ (by simp) rfl _ _ rfl rfl
            have e149 : a.tmps[149]?.getD undef = (.agg #[.int .u32 x, .int .u64 y, .slice A3 n3 c3, .bool bb]) := Rg.slot e149
            refine Rg.does_call (f := 21) (args := #[.agg #[.int .u32 x, .int .u64 y, .slice A2 n2 c2, .bool bb], .agg #[.int .u32 x, .int .u64 y, .slice A3 n3 c3, .bool bb]]) (Rg.wanted_none rfl) (by simp [e145, e149, go_sem]) ?_
            refine (HON.out w1 hS).mono ?_; rintro e w3 ⟨rfl, hb⟩; exact ⟨_, rfl, rfl, below_then hS hb, hb⟩
          · intro a w1 hS hb hd
            have e150 := hd ⟨8, .data⟩ (by simp) rfl _ _ rfl rfl
            have e150 : a.tmps[150]?.getD undef = (.bool true) := Rg.slot e150
            exact Rg.does_pure (Rg.wanted_none rfl) (by simp [execOp, e150, go_sem]) hS rfl
          · intro v w12 hS hv
            have v151 := hv 9 _ _ rfl rfl
            have HL12 := Lib.hid (HLV.out.then_ hS)
            have HK12 := Lib.hid (HKV.out.then_ hS)
            have HQ12 := Lib.hid (HQV.out.then_ hS)
            have HB12 := Lib.hid (below_then HBV.out hS)
            clear hS hv
            simp only [Rg.putAll, Nat.zero_add, Nat.reduceAdd]
            simp only [Act.put, List.setIfInBounds_toArray, List.set_cons_succ, List.set_cons_zero]
            rw [v151]
            clear v151
            go_wp2_with fail
            go_roundw
            case rel => exact ⟨t + 1, by go_num, HT1.out, HL12.out, ⟨L2, HK12.out, HMV.out⟩, HQ12.out, HB12.out⟩
            case measure => simp [intOf]; exact HMS.out
        · have hund := undo_ok (HQR.out.more (G := fun b => b ≠ q) (fun b hb => hb.2) (fun e => e rfl)) (past_new HQR.out) (1 + ia) rv HRV.out (Nat.le_add_right _ _) HIT.out (by rw [HI1.out]; exact HTF.out)
          have HUQ := Lib.hid hund
          have HQL := Lib.hid (show W.heap.size ≤ q from Nat.le_trans HBJ.out.size HQG.out)
          clear hund
          go_wp2_with fail
          refine HUQ.out.mono ?_
          rintro e w9 ⟨rfl, _, ht9⟩
          have HB9 := Lib.hid (tn_past HQL.out HBR.out ht9)
          clear ht9
          go_wp2_with fail
          refine (wakes_any _).mono ?_
          rintro e wz ⟨rfl, hbz⟩
          have HBZ := Lib.hid (below_then HB9.out hbz)
          clear hbz
          go_wp2_with fail
          go_ret
          exact ⟨rfl, HBZ.out⟩
end Go.Proofs.Ytkgehgedbgogbaa
