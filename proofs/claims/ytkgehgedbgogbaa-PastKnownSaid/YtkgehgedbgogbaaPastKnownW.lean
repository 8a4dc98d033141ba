/-
  PastKnown's walk: the chapter's rows, none, limits. Conditions: none.
-/
import Derived.Test.YtkgehgedbgogbaaPbC
namespace Go.Proofs.Ytkgehgedbgogbaa
open Go.RowKit
open Pl (Un)

namespace Pl
/-- so many ends, one behind the other -/
def ends (n : Nat) : List Op := (List.range n).map fun i : Nat => E (i : Int)
theorem ends_len (n : Nat) : (ends n).length = n := by simp [ends]
theorem ends_succ (n : Nat) : ends (n + 1) = ends n ++ [E (n : Int)] := by simp [ends, List.range_succ]
theorem total_E (k : Int) : growsL (E k).l = 1 := rfl
theorem total_ends (n : Nat) : total (ends n) = (n : Int) := by
  induction n with
  | zero => rfl
  | succ n ih => rw [ends_succ, total_append, total_one, ih, total_E]; omega
theorem long_E {k n : Int} (h0 : 0 ≤ k) (h : k ≤ n) : longL (E k).l n = (n + 1, 0) := by
  have ho : ∀ u ∈ (E k).l, Okay u := by
    intro u hu
    simp only [E, List.mem_singleton] at hu
    subst hu
    exact Or.inr ⟨Or.inl rfl, h0, by unfold May; simp only; omega⟩
  unfold longL
  rw [if_pos ⟨by omega, ho⟩]
  have hf : Fit ⟨1, k, 122, 0, 0⟩ n := by
    have := ho ⟨1, k, 122, 0, 0⟩ (by simp [E])
    unfold Fit
    refine ⟨this, ?_, ?_⟩
    · intro _; simp only; omega
    · intro e; simp at e
  show (if Fit ⟨1, k, 122, 0, 0⟩ n then goL [] (n + grows 1) else (0, 30)) = _
  rw [if_pos hf]
  rfl
end Pl
/-- between one Push and the next -/
def KnR (w : World) (p : Nat) (i : Value) (wr : World) : Prop := ∃ j : Nat, i = .int .i64 (j : Int) ∧ j ≤ 256 ∧ PastAt wr p (fun b => b ≠ p) 0 0 (Pl.ends j) ∧ Below w.heap.size w wr
set_option maxRecDepth 100000 in
set_option maxHeartbeats 2000000 in
theorem pastKnown.walk (w : World) : Calls Try.prog 6 #[] w fun e w' => e = .returned (.bool true) ∧ Below w.heap.size w w' := by
  obtain ⟨V, hV⟩ : ∃ V, V = w.alloc (.cells #[.int .u64 0, .slice none 0 0, .slice none 0 0] 58) := ⟨_, rfl⟩
  have HV := Lib.hid hV
  have HBV := Lib.hid (show Below w.heap.size w V by rw [hV]; exact below_box _ _)
  have HNN := Lib.hid (show ∀ w', NonAt w' (.pointer none) from fun _ => Or.inl rfl)
  have HZ := Lib.hid (show ∀ w', Below V.heap.size V w' → NonAt w' (.pointer (some ⟨w.heap.size, 0, none⟩)) from fun w' hb => (show NonAt V (.pointer (some ⟨w.heap.size, 0, none⟩)) from Or.inr ⟨_, rfl, by rw [hV]; exact heap_new rfl⟩).then_ hb)
  clear hV
  go_enter Try.func6, Try.ntmps6
  go_wp2_with fail
  rw [← HV.out]
  refine (push_non (HNN.out V) 0 0 none 0 0 false).mono ?_
  rintro e w1 ⟨rfl, hb1⟩
  have HB1 := Lib.hid hb1
  clear hb1
  go_wp2_with fail
  refine (show Calls Try.prog 16 #[.pointer (some ⟨w.heap.size, 0, none⟩), .int .u64 0] w1 _ from since_non (HZ.out _ HB1.out) 0).mono ?_
  rintro e w2 ⟨rfl, hb2⟩
  have HB2 := Lib.hid (below_then HB1.out hb2)
  clear hb2
  go_wp2_with fail
  refine (show Calls Try.prog 17 #[.pointer none, .int .u64 0] w2 _ from length_non (HNN.out w2) 0).mono ?_
  rintro e w3 ⟨rfl, hb3⟩
  have HB3 := Lib.hid (below_then HB2.out hb3)
  clear hb3
  go_wp2_with fail
  refine (show Calls Try.prog 22 #[.pointer (some ⟨w.heap.size, 0, none⟩), .int .u64 1] w3 _ from at_non (HZ.out _ HB3.out) 1).mono ?_
  rintro e w4 ⟨rfl, hb4⟩
  have HB4 := Lib.hid (below_alloc (below_then HB3.out hb4) (.cells #[.int .u32 0, .int .u64 0, .slice none 0 0, .bool false] 38))
  clear hb4
  go_wp2_with fail
  obtain ⟨w5, hw5⟩ : ∃ w5, w5 = w4.alloc (.cells #[.int .u32 0, .int .u64 0, .slice none 0 0, .bool false] 38) := ⟨_, rfl⟩
  rw [← hw5] at HB4 ⊢
  clear hw5
  refine (show Calls Try.prog 20 #[.pointer none, .int .u64 1] w5 _ from undo_non (HNN.out w5) 1).mono ?_
  rintro e w6 ⟨rfl, hb6⟩
  have HB6 := Lib.hid (below_then HB4.out hb6)
  clear hb6
  go_wp2_with fail
  refine (now_non (HNN.out w6)).mono ?_
  rintro e w7 ⟨rfl, hw⟩
  rw [hw]
  clear hw
  go_wp2_with fail
  refine (from_non (HZ.out w6 HB6.out)).mono ?_
  rintro e w8 ⟨rfl, hw⟩
  rw [hw]
  clear hw
  go_wp2_with fail
  refine (len_non (HNN.out w6)).mono ?_
  rintro e w9 ⟨rfl, hw⟩
  rw [hw]
  clear hw
  go_wp2_with fail
  refine (drop_non (HZ.out w6 HB6.out)).mono ?_
  rintro e w10 ⟨rfl, hb10⟩
  have HB10 := Lib.hid (below_then HB6.out hb10)
  clear hb10
  go_wp2_with fail
  refine (copy_non (HZ.out w10 HB10.out)).mono ?_
  rintro e w11 ⟨rfl, hb11⟩
  have HB11 := Lib.hid (below_then HB10.out hb11)
  clear hb11
  go_wp2_with fail
  refine (show Calls Try.prog 7 #[.int .u64 1099511627777, .int .i64 0] w11 _ from new_bad 1099511627777 0 w11 (Or.inl (by decide))).mono ?_
  rintro e w12 ⟨rfl, hb12⟩
  have HB12 := Lib.hid (below_then HB11.out hb12)
  clear hb12
  go_wp2_with fail
  refine (show Calls Try.prog 7 #[.int .u64 0, .int .i64 (-1)] w12 _ from new_bad 0 (-1) w12 (Or.inr (by decide))).mono ?_
  rintro e w13 ⟨rfl, hb13⟩
  have HB13 := Lib.hid (below_then HB12.out hb13)
  clear hb13
  go_wp2_with fail
  refine (show Calls Try.prog 7 #[.int .u64 1099511627775, .int .i64 0] w13 _ from new_any 1099511627775 0 w13 (by decide) (by decide)).mono ?_
  rintro e w14 ⟨rfl, hp14, hb14⟩
  obtain ⟨q, hq⟩ : ∃ q, q = w13.heap.size + 1 := ⟨_, rfl⟩
  rw [← hq] at hp14 ⊢
  have HQ := Lib.hid (show V.heap.size ≤ q by have := HB13.out.size; omega)
  have HP14 := Lib.hid hp14
  have HB14 := Lib.hid (below_then HB13.out hb14)
  have HU14 := Lib.hid (push_ok hp14 (past_new hp14) 0 0 none 0 0 [] false (Rws.none_ _ _ _) (by decide) (by decide) 0 (by decide) (by decide) (by decide))
  clear hq hp14 hb14
  go_wp2_with fail
  refine HU14.out.mono ?_
  rintro e w15 ⟨rfl, hp15, ht15⟩
  have HP15 := Lib.hid (show PastAt w15 q (fun b => b ≠ q) 1099511627775 0 [Pl.Z] from hp15)
  have HB15 := Lib.hid (tn_past HQ.out HB14.out ht15)
  have HU15 := Lib.hid (push_full HP15.out 0 0 none 0 0 [] false (Rws.none_ _ _ _) (by decide) (by decide) 0 (by decide) (Or.inl (by decide)))
  clear hp15 ht15 HU14 HP14
  go_wp2_with fail
  refine HU15.out.mono ?_
  rintro e w16 ⟨rfl, hb16⟩
  have HP16 := Lib.hid (HP15.out.then_ hb16)
  have HB16 := Lib.hid (below_then HB15.out hb16)
  clear hb16 HU15 HP15
  go_wp2_with fail
  refine (end_any 1 _).mono ?_
  rintro e w17 ⟨A17, c17, rfl, ho17, hb17⟩
  have HB17 := Lib.hid (below_then HB16.out hb17)
  have HU17 := Lib.hid (push_bad (HP16.out.then_ hb17) 0 0 A17 1 c17 [⟨1, 1, 122, 0, 0⟩] false (OwnU.uns ho17) (by decide) (by decide) 0 30 (by decide) (by decide))
  clear ho17 hb17 HP16
  go_wp2_with fail
  refine HU17.out.mono ?_
  rintro e w18 ⟨rfl, hb18⟩
  have HB18 := Lib.hid (below_then HB17.out hb18)
  clear hb18 HU17
  go_wp2_with fail
  refine (show Calls Try.prog 7 #[.int .u64 0, .int .i64 0] w18 _ from new_any 0 0 w18 (by decide) (by decide)).mono ?_
  rintro e w19 ⟨rfl, hp19, hb19⟩
  obtain ⟨p, hp⟩ : ∃ p, p = w18.heap.size + 1 := ⟨_, rfl⟩
  rw [← hp] at hp19 ⊢
  have HLE := Lib.hid (show V.heap.size ≤ p by have := HB18.out.size; omega)
  have HB19 := Lib.hid (below_then HB18.out hb19)
  have HP19 := Lib.hid hp19
  clear hp hp19 hb19
  go_wp2_with fail
  go_loopw [25] (fun i wr => KnR V p i wr) (fun i _ => 256 - (intOf i).toNat)
  case atStart => exact ⟨0, rfl, Nat.zero_le _, HP19.out, HB19.out⟩
  case round =>
    obtain ⟨j, rfl, hj, hpj, hbj⟩ := hrel
    have HPJ := Lib.hid hpj
    have HBJ := Lib.hid hbj
    clear hpj hbj
    by_cases hlt : j < 256
    · have z1 : decide ((j : Int) < 256) = true := decide_eq_true (by omega)
      have z2 : decide (j < 256) = true := decide_eq_true hlt
      have HLT := Lib.hid hlt
      have hwj : IntKind.u64.wrap ((j : Int) + 1) = (j : Int) + 1 := wrap_u64 (by omega) (by omega)
      go_wp2_with fail
      refine (end_any (j : Int) _).mono ?_
      rintro e wa ⟨Aa, ca, rfl, hoa, hba⟩
      have hpa := HPJ.out.then_ hba
      have HBA := Lib.hid (below_then HBJ.out hba)
      have HUA := Lib.hid (push_ok hpa (past_new hpa) 0 0 Aa 1 ca [⟨1, (j : Int), 122, 0, 0⟩] false (OwnU.uns hoa) (by decide) (by rw [Pl.total_ends]; have := HLT.out; omega) (0 + Pl.total (Pl.ends j) + 1) (Pl.long_E (by omega) (by rw [Pl.total_ends]; omega)) (by rw [Pl.ends_len]; have := HLT.out; omega) (by rw [Pl.ends_len]; exact HLT.out))
      clear hoa hba hpa
      rw [show ((0 + ((Pl.ends j).length + 1) : Nat) : Int) = (j : Int) + 1 by rw [Pl.ends_len]; omega] at HUA
      go_wp2_with fail
      refine HUA.out.mono ?_
      rintro e wb ⟨rfl, hpb, htb⟩
      have HPB := Lib.hid (show PastAt wb p (fun b => b ≠ p) 0 0 (Pl.ends (j + 1)) by rw [Pl.ends_succ]; exact hpb)
      have HBB := Lib.hid (tn_past HLE.out HBA.out htb)
      clear hpb htb
      go_wp2_with fail
      go_roundw
      case rel => exact ⟨j + 1, by go_num, HLT.out, HPB.out, HBB.out⟩
      case measure => simp [intOf]; have := HLT.out; omega
    · have hj2 : j = 256 := by omega
      subst hj2
      clear hj hlt
      go_wp2_with fail
      refine (end_any 0 _).mono ?_
      rintro e wa ⟨Aa, ca, rfl, hoa, hba⟩
      have HPA := Lib.hid (HPJ.out.then_ hba)
      have HBA := Lib.hid (below_then HBJ.out hba)
      have HUA := Lib.hid (push_full HPA.out 0 0 Aa 1 ca [⟨1, 0, 122, 0, 0⟩] false (OwnU.uns hoa) (by decide) (by rw [Pl.total_ends]; decide) (0 + Pl.total (Pl.ends 256) + 1) (Pl.long_E (by decide) (by rw [Pl.total_ends]; decide)) (Or.inr (Pl.ends_len 256)))
      clear hoa hba
      go_wp2_with fail
      refine HUA.out.mono ?_
      rintro e wb ⟨rfl, hbb⟩
      have HPB := Lib.hid (HPA.out.then_ hbb)
      have HBB := Lib.hid (below_then HBA.out hbb)
      have hdr := drop_any HPB.out (past_new HPB.out) 255 (by decide)
      rw [Pl.ends_len, show 256 - 255 = 1 from rfl] at hdr
      have HDR := Lib.hid hdr
      clear hbb HUA hdr HPA
      go_wp2_with fail
      refine (show Calls Try.prog 13 #[.pointer (some ⟨p, 0, none⟩), .int .i64 255] wb _ from HDR.out).mono ?_
      rintro e wc ⟨rfl, hpc, htc⟩
      obtain ⟨P1, hP1⟩ : ∃ P1, P1 = (Pl.ends 256).drop 1 := ⟨_, rfl⟩
      obtain ⟨N1, hN1⟩ : ∃ N1, N1 = 0 + Pl.total ((Pl.ends 256).take 1) := ⟨_, rfl⟩
      have hlen : P1.length = 255 := by rw [hP1, List.length_drop, Pl.ends_len]
      have htot : N1 + Pl.total P1 = 256 := by
        have := Pl.total_append ((Pl.ends 256).take 1) ((Pl.ends 256).drop 1)
        rw [List.take_append_drop, Pl.total_ends] at this
        rw [hN1, hP1]
        omega
      rw [← hP1, ← hN1] at hpc
      have HPC := Lib.hid hpc
      have HBC := Lib.hid (tn_past HLE.out HBB.out htc)
      have HLN := Lib.hid hlen
      have HTO := Lib.hid htot
      clear hpc htc hP1 hN1 hlen htot HDR HPB
      go_wp2_with fail
      refine (end_any 256 _).mono ?_
      rintro e wd ⟨Ad, cd, rfl, hod, hbd⟩
      have hpd := HPC.out.then_ hbd
      have HBD := Lib.hid (below_then HBC.out hbd)
      have hud := push_ok hpd (past_new hpd) 0 0 Ad 1 cd [⟨1, 256, 122, 0, 0⟩] false (OwnU.uns hod) (by decide) (by rw [HTO.out]; decide) (N1 + Pl.total P1 + 1) (Pl.long_E (by decide) (by rw [HTO.out]; decide)) (by rw [HLN.out]; decide) (by rw [HLN.out]; decide)
      rw [HLN.out] at hud
      have HUD := Lib.hid hud
      clear hod hbd hpd hud
      go_wp2_with fail
      refine HUD.out.mono ?_
      rintro e we ⟨rfl, hpe, hte⟩
      have HPE := Lib.hid hpe
      have HBE := Lib.hid (tn_past HLE.out HBD.out hte)
      have hle := length_ok HPE.out 256 257 (by decide) (by rw [List.length_append, HLN.out]; decide)
      rw [List.take_of_length_le (by rw [List.length_append, HLN.out]; decide), Pl.total_append, Pl.total_one, show N1 + (Pl.total P1 + Pl.growsL (⟨0, 0, [⟨1, 256, 122, 0, 0⟩], false⟩ : Pl.Op).l) = 257 from by
        have := HTO.out
        have e1 : Pl.growsL (⟨0, 0, [⟨1, 256, 122, 0, 0⟩], false⟩ : Pl.Op).l = 1 := rfl
        rw [e1]; omega] at hle
      have HLG := Lib.hid hle
      clear hpe hte hle HUD HPC
      go_wp2_with fail
      refine (show Calls Try.prog 17 #[.pointer (some ⟨p, 0, none⟩), .int .u64 257] we _ from HLG.out).mono ?_
      rintro e wf ⟨rfl, hbf⟩
      have HPF := Lib.hid (HPE.out.then_ hbf)
      have HBF := Lib.hid (below_then HBE.out hbf)
      have HFR := Lib.hid (from_past HPF.out)
      clear hbf HLG HPE
      go_wp2_with fail
      refine HFR.out.mono ?_
      rintro e wg ⟨rfl, hw⟩
      rw [hw]
      clear hw
      go_wp2_with fail
      refine (wakes_any _).mono ?_
      rintro e wh ⟨rfl, hbh⟩
      have HBH := Lib.hid (HBV.out.trans ((below_then HBF.out hbh).mono HBV.out.size))
      clear hbh
      go_wp2_with fail
      go_ret
      exact ⟨rfl, HBH.out⟩
end Go.Proofs.Ytkgehgedbgogbaa
