/-
  Contracts of utf.Encode and copybookref04.Encode: what each returns for every text. Conditions: the tables stand (utf.Encode); the text is within the form's reach.
-/
import Derived.Test.YtillndchojaniaaDoorUtfC
namespace Go.Proofs.YtillndchojaniaaDoor
open Go.RowKit

theorem Pl.take_snoc' (l : List Int) (j : Nat) (h : j < l.length) : l.take (j + 1) = l.take j ++ [l.getD j 0] := by
  rw [List.take_add_one, List.getD_eq_getElem?_getD, List.getElem?_eq_getElem h]; rfl
theorem Pl.may_snoc {l : List Int} {j : Nat} (h : j < l.length) (ha : Pl.AllMay (l.take j)) (hm : Pl.May (l.getD j 0)) : Pl.AllMay (l.take (j + 1)) := by
  rw [Pl.take_snoc' l j h]
  exact ha.append (fun c hc => by simp at hc; rw [hc]; exact hm)
theorem Pl.encs_snoc {l : List Int} {j : Nat} (h : j < l.length) : Pl.encs (l.take (j + 1)) = Pl.encs (l.take j) ++ Pl.uno (l.getD j 0) := by
  rw [Pl.take_snoc' l j h, Pl.encs_append]; simp [Pl.encs]
instance (cs : List Int) : Decidable (Pl.AllMay cs) := by unfold Pl.AllMay; infer_instance
/-- what Encode tells: the bytes, and the error's number -/
def Pl.encB (cs : List Int) : List Nat := if Pl.AllMay cs then Pl.encs cs else []
def Pl.encE (cs : List Int) : Int := if Pl.AllMay cs then 0 else 21
theorem Pl.enc_yes {cs : List Int} (h : Pl.AllMay cs) : Pl.encB cs = Pl.encs cs ∧ Pl.encE cs = 0 := by simp [Pl.encB, Pl.encE, h]
theorem Pl.enc_no {cs : List Int} (h : ¬ Pl.AllMay cs) : Pl.encB cs = [] ∧ Pl.encE cs = 21 := by simp [Pl.encB, Pl.encE, h]
theorem Pl.bad_at {l : List Int} {j : Nat} (h : j < l.length) (hm : ¬ Pl.May (l.getD j 0)) : ¬ Pl.AllMay l := fun ha => hm (by
  rw [List.getD_eq_getElem?_getD, List.getElem?_eq_getElem h]; exact ha _ (List.getElem_mem h))
/-- an Encode's answer -/
def EncRet (w : World) (cs : List Int) (e : Ending) (w' : World) : Prop :=
  ∃ A n c, e = .returned (.tuple #[.slice A n c, .int .i64 (Pl.encE cs)]) ∧ OwnV w' w.heap.size (.slice A n c) (Pl.encB cs) ∧ Below w.heap.size w w'
theorem encRet_yes {w w' : World} {cs : List Int} {A : Option Addr} {m c : Nat} (h : Pl.AllMay cs) (hO : OwnV w' w.heap.size (.slice A m c) (Pl.encs cs)) (hb : Below w.heap.size w w') : EncRet w cs (.returned (.tuple #[.slice A m c, .int .i64 0])) w' :=
  ⟨A, m, c, by rw [(Pl.enc_yes h).2], by rw [(Pl.enc_yes h).1]; exact hO, hb⟩
theorem encRet_no {w w' : World} {cs : List Int} (h : ¬ Pl.AllMay cs) (hb : Below w.heap.size w w') : EncRet w cs (.returned (.tuple #[.slice none 0 0, .int .i64 21])) w' :=
  ⟨none, 0, 0, by rw [(Pl.enc_no h).2], by rw [(Pl.enc_no h).1]; exact OwnV.nil_ _ _, hb⟩

/-- the loops of Encode: the first j are laid -/
def ERel (w : World) (cs : List Int) (b i : Value) (wr : World) : Prop :=
  ∃ (j : Nat) (A : Option Addr) (m c : Nat), i = .int .i64 (j : Int) ∧ j ≤ cs.length ∧ b = .slice A m c ∧ OwnV wr w.heap.size (.slice A m c) (Pl.encs (cs.take j)) ∧ Below w.heap.size w wr ∧ Pl.AllMay (cs.take j)

set_option maxRecDepth 100000 in
set_option maxHeartbeats 1000000 in
theorem enc_any (A : Option Addr) (n c : Nat) (cs : List Int) (w : World) (hT : Tab w) (hC : Crs w w.heap.size A n c cs) (hr : n * 4 ≤ 140737488351232) :
    Calls Tryd.prog 9 #[.slice A n c] w (EncRet w cs) := by
  have hle := hC.le
  have hcap := hC.cap
  have HL := Lib.hid hC.len
  have HC := Lib.hid hC
  have HR := Lib.hid hr
  have HT := Lib.hid hT
  have hn63 : n ≤ 35184372087808 := by omega
  unfold maxLen at hcap
  clear hC hr hT
  go_enter Tryd.func9, Tryd.ntmps9
  go_wp2_with fail
  go_loopw [4, 10] (fun b i wr => ERel w cs b i wr) (fun _ i _ => n - (intOf i).toNat)
  case atStart => exact ⟨0, none, 0, 0, rfl, Nat.zero_le _, rfl, OwnV.nil_ _ _, Below.refl _ _, fun c hc => by cases hc⟩
  case round =>
    obtain ⟨j, A3, m, c3, rfl, hj, rfl, hO, hB, hM⟩ := hrel
    have HO := Lib.hid hO
    have HB := Lib.hid hB
    have HM := Lib.hid hM
    have hm4 : m ≤ 4 * j := by
      have h1 := hO.bys.1
      have h2 := Pl.len_encs_le (cs.take j)
      rw [List.length_take] at h2
      omega
    have hjn : j ≤ n := by have := HL.out; omega
    clear hO hB hM hj
    by_cases hlt : j < n
    · obtain ⟨g, o, rfl, hg, hc0⟩ := ((HC.out.below HB.out (Nat.le_refl _))).at_ hlt
      have hc := hc0 j hlt
      have hJ := Lib.hid (HC.out.getJ j)
      have HS := Lib.hid (Pl.encs_snoc (l := cs) (j := j) (by have := HL.out; omega))
      have HMS := Lib.hid (fun h => Pl.may_snoc (l := cs) (j := j) (by have := HL.out; omega) HM.out h)
      have HBAD := Lib.hid (fun h => Pl.bad_at (l := cs) (j := j) (by have := HL.out; omega) h)
      clear hc0
      obtain ⟨x, hx⟩ : ∃ x, x = cs.getD j 0 := ⟨_, rfl⟩
      rw [← hx] at hc hJ HS HMS HBAD
      clear hx
      have HSZ := Lib.hid (size_any x wr hJ.out)
      by_cases hm : Pl.May x
      · have HM1 := Lib.hid hm
        have HP := Lib.hid (put_any x wr (HT.out.below HB.out HT.out.pos) hm w.heap.size m c3 A3 _ HO.out HB.out.size HT.out.pos (by omega))
        have hs1 := Pl.size_pos hm
        have hs4 := Pl.size_le x
        rw [← HS.out] at HP
        have HA := Lib.hid (HMS.out hm)
        obtain ⟨s, hs⟩ : ∃ s, s = Pl.size x := ⟨_, rfl⟩
        rw [← hs] at HP HSZ hs1 hs4
        clear hs hm hm4 hs4
        go_wp2_with fail
        refine HSZ.out.mono ?_
        rintro e w' ⟨rfl, rfl⟩
        have hs0 : ((s : Int) == 0) = false := by rw [beq_eq_false_iff_ne]; omega
        go_wp2_with fail
        refine HP.out.mono ?_
        rintro e w2 ⟨A2, c2, rfl, hO2, hB2⟩
        have HO2 := Lib.hid hO2
        have HB2 := Lib.hid (HB.out.trans hB2)
        clear hO2 hB2
        go_wp2_with fail
        go_roundw
        case rel => exact ⟨j + 1, A2, m + s, c2, by go_num, by have := HL.out; omega, rfl, HO2.out, HB2.out, HA.out⟩
        case measure => simp [intOf]; omega
      · rw [Pl.size_not hm] at HSZ
        have HN := Lib.hid (HBAD.out hm)
        clear hm hm4
        go_wp2_with fail
        refine HSZ.out.mono ?_
        rintro e w' ⟨rfl, rfl⟩
        go_wp2_with fail
        go_ret2
        exact encRet_no HN.out HB.out
    · have hjn : j = n := by omega
      have HJ := Lib.hid hjn
      clear hjn hm4
      go_wp2_with fail
      go_ret2
      have e : cs.take j = cs := List.take_of_length_le (by have := HL.out; have := HJ.out; omega)
      refine encRet_yes ?_ ?_ HB.out
      · have := HM.out; rwa [e] at this
      · have := HO.out; rwa [e] at this

set_option maxRecDepth 100000 in
set_option maxHeartbeats 1000000 in
theorem renc_any (A : Option Addr) (n c : Nat) (cs : List Int) (w : World) (hC : Crs w w.heap.size A n c cs) (hr : n * 4 ≤ 140737488351232) :
    Calls Tryd.prog 10 #[.slice A n c] w (EncRet w cs) := by
  have hle := hC.le
  have hcap := hC.cap
  have HL := Lib.hid hC.len
  have HC := Lib.hid hC
  have HR := Lib.hid hr
  have hn63 : n ≤ 35184372087808 := by omega
  unfold maxLen at hcap
  clear hC hr
  go_enter Tryd.func10, Tryd.ntmps10
  go_wp2_with fail
  go_loopw [4, 5] (fun b i wr => ERel w cs b i wr) (fun _ i _ => n - (intOf i).toNat)
  case atStart => exact ⟨0, none, 0, 0, rfl, Nat.zero_le _, rfl, OwnV.nil_ _ _, Below.refl _ _, fun c hc => by cases hc⟩
  case round =>
    obtain ⟨j, A3, m, c3, rfl, hj, rfl, hO, hB, hM⟩ := hrel
    have HO := Lib.hid hO
    have HB := Lib.hid hB
    have HM := Lib.hid hM
    have hm4 : m ≤ 4 * j := by
      have h1 := hO.bys.1
      have h2 := Pl.len_encs_le (cs.take j)
      rw [List.length_take] at h2
      omega
    have hjn : j ≤ n := by have := HL.out; omega
    clear hO hB hM hj
    by_cases hlt : j < n
    · obtain ⟨g, o, rfl, hg, hc0⟩ := ((HC.out.below HB.out (Nat.le_refl _))).at_ hlt
      have hc := hc0 j hlt
      have hJ := Lib.hid (HC.out.getJ j)
      have HS := Lib.hid (Pl.encs_snoc (l := cs) (j := j) (by have := HL.out; omega))
      have HMS := Lib.hid (fun h => Pl.may_snoc (l := cs) (j := j) (by have := HL.out; omega) HM.out h)
      have HBAD := Lib.hid (fun h => Pl.bad_at (l := cs) (j := j) (by have := HL.out; omega) h)
      clear hc0
      obtain ⟨x, hx⟩ : ∃ x, x = cs.getD j 0 := ⟨_, rfl⟩
      rw [← hx] at hc hJ HS HMS HBAD
      clear hx
      have HY := Lib.hid (rmay_any x wr hJ.out)
      by_cases hm : Pl.May x
      · have HP := Lib.hid (rone_any x wr hm)
        have HLU := Lib.hid (Pl.len_uno x)
        have HA := Lib.hid (HMS.out hm)
        rw [decide_eq_true hm] at HY
        have HF := Lib.hid (show m + 4 ≤ 140737488355328 by omega)
        clear hm hm4
        go_wp2_with fail
        refine HY.out.mono ?_
        rintro e w' ⟨rfl, rfl⟩
        go_wp2_with fail
        refine HP.out.mono ?_
        rintro e w2 ⟨g2, c2, rfl, hO2, hB2⟩
        have hOk := HO.out.below hB2 (fun g hg => (HO.out.lt g hg).2)
        have hs2 := hB2.size
        obtain ⟨u, hu⟩ : ∃ u, u = (Pl.uno x).length := ⟨_, rfl⟩
        have HU := Lib.hid hu
        have hOb := hO2.bys
        rw [← hu] at hOb
        have HE := Lib.hid (And.intro hOk (And.intro hOb (And.intro (show m + u ≤ 140737488355328 by have := HF.out; have := HLU.out; omega) (Nat.le_trans HB.out.size hs2))))
        have HB2 := Lib.hid (HB.out.trans (hB2.mono HB.out.size))
        rw [← hu]
        clear hu hO2 hB2 hOk hOb hs2 HLU
        go_wp2_with (at_builtin; refine wpList_append_bys w2 rfl (.tmp 18) (.tmp 23) rfl w.heap.size A3 m c3 (Pl.encs (cs.take j)) (by rfl) HE.out.1 w2.heap.size (some ⟨g2, 0, none⟩) u c2 (Pl.uno x) (by rfl) HE.out.2.1 HE.out.2.2.1 HE.out.2.2.2 ?_)
        intro A4 c4 w4 hO4 hG4 _ _
        have HB4 := Lib.hid (below_append HE.out.1 hG4 HB2.out HE.out.2.2.2)
        rw [← HS.out] at hO4
        have HO4 := Lib.hid hO4
        clear hO4 hG4
        go_wp2_with fail
        go_roundw
        case rel => exact ⟨j + 1, A4, m + u, c4, by go_num, by have := HL.out; omega, rfl, HO4.out, HB4.out, HA.out⟩
        case measure => simp [intOf]; omega
      · rw [decide_eq_false hm] at HY
        have HN := Lib.hid (HBAD.out hm)
        clear hm hm4
        go_wp2_with fail
        refine HY.out.mono ?_
        rintro e w' ⟨rfl, rfl⟩
        go_wp2_with fail
        go_ret2
        exact encRet_no HN.out HB.out
    · have hjn : j = n := by omega
      have HJ := Lib.hid hjn
      clear hjn hm4
      go_wp2_with fail
      go_ret2
      have e : cs.take j = cs := List.take_of_length_le (by have := HL.out; have := HJ.out; omega)
      refine encRet_yes ?_ ?_ HB.out
      · have := HM.out; rwa [e] at this
      · have := HO.out; rwa [e] at this
end Go.Proofs.YtillndchojaniaaDoor
