/-
  The walk of copybooklaw05.PieceText: it returns true for every text and all calls; nothing that was there turned. No conditions.
-/
import Derived.Test.YtogmddneimhpeaaPceTextP
import Derived.Deep.DeepCutAuto
import Derived.Deep.CutRange
import Derived.Deep.CutBlock
namespace Go.Proofs.Ytogmddneimhpeaa.pieceText
open Go.RowKit
open Pl (Pc Plc Tab)

def R1 (w : World) (nl p : Nat) (r i : Value) (wr : World) : Prop := ∃ (j : Nat) (t : Tab) (m : Nat) (A : Option Addr) (c : Nat), i = .int .i64 (j : Int) ∧ j ≤ nl ∧ j ≤ 60 ∧ m ≤ 300 + 100 * j ∧ r = .slice A t.text.length c ∧ St w wr p t m (.slice A t.text.length c) t.text none



set_option maxRecDepth 100000 in
set_option maxHeartbeats 16000000 in
theorem walk (w : World) (A : Option Addr) (n c : Nat) (cs0 : List Int) (hA : Crs w w.heap.size A n c cs0) (B : Option Addr) (nl d : Nat) (l : List Act5) (hB : Acts w w.heap.size B nl d l) :
    Calls Try.prog 4 #[.slice A n c, .slice B nl d] w fun e w' => e = .returned (.bool true) ∧ Below w.heap.size w w' := by
  obtain ⟨M, hM⟩ : ∃ M, M = min n 300 := ⟨_, rfl⟩
  have rM := min_run (n : Int) 300 (M : Int) (by omega)
  have sM := slice_toC A n c M (by have := hA.le; omega)
  have HA := hA.upto (k := M) (by omega)
  have hMb : M ≤ 300 := by omega
  have hn9 : n ≤ 9223372036854775807 := by have := hA.le; have := hA.cap; unfold maxLen at *; omega
  have hl9 : nl ≤ 9223372036854775807 := by have := hB.2.1; have := hB.2.2.1; unfold maxLen at *; omega
  have HN := Lib.hid (new_any A M c (cs0.take M) w HA (by omega))
  have HAA := Lib.hid HA
  have HB := Lib.hid hB
  clear hA hB HA hM
  go_enter Try.func4, Try.ntmps4
  go_wp2_with fail
  refine HN.out.mono ?_
  rintro e w1 ⟨p, F0, rfl, hT1, hF0, hb1⟩
  have HCL := Lib.hid (cloneC_any A M c (cs0.take M) w1 (HAA.out.then_ hb1) (by omega))
  have HT1 := Lib.hid (And.intro hT1 (And.intro hF0 hb1))
  have hlen : (cs0.take M).length = M := HAA.out.len
  unfold RetC at HCL
  rw [hlen] at HCL
  have HLEN := Lib.hid hlen
  clear hT1 hF0 hb1 HN rM sM hlen
  go_wp2_with fail
  refine HCL.out.mono ?_
  rintro e w2 ⟨A2, c2, rfl, hO2, hb2⟩
  have HS1 := Lib.hid (St.start HT1.out.2.2 HT1.out.1 HT1.out.2.1 hO2 hb2)
  clear hO2 hb2 HCL
  go_wp2_with fail
  go_loopw [6, 27] (fun r i wr => R1 w nl p r i wr) (fun _ i _ => nl - (intOf i).toNat)
  case atStart => exact ⟨0, Pl.fresh (cs0.take M), M, A2, c2, rfl, Nat.zero_le _, Nat.zero_le _, by omega, by rw [Pl.fresh_text, HLEN.out], by rw [Pl.fresh_text, HLEN.out]; exact HS1.out⟩
  case round =>
    obtain ⟨j, t, m, A3, c3, rfl, hj, h60, hm, rfl, hH⟩ := hrel
    by_cases hlt : j < nl
    · by_cases hl60 : j < 60
      · obtain ⟨g, o, A', n', c', rfl, hg, x0, hI0, x1', hI1, x2, hI2, x3, hC⟩ := HB.out.2.2.2 j hlt
        obtain ⟨⟨what, pos, nn, ts⟩, ht⟩ : ∃ t, t = l.getD j default := ⟨_, rfl⟩
        rw [← ht] at x0 hI0 x1' hI1 x2 hI2 hC
        simp only at x0 hI0 x1' hI1 x2 hI2 hC
        rw [← hH.bel.cell (p := ⟨g, _, none⟩) hg] at x0 x1' x2 x3
        have b60 : ((j : Int) == 60) = false := by rw [beq_eq_false_iff_ne]; omega
        obtain ⟨M', hM'⟩ : ∃ M', M' = min n' 100 := ⟨_, rfl⟩
        have rM := min_run (n' : Int) 100 (M' : Int) (by omega)
        have sM := slice_toC A' n' c' M' (by have := hC.le; omega)
        have hn9' : n' ≤ 9223372036854775807 := by have := hC.le; have := hC.cap; unfold maxLen at *; omega
        have hM1 : M' ≤ n' ∧ M' ≤ 100 := by omega
        have HL := Lib.hid (hC.upto hM1.1)
        have HLL := Lib.hid (hC.upto hM1.1).len
        obtain ⟨V, hV, hbV, hqV⟩ := act_new wr what pos nn A' M' c'
        have HSV := Lib.hid (St.box hH hbV hqV)
        have HPV := Lib.hid (show Calls Try.prog 27 #[.pointer (some ⟨p, 0, none⟩)] V (RetP V (Pl.group t.L)) by
          obtain ⟨F, h1⟩ := HSV.out.tb
          exact pieces_tb h1)
        unfold RetP at HPV
        obtain ⟨bf, hbf⟩ : ∃ k, k = (Pl.group t.L).length := ⟨_, rfl⟩
        rw [← hbf] at HPV
        obtain ⟨N, hN⟩ : ∃ k, k = t.text.length := ⟨_, rfl⟩
        have hbN : bf ≤ 6300 ∧ N ≤ 6300 := by
          have h1 := Pl.group_len t.L
          have h2 := Pl.len_text t
          obtain ⟨F, h3⟩ := HSV.out.tb
          have h4 := h3.ok.len
          omega
        have HBF := Lib.hid (And.intro hbf hN)
        rw [← hN] at HSV ⊢
        have HV := Lib.hid hV
        clear ht hC hH hM' hV hbV hqV hbf hN
        go_wp2_with fail
        rw [← HV.out]
        refine HPV.out.mono ?_
        rintro e w2' ⟨A9, c9, rfl, _, hb9⟩
        have HS2 := Lib.hid (HSV.out.then_ hb9)
        have hq2 := HS2.out.box_
        simp only at hq2
        have d0 := cell0 hq2
        have d1 := cell1 hq2
        have d2 := cell2 hq2
        have d3 := cell3 hq2
        clear hb9 HPV HSV x0 x1' x2 x3 rM sM hq2
        go_upto_block 2 with fail
        go_cut [6, 10, 11] (fun r b1 b2 wx => ∃ (tt : Tab) (mm : Nat) (Ar : Option Addr) (nr cr : Nat) (bx : Option (Nat × Obj)), r = .slice Ar nr cr ∧ mm ≤ 300 + 100 * (j + 1) ∧ St w wx p tt mm (.slice Ar nr cr) tt.text bx)
        case first =>
          by_cases k0 : what = 0
          · subst k0
            have hok1 : t.L.length = N := by rw [← Pl.len_text]; exact HBF.out.2.symm
            by_cases hok : 0 ≤ pos ∧ pos ≤ (N : Int)
            · as_aux_lemma =>
                obtain ⟨k, rfl⟩ : ∃ k : Nat, pos = (k : Int) := ⟨pos.toNat, by omega⟩
                have hkN : k ≤ N := by omega
                have e2 : decide ((k : Int) ≤ (N : Int)) = true := decide_eq_true (by omega)
                have e3 : decide (k ≤ N) = true := decide_eq_true hkN
                have hio := ins_ok (t := t) (m := m) (by obtain ⟨F, h1⟩ := HS2.out.tb; exact h1.ok) k (ts.take M') (by omega)
                have HI := Lib.hid (St.did HS2.out (fun F hF => ins_tb hF (k : Int) (Pl.I.mk (by omega)) A' M' c' (ts.take M') ((HL.out.below HS2.out.bel (Nat.le_refl _)).more HS2.out.bel.size) (by omega)))
                rw [hio.1] at HI
                obtain ⟨tt, htt⟩ : ∃ x, x = Pl.insT t (k : Int) (ts.take M') := ⟨_, rfl⟩
                obtain ⟨mm, hmm⟩ : ∃ x, x = m + M' := ⟨_, rfl⟩
                rw [← htt, ← hmm] at HI
                rw [← htt] at hio
                have hmmb : mm ≤ 300 + 100 * (j + 1) := by omega
                have HIO := Lib.hid hio
                clear hok hok1 htt hmm hio
                go_wp2_with fail
                refine HI.out.mono ?_
                rintro e w3 ⟨rfl, hS3⟩
                have hq3 := hS3.box_
                simp only at hq3
                have f1 := cell1 hq3
                have f3 := cell3 hq3
                have HT := Lib.hid (St.turned hS3 (insC_any w3 w.heap.size A3 N c3 t.text hS3.row hS3.bel.size k hkN A' M' c' (ts.take M') ((HL.out.below hS3.bel (Nat.le_refl _)).more hS3.bel.size)
                  (fun h0 g hg ad had => by
                    obtain ⟨g', o', e', hg', _⟩ := HL.out.at_ (i := 0) h0
                    rw [had] at e'
                    cases e'
                    have := (hS3.row.lt g hg).1
                    intro he
                    simp only at he
                    omega) (by omega)))
                rw [← HIO.out.2.1] at HT
                obtain ⟨nr, hnr⟩ : ∃ x, x = N + M' := ⟨_, rfl⟩
                rw [← hnr] at HT
                clear hS3 hq3 HI HS2 hnr d0 d1 d2 d3
                go_wp2_with fail
                refine HT.out.mono ?_
                rintro e w4 ⟨Ar, cr, rfl, hS4⟩
                have HS4 := Lib.hid hS4
                have hfl : (Pl.group tt.L).length ≤ bf + 2 := by rw [HBF.out.1]; exact HIO.out.2.2
                clear hS4 HT f1 f3
                have HP4 := Lib.hid (show Calls Try.prog 27 #[.pointer (some ⟨p, 0, none⟩)] w4 (RetP w4 (Pl.group (Tab.L tt))) by
                  obtain ⟨F, h1⟩ := HS4.out.tb
                  exact pieces_tb h1)
                unfold RetP at HP4
                obtain ⟨fk, hfk⟩ : ∃ x, x = (Pl.group (Tab.L tt)).length := ⟨_, rfl⟩
                rw [← hfk] at HP4 hfl
                clear hfk
                go_wp2_with fail
                refine HP4.out.mono ?_
                rintro e w5' ⟨A8, c8, rfl, _, hb5⟩
                have HST := Lib.hid (HS4.out.then_ hb5)
                have e4 : decide ((bf:Int)+2<(fk:Int)) = false := decide_eq_false (by omega)
                clear hb5 HP4 HS4
                go_wp2_with fail
                go_meet
                exact ⟨tt, mm, Ar, nr, cr, _, rfl, hmmb, HST.out⟩
            · as_aux_lemma =>
                have hib := ins_bad (t := t) pos (ts.take M') (by omega)
                have HI := Lib.hid (St.did HS2.out (fun F hF => ins_tb hF pos hI1 A' M' c' (ts.take M') ((HL.out.below HS2.out.bel (Nat.le_refl _)).more HS2.out.bel.size) (by omega)))
                rw [hib.1, hib.2] at HI
                obtain ⟨tt, htt⟩ : ∃ x, x = t := ⟨_, rfl⟩
                have hfl : (Pl.group tt.L).length ≤ bf + 2 := by rw [HBF.out.1, htt]; omega
                have htx : t.text = tt.text := by rw [htt]
                rw [← htt] at HI
                have hmmb : m + M' ≤ 300 + 100 * (j + 1) := by omega
                clear hib htt htx HS2 hok1
                by_cases hp0 : 0 ≤ pos
                · have hpN : ¬ pos ≤ (N : Int) := fun h => hok ⟨hp0, h⟩
                  have e1 : decide (0 ≤ pos) = true := decide_eq_true hp0
                  have e2 : decide (pos ≤ (N : Int)) = false := decide_eq_false hpN
                  clear hok
                  go_wp2_with fail
                  refine HI.out.mono ?_
                  rintro e w4 ⟨rfl, hS4⟩
                  have HS4 := Lib.hid hS4
                  clear hS4 HI
                  have HP4 := Lib.hid (show Calls Try.prog 27 #[.pointer (some ⟨p, 0, none⟩)] w4 (RetP w4 (Pl.group (Tab.L tt))) by
                    obtain ⟨F, h1⟩ := HS4.out.tb
                    exact pieces_tb h1)
                  unfold RetP at HP4
                  obtain ⟨fk, hfk⟩ : ∃ x, x = (Pl.group (Tab.L tt)).length := ⟨_, rfl⟩
                  rw [← hfk] at HP4 hfl
                  clear hfk
                  go_wp2_with fail
                  refine HP4.out.mono ?_
                  rintro e w5' ⟨A8, c8, rfl, _, hb5⟩
                  have HST := Lib.hid (HS4.out.then_ hb5)
                  have e4 : decide ((bf:Int)+2<(fk:Int)) = false := decide_eq_false (by omega)
                  clear hb5 HP4 HS4
                  go_wp2_with fail
                  go_meet
                  exact ⟨tt, m + M', A3, N, c3, _, rfl, hmmb, HST.out⟩
                · have e1 : decide (0 ≤ pos) = false := decide_eq_false hp0
                  clear hok
                  go_wp2_with fail
                  refine HI.out.mono ?_
                  rintro e w4 ⟨rfl, hS4⟩
                  have HS4 := Lib.hid hS4
                  clear hS4 HI
                  have HP4 := Lib.hid (show Calls Try.prog 27 #[.pointer (some ⟨p, 0, none⟩)] w4 (RetP w4 (Pl.group (Tab.L tt))) by
                    obtain ⟨F, h1⟩ := HS4.out.tb
                    exact pieces_tb h1)
                  unfold RetP at HP4
                  obtain ⟨fk, hfk⟩ : ∃ x, x = (Pl.group (Tab.L tt)).length := ⟨_, rfl⟩
                  rw [← hfk] at HP4 hfl
                  clear hfk
                  go_wp2_with fail
                  refine HP4.out.mono ?_
                  rintro e w5' ⟨A8, c8, rfl, _, hb5⟩
                  have HST := Lib.hid (HS4.out.then_ hb5)
                  have e4 : decide ((bf:Int)+2<(fk:Int)) = false := decide_eq_false (by omega)
                  clear hb5 HP4 HS4
                  go_wp2_with fail
                  go_meet
                  exact ⟨tt, m + M', A3, N, c3, _, rfl, hmmb, HST.out⟩
          · have hk0 : (what == 0) = false := by rw [beq_eq_false_iff_ne]; exact k0
            by_cases k1 : what = 1
            · subst k1
              have hok1 : t.L.length = N := by rw [← Pl.len_text]; exact HBF.out.2.symm
              by_cases hok : 0 ≤ pos ∧ 0 ≤ nn ∧ pos ≤ (N : Int) ∧ nn ≤ (N : Int) - pos
              · as_aux_lemma =>
                  obtain ⟨k, rfl⟩ : ∃ k : Nat, pos = (k : Int) := ⟨pos.toNat, by omega⟩
                  obtain ⟨q, rfl⟩ : ∃ q : Nat, nn = (q : Int) := ⟨nn.toNat, by omega⟩
                  have hkN : k + q ≤ N := by omega
                  have e1 : decide ((k : Int) ≤ (N : Int)) = true := decide_eq_true (by omega)
                  have e2 : decide (k ≤ N) = true := decide_eq_true (by omega)
                  have e3 : decide ((q : Int) ≤ (N : Int) - (k : Int)) = true := decide_eq_true (by omega)
                  have hio := del_ok (t := t) k q (by omega)
                  have HI := Lib.hid (St.did HS2.out (fun F hF => del_tb hF (k : Int) (q : Int) (Pl.I.mk (by omega))))
                  rw [hio.1] at HI
                  obtain ⟨tt, htt⟩ : ∃ x, x = Pl.delT t (k : Int) (q : Int) := ⟨_, rfl⟩
                  rw [← htt] at HI hio
                  have hmmb : m ≤ 300 + 100 * (j + 1) := by omega
                  have HIO := Lib.hid hio
                  clear hok hok1 htt hio
                  go_wp2_with fail
                  refine HI.out.mono ?_
                  rintro e w3 ⟨rfl, hS3⟩
                  have hq3 := hS3.box_
                  simp only at hq3
                  have f1 := cell1 hq3
                  have f2 := cell2 hq3
                  have HT := Lib.hid (St.turned hS3 (delC_any w3 w.heap.size A3 N c3 t.text hS3.row k q hkN))
                  rw [← HIO.out.2.1] at HT
                  obtain ⟨nr, hnr⟩ : ∃ x, x = N - q := ⟨_, rfl⟩
                  have hcast : ((k + q : Nat) : Int) = (k : Int) + (q : Int) := by omega
                  rw [← hnr, hcast] at HT
                  clear hS3 hq3 HI HS2 hnr d0 d1 d2 d3 hcast
                  go_wp2_with fail
                  refine HT.out.mono ?_
                  rintro e w4 ⟨Ar, cr, rfl, hS4⟩
                  have HS4 := Lib.hid hS4
                  have hfl : (Pl.group tt.L).length ≤ bf + 1 := by rw [HBF.out.1]; exact HIO.out.2.2
                  clear hS4 HT f1 f2
                  have HP4 := Lib.hid (show Calls Try.prog 27 #[.pointer (some ⟨p, 0, none⟩)] w4 (RetP w4 (Pl.group (Tab.L tt))) by
                    obtain ⟨F, h1⟩ := HS4.out.tb
                    exact pieces_tb h1)
                  unfold RetP at HP4
                  obtain ⟨fk, hfk⟩ : ∃ x, x = (Pl.group (Tab.L tt)).length := ⟨_, rfl⟩
                  rw [← hfk] at HP4 hfl
                  clear hfk
                  go_wp2_with fail
                  refine HP4.out.mono ?_
                  rintro e w5' ⟨A8, c8, rfl, _, hb5⟩
                  have HST := Lib.hid (HS4.out.then_ hb5)
                  have e4 : decide ((bf:Int)+1<(fk:Int)) = false := decide_eq_false (by omega)
                  clear hb5 HP4 HS4
                  go_wp2_with fail
                  go_meet
                  exact ⟨tt, m, Ar, nr, cr, _, rfl, hmmb, HST.out⟩
              · as_aux_lemma =>
                  have hib := del_bad (t := t) pos nn (by omega)
                  have HI := Lib.hid (St.did HS2.out (fun F hF => del_tb hF pos nn hI1))
                  rw [hib.1, hib.2] at HI
                  obtain ⟨tt, htt⟩ : ∃ x, x = t := ⟨_, rfl⟩
                  have hfl : (Pl.group tt.L).length ≤ bf + 1 := by rw [HBF.out.1, htt]; omega
                  have htx : t.text = tt.text := by rw [htt]
                  rw [← htt] at HI
                  have hmmb : m ≤ 300 + 100 * (j + 1) := by omega
                  clear hib htt htx HS2 hok1
                  by_cases hp0 : 0 ≤ pos
                  · have e1 : decide (0 ≤ pos) = true := decide_eq_true hp0
                    by_cases hn0 : 0 ≤ nn
                    · have e2 : decide (0 ≤ nn) = true := decide_eq_true hn0
                      by_cases hpN : pos ≤ (N : Int)
                      · have e3 : decide (pos ≤ (N : Int)) = true := decide_eq_true hpN
                        have hnN : ¬ nn ≤ (N : Int) - pos := fun h => hok ⟨hp0, hn0, hpN, h⟩
                        have e5 : decide (nn ≤ (N : Int) - pos) = false := decide_eq_false hnN
                        clear hok
                        go_wp2_with fail
                        refine HI.out.mono ?_
                        rintro e w4 ⟨rfl, hS4⟩
                        have HS4 := Lib.hid hS4
                        clear hS4 HI
                        have HP4 := Lib.hid (show Calls Try.prog 27 #[.pointer (some ⟨p, 0, none⟩)] w4 (RetP w4 (Pl.group (Tab.L tt))) by
                          obtain ⟨F, h1⟩ := HS4.out.tb
                          exact pieces_tb h1)
                        unfold RetP at HP4
                        obtain ⟨fk, hfk⟩ : ∃ x, x = (Pl.group (Tab.L tt)).length := ⟨_, rfl⟩
                        rw [← hfk] at HP4 hfl
                        clear hfk
                        go_wp2_with fail
                        refine HP4.out.mono ?_
                        rintro e w5' ⟨A8, c8, rfl, _, hb5⟩
                        have HST := Lib.hid (HS4.out.then_ hb5)
                        have e4 : decide ((bf:Int)+1<(fk:Int)) = false := decide_eq_false (by omega)
                        clear hb5 HP4 HS4
                        go_wp2_with fail
                        go_meet
                        exact ⟨tt, m, A3, N, c3, _, rfl, hmmb, HST.out⟩
                      · have e3 : decide (pos ≤ (N : Int)) = false := decide_eq_false hpN
                        clear hok
                        go_wp2_with fail
                        refine HI.out.mono ?_
                        rintro e w4 ⟨rfl, hS4⟩
                        have HS4 := Lib.hid hS4
                        clear hS4 HI
                        have HP4 := Lib.hid (show Calls Try.prog 27 #[.pointer (some ⟨p, 0, none⟩)] w4 (RetP w4 (Pl.group (Tab.L tt))) by
                          obtain ⟨F, h1⟩ := HS4.out.tb
                          exact pieces_tb h1)
                        unfold RetP at HP4
                        obtain ⟨fk, hfk⟩ : ∃ x, x = (Pl.group (Tab.L tt)).length := ⟨_, rfl⟩
                        rw [← hfk] at HP4 hfl
                        clear hfk
                        go_wp2_with fail
                        refine HP4.out.mono ?_
                        rintro e w5' ⟨A8, c8, rfl, _, hb5⟩
                        have HST := Lib.hid (HS4.out.then_ hb5)
                        have e4 : decide ((bf:Int)+1<(fk:Int)) = false := decide_eq_false (by omega)
                        clear hb5 HP4 HS4
                        go_wp2_with fail
                        go_meet
                        exact ⟨tt, m, A3, N, c3, _, rfl, hmmb, HST.out⟩
                    · have e2 : decide (0 ≤ nn) = false := decide_eq_false hn0
                      clear hok
                      go_wp2_with fail
                      refine HI.out.mono ?_
                      rintro e w4 ⟨rfl, hS4⟩
                      have HS4 := Lib.hid hS4
                      clear hS4 HI
                      have HP4 := Lib.hid (show Calls Try.prog 27 #[.pointer (some ⟨p, 0, none⟩)] w4 (RetP w4 (Pl.group (Tab.L tt))) by
                        obtain ⟨F, h1⟩ := HS4.out.tb
                        exact pieces_tb h1)
                      unfold RetP at HP4
                      obtain ⟨fk, hfk⟩ : ∃ x, x = (Pl.group (Tab.L tt)).length := ⟨_, rfl⟩
                      rw [← hfk] at HP4 hfl
                      clear hfk
                      go_wp2_with fail
                      refine HP4.out.mono ?_
                      rintro e w5' ⟨A8, c8, rfl, _, hb5⟩
                      have HST := Lib.hid (HS4.out.then_ hb5)
                      have e4 : decide ((bf:Int)+1<(fk:Int)) = false := decide_eq_false (by omega)
                      clear hb5 HP4 HS4
                      go_wp2_with fail
                      go_meet
                      exact ⟨tt, m, A3, N, c3, _, rfl, hmmb, HST.out⟩
                  · have e1 : decide (0 ≤ pos) = false := decide_eq_false hp0
                    clear hok
                    go_wp2_with fail
                    refine HI.out.mono ?_
                    rintro e w4 ⟨rfl, hS4⟩
                    have HS4 := Lib.hid hS4
                    clear hS4 HI
                    have HP4 := Lib.hid (show Calls Try.prog 27 #[.pointer (some ⟨p, 0, none⟩)] w4 (RetP w4 (Pl.group (Tab.L tt))) by
                      obtain ⟨F, h1⟩ := HS4.out.tb
                      exact pieces_tb h1)
                    unfold RetP at HP4
                    obtain ⟨fk, hfk⟩ : ∃ x, x = (Pl.group (Tab.L tt)).length := ⟨_, rfl⟩
                    rw [← hfk] at HP4 hfl
                    clear hfk
                    go_wp2_with fail
                    refine HP4.out.mono ?_
                    rintro e w5' ⟨A8, c8, rfl, _, hb5⟩
                    have HST := Lib.hid (HS4.out.then_ hb5)
                    have e4 : decide ((bf:Int)+1<(fk:Int)) = false := decide_eq_false (by omega)
                    clear hb5 HP4 HS4
                    go_wp2_with fail
                    go_meet
                    exact ⟨tt, m, A3, N, c3, _, rfl, hmmb, HST.out⟩
            · have hk1 : (what == 1) = false := by rw [beq_eq_false_iff_ne]; exact k1
              by_cases k3 : what = 3
              · as_aux_lemma =>
                  subst k3
                  have HI := Lib.hid (St.did HS2.out (fun F hF => flat_tb hF))
                  obtain ⟨tt, htt⟩ : ∃ x, x = Pl.fresh t.text := ⟨_, rfl⟩
                  have httx : tt.text = t.text := by rw [htt]; exact Pl.fresh_text _
                  have hfl : (Pl.group tt.L).length ≤ 1 := by
                    rw [htt]
                    rcases Nat.eq_zero_or_pos t.text.length with h | h
                    · rw [fresh_nil h]; simp
                    · rw [fresh_one h]; simp
                  rw [← htt, ← httx] at HI
                  have hmmb : m ≤ 300 + 100 * (j + 1) := by omega
                  clear htt httx HS2
                  go_wp2_with fail
                  refine HI.out.mono ?_
                  rintro e w4 ⟨rfl, hS4⟩
                  have HS4 := Lib.hid hS4
                  clear hS4 HI
                  have HP4 := Lib.hid (show Calls Try.prog 27 #[.pointer (some ⟨p, 0, none⟩)] w4 (RetP w4 (Pl.group (Tab.L tt))) by
                    obtain ⟨F, h1⟩ := HS4.out.tb
                    exact pieces_tb h1)
                  unfold RetP at HP4
                  obtain ⟨fk, hfk⟩ : ∃ x, x = (Pl.group (Tab.L tt)).length := ⟨_, rfl⟩
                  rw [← hfk] at HP4 hfl
                  clear hfk
                  go_wp2_with fail
                  refine HP4.out.mono ?_
                  rintro e w5' ⟨A8, c8, rfl, _, hb5⟩
                  have HST := Lib.hid (HS4.out.then_ hb5)
                  have e4 : decide ((fk:Int)>1) = false := decide_eq_false (by omega)
                  clear hb5 HP4 HS4
                  go_wp2_with fail
                  go_meet
                  exact ⟨tt, m, A3, N, c3, _, rfl, hmmb, HST.out⟩
              · as_aux_lemma =>
                  have hk3 : (what == 3) = false := by rw [beq_eq_false_iff_ne]; exact k3
                  have hmmb : m ≤ 300 + 100 * (j + 1) := by omega
                  go_wp2_with fail
                  go_meet
                  exact ⟨t, m, A3, N, c3, _, rfl, hmmb, HS2.out⟩
        case rest =>
          obtain ⟨tt, mm, Ar, nr, cr, bx, rfl, hmmb, hST⟩ := hcut
          clear HL HLL HS2 HBF
          have HST := Lib.hid hST
          have HPP := Lib.hid (show Calls Try.prog 27 #[.pointer (some ⟨p, 0, none⟩)] wc (RetP wc (Pl.group (Tab.L tt))) by
            obtain ⟨F, h1⟩ := HST.out.tb
            exact pieces_tb h1)
          have hTl : (Tab.L tt).length ≤ mm := by obtain ⟨F, h1⟩ := HST.out.tb; exact h1.ok.len
          have HTT := Lib.hid (Pl.total_group (Tab.L tt))
          have HNI := Lib.hid (Pl.group_nice (Tab.L tt))
          have HPB := Lib.hid (show ∀ x ∈ Pl.group (Tab.L tt), x.at_ + x.len ≤ 1000000 by
            obtain ⟨F, h1⟩ := HST.out.tb
            intro x hx
            have h2 := h1.ok.pc_group hx
            have h3 := h1.ok.2.2
            have h4 : ((Tab.buf tt) x.s).length ≤ (Tab.fst tt).length + (Tab.snd tt).length := by cases x.s <;> simp [Tab.buf]
            omega)
          obtain ⟨ps, hps⟩ : ∃ ps, ps = Pl.group (Tab.L tt) := ⟨_, rfl⟩
          rw [← hps] at HPP HTT HNI HPB
          obtain ⟨np, hnp⟩ : ∃ k, k = ps.length := ⟨_, rfl⟩
          unfold RetP at HPP
          rw [← hnp] at HPP
          have hnb : np ≤ 1000000 := by have := Pl.group_len (Tab.L tt); rw [← hps] at this; omega
          have HNP := Lib.hid hnp
          obtain ⟨tl, htl⟩ : ∃ k, k = (Tab.L tt).length := ⟨_, rfl⟩
          rw [← htl] at hTl HTT
          have hnrl : nr = tl := by rw [htl, ← Pl.len_text]; exact HST.out.row.crs.1
          subst hnrl
          have HTL := Lib.hid htl
          have HXL := Lib.hid (show (Tab.text tt).length = nr by rw [Pl.len_text]; exact htl.symm)
          clear hps hnp htl hST
          go_wp2_with fail
          refine HPP.out.mono ?_
          rintro e w4 ⟨A4, c4, rfl, hO4, hb4⟩
          have HO4 := Lib.hid hO4
          have HST4 := Lib.hid (HST.out.then_ hb4)
          clear hO4 hb4 HPP
          go_wp2_with fail
          go_loopw [12, 145] (fun s i wr => R2 w4 ps s i wr) (fun _ i _ => np - (intOf i).toNat)
          case atStart => exact ⟨0, rfl, Nat.zero_le _, rfl, Below.refl _ _⟩
          case round =>
            obtain ⟨k, rfl, hk, rfl, hb⟩ := hrel
            rw [← HNP.out] at hk
            have HB2 := Lib.hid hb
            by_cases hlt2 : k < np
            · obtain ⟨g2, o2, rfl, hg2, hc0⟩ := Pcs.at_ (Rws.below (OwnR.rws encP_len HO4.out).2 hb (Nat.le_refl _)) hlt2
              obtain ⟨y0, y1, y2⟩ := hc0 k hlt2
              have htk := Pl.total_take ps k (by rw [← HNP.out]; exact hlt2)
              have htl2 := Pl.total_take_le ps (k + 1)
              rw [HTT.out] at htl2
              have hl1 := HNI.out.1 (ps.getD k default) (by rw [List.getD_eq_getElem?_getD, List.getElem?_eq_getElem (by rw [← HNP.out]; exact hlt2)]; exact List.getElem_mem _)
              have hnice := HNI.out.2
              obtain ⟨q, hq⟩ : ∃ q, q = Pl.total (ps.take k) := ⟨_, rfl⟩
              obtain ⟨q2, hq2⟩ : ∃ q, q = Pl.total (ps.take (k + 1)) := ⟨_, rfl⟩
              rw [← hq2] at htk htl2
              rw [← hq] at htk
              rw [← hq]
              obtain ⟨⟨s, a, l2⟩, hx⟩ : ∃ x, x = ps.getD k default := ⟨_, rfl⟩
              rw [← hx] at y0 y1 y2 hl1 htk
              simp only at y0 y1 y2 hl1 htk
              have e1 : decide ((l2 : Int) < 1) = false := decide_eq_false (by omega)
              have e2 : decide ((a : Int) < 0) = false := decide_eq_false (by omega)
              have HQ2 := Lib.hid (And.intro hq2 htk)
              have hqb : q + l2 ≤ 1000000 := by omega
              rcases Nat.eq_zero_or_pos k with hk0 | hk0
              · as_aux_lemma =>
                  have e3 : decide ((0 : Int) < (k : Int)) = false := decide_eq_false (by omega)
                  have e4 : decide (0 < k) = false := decide_eq_false (by omega)
                  clear hc0 hx hq hq2 hb hnice htk htl2 hl1 hk0
                  go_wp2_with fail
                  go_quiet (fail)
                  go_wp2_with fail
                  go_roundw
                  case rel => exact ⟨k + 1, by go_num, by rw [← HNP.out]; omega, by rw [← HQ2.out.1, HQ2.out.2]; go_num, (HB2.out.alloc HB2.out.size _).dn _⟩
                  case measure => simp [intOf]; omega
              · as_aux_lemma =>
                  have e3 : decide ((0 : Int) < (k : Int)) = true := decide_eq_true (by omega)
                  have e4 : decide (0 < k) = true := decide_eq_true (by omega)
                  obtain ⟨k1, hk1⟩ : ∃ k1, k = k1 + 1 := ⟨k - 1, by omega⟩
                  obtain ⟨z0, z1, z2⟩ := hc0 k1 (by omega)
                  have hfol := hnice k1 (by rw [← HNP.out]; omega)
                  rw [← hk1, ← hx] at hfol
                  have hlz := HNI.out.1 (ps.getD k1 default) (by rw [List.getD_eq_getElem?_getD, List.getElem?_eq_getElem (by rw [← HNP.out]; omega)]; exact List.getElem_mem _)
                  obtain ⟨⟨s9, a9, l9⟩, hx9⟩ : ∃ x, x = ps.getD k1 default := ⟨_, rfl⟩
                  rw [← hx9] at z0 z1 z2 hfol
                  simp only at z0 z1 z2
                  have hkk : (k : Int) - 1 = (k1 : Int) := by omega
                  have hkw : IntKind.i64.wrap (k1 : Int) = (k1 : Int) := by rw [IntKind.wrap_i64]; omega
                  have hkk1 : k1 < np := by omega
                  have hab := HPB.out ⟨s9, a9, l9⟩ (by rw [hx9, List.getD_eq_getElem?_getD, List.getElem?_eq_getElem (by rw [← HNP.out]; omega)]; exact List.getElem_mem _)
                  simp only at hab
                  have haw : IntKind.i64.wrap ((a9 : Int) + (l9 : Int)) = (a9 : Int) + (l9 : Int) := by rw [IntKind.wrap_i64]; omega
                  have hz0 : (0 : Int) ≤ (k1 : Int) := by omega
                  have hz1 : (k1 : Int) < (np : Int) := by omega
                  clear hc0 hx hq hq2 hb hnice htk htl2 hl1 hk0 hx9 hlz hk1
                  by_cases hs : s9 = s
                  · subst hs
                    have hne : ¬ ((a9 : Int) + (l9 : Int) = (a : Int)) := fun h => hfol ⟨rfl, by simp only; omega⟩
                    have e5 : ((a9 : Int) + (l9 : Int) == (a : Int)) = false := by rw [beq_eq_false_iff_ne]; exact hne
                    have e6 : (s9 == s9) = true := by simp
                    have z0' := Lib.cell?_alloc_some (.cells #[.bool s9, .int .i64 (a : Int), .int .i64 (l2 : Int)] 59) z0
                    have z1' := Lib.cell?_alloc_some (.cells #[.bool s9, .int .i64 (a : Int), .int .i64 (l2 : Int)] 59) z1
                    have z2' := Lib.cell?_alloc_some (.cells #[.bool s9, .int .i64 (a : Int), .int .i64 (l2 : Int)] 59) z2
                    clear hfol
                    go_wp2_with fail
                    go_quiet (fail)
                    go_wp2_with fail
                    go_roundw
                    case rel => exact ⟨k + 1, by go_num, by rw [← HNP.out]; omega, by rw [← HQ2.out.1, HQ2.out.2]; go_num, (HB2.out.alloc HB2.out.size _).dn _⟩
                    case measure => simp [intOf]; omega
                  · have e5 : (s9 == s) = false := by rw [beq_eq_false_iff_ne]; exact hs
                    have z0' := Lib.cell?_alloc_some (.cells #[.bool s, .int .i64 (a : Int), .int .i64 (l2 : Int)] 59) z0
                    clear hfol
                    go_wp2_with fail
                    go_quiet (fail)
                    go_wp2_with fail
                    go_roundw
                    case rel => exact ⟨k + 1, by go_num, by rw [← HNP.out]; omega, by rw [← HQ2.out.1, HQ2.out.2]; go_num, (HB2.out.alloc HB2.out.size _).dn _⟩
                    case measure => simp [intOf]; omega
            · as_aux_lemma =>
                have hkn : k = np := by omega
                have hto : Pl.total (ps.take k) = nr := by rw [hkn, HNP.out, List.take_length, HTT.out]
                rw [hto]
                have hST5 := HST4.out.then_ hb
                have HST5 := Lib.hid hST5
                have HTX := Lib.hid (show Calls Try.prog 25 #[.pointer (some ⟨p, 0, none⟩)] wr (RetC wr (Tab.text tt)) by
                  obtain ⟨F, h1⟩ := hST5.tb
                  exact text_tb h1)
                unfold RetC at HTX
                rw [HXL.out] at HTX
                clear hkn hto hST5 hb
                go_wp2_with fail
                refine HTX.out.mono ?_
                rintro e w5 ⟨A5, c5, rfl, hO5, hb5⟩
                have HST6 := Lib.hid (HST5.out.then_ hb5)
                have hEQ := equalC_any A5 Ar nr c5 nr cr (Tab.text tt) (Tab.text tt) w5 hO5.crs.2 HST6.out.row.crs.2
                rw [decide_eq_true rfl] at hEQ
                have HEQ := Lib.hid hEQ
                clear hO5 hb5 hEQ HTX
                go_wp2_with fail
                refine HEQ.out.mono ?_
                rintro e w6 ⟨rfl, hb6⟩
                have HST7 := Lib.hid (HST6.out.then_ hb6)
                have HLN := Lib.hid (show Calls Try.prog 24 #[.pointer (some ⟨p, 0, none⟩)] w6 (fun e w' => e = .returned (.int .i64 ((nr : Nat) : Int)) ∧ Below w6.heap.size w6 w') by
                  obtain ⟨F, h1⟩ := HST7.out.tb
                  have := len_tb h1
                  rwa [← HTL.out] at this)
                clear hb6 HEQ
                go_wp2_with fail
                refine HLN.out.mono ?_
                rintro e w7 ⟨rfl, hb7⟩
                have HST8 := Lib.hid (HST7.out.then_ hb7)
                clear hb7 HLN
                go_wp2_with fail
                go_roundw
                case rel => exact ⟨j + 1, tt, mm, Ar, cr, by go_num, by omega, by omega, by omega, by rw [HXL.out], by rw [HXL.out]; exact HST8.out.nobox⟩
                case measure => simp [intOf]; omega
      · obtain ⟨g, o, A', n', c', rfl, hg, x0, hI0, x1', hI1, x2, hI2, x3, hC⟩ := HB.out.2.2.2 j hlt
        obtain ⟨⟨what, pos, nn, ts⟩, ht⟩ : ∃ t, t = l.getD j default := ⟨_, rfl⟩
        rw [← ht] at x0 hI0 x1' hI1 x2 hI2 hC
        simp only at x0 hI0 x1' hI1 x2 hI2 hC
        rw [← hH.bel.cell (p := ⟨g, _, none⟩) hg] at x0 x1' x2 x3
        have b60 : ((j : Int) == 60) = true := by rw [beq_iff_eq]; omega
        obtain ⟨V, hV, hbV, _⟩ := act_new wr what pos nn A' n' c'
        have HBV := Lib.hid (hH.then_ hbV).bel
        have HV := Lib.hid hV
        clear ht hC hH hV hbV
        go_wp2_with fail
        rw [← HV.out]
        refine (awake_any V).mono ?_
        rintro e v1 ⟨rfl, hb1⟩
        have HBE := Lib.hid (HBV.out.trans (hb1.mono HBV.out.size))
        clear hb1
        go_wp2_with fail
        go_ret
        exact ⟨rfl, HBE.out⟩
    · have hjn : j = nl := by omega
      have HBV := Lib.hid hH.bel
      clear hH
      go_wp2_with fail
      refine (awake_any wr).mono ?_
      rintro e v1 ⟨rfl, hb1⟩
      have HBE := Lib.hid (HBV.out.trans (hb1.mono HBV.out.size))
      clear hb1
      go_wp2_with fail
      go_ret
      exact ⟨rfl, HBE.out⟩
end Go.Proofs.Ytogmddneimhpeaa.pieceText
