/-
  The walk of copybooklaw05.PieceReads: it returns true for every text, all calls and every place; nothing that was there turned. No conditions.
-/
import Derived.Test.YtpebkjejjogkkaaPceR
import Derived.StillTailTactics
namespace Go.Proofs.Ytpebkjejjogkkaa.pieceReads
open Go.RowKit
open Pl (Pc Plc Tab)

def R1 (w : World) (n p : Nat) (i : Value) (wr : World) : Prop := ∃ (j : Nat) (t : Tab) (m : Nat), i = .int .i64 (j : Int) ∧ j ≤ n ∧ j ≤ 20 ∧ m ≤ 300 + 100 * j ∧ Has w.heap.size w p t m wr


set_option maxRecDepth 100000 in
set_option maxHeartbeats 16000000 in
theorem walk (w : World) (A : Option Addr) (n c : Nat) (cs0 : List Int) (hA : Crs w w.heap.size A n c cs0) (B : Option Addr) (nl d : Nat) (l : List Act5) (hB : Acts w w.heap.size B nl d l) (at_ : Nat) (hat : at_ < 65536) :
    Calls Try.prog 6 #[.slice A n c, .slice B nl d, .int .u16 (at_ : Int)] w fun e w' => e = .returned (.bool true) ∧ Below w.heap.size w w' := by
  obtain ⟨M, hM⟩ : ∃ M, M = min n 300 := ⟨_, rfl⟩
  have rM := min_run (n : Int) 300 (M : Int) (by omega)
  have sM := slice_toC A n c M (by have := hA.le; omega)
  have HA := hA.upto (k := M) (by omega)
  have hMb : M ≤ 300 := by omega
  have hn9 : n ≤ 9223372036854775807 := by have := hA.le; have := hA.cap; unfold maxLen at *; omega
  have hl9 : nl ≤ 9223372036854775807 := by have := hB.2.1; have := hB.2.2.1; unfold maxLen at *; omega
  have HN := Lib.hid (new_has (base := w.heap.size) (w0 := w) A M c (cs0.take M) w HA (by omega) (Below.refl _ w) (Nat.le_refl _))
  have HB := Lib.hid hB
  clear hA hB HA hM
  go_enter Try.func6, Try.ntmps6
  go_wp2_with fail
  refine HN.out.mono ?_
  rintro e w1 ⟨p, rfl, hT1, _⟩
  have HT1 := Lib.hid hT1
  clear hT1 HN rM sM
  go_wp2_with fail
  go_loopw [30] (fun i wr => R1 w nl p i wr) (fun i _ => nl - (intOf i).toNat)
  case atStart => exact ⟨0, _, M, rfl, Nat.zero_le _, Nat.zero_le _, by omega, HT1.out⟩
  case round =>
    obtain ⟨j, t, m, rfl, hj, h20, hm, hH⟩ := hrel
    by_cases hlt : j < nl
    · by_cases hl20 : j < 20
      · obtain ⟨g, o, A', n', c', rfl, hg, x0, hI0, x1, hI1, x2, hI2, x3, hC⟩ := (HB.out.below hH.bel (Nat.le_refl _)).2.2.2 j hlt
        obtain ⟨⟨what, pos, nn, ts⟩, ht⟩ : ∃ t, t = l.getD j default := ⟨_, rfl⟩
        rw [← ht] at x0 hI0 x1 hI1 x2 hI2 hC
        simp only at x0 hI0 x1 hI1 x2 hI2 hC
        have b20 : ((j : Int) == 20) = false := by rw [beq_eq_false_iff_ne]; omega
        obtain ⟨V, hV, hbV, hqV⟩ := act_new wr what pos nn A' n' c'
        have hz := hH.bel.size
        have HV := Lib.hid hV
        have H1 := Lib.hid (hH.grow hbV hz)
        have HC := Lib.hid ((hC.below (hbV.mono hz) (Nat.le_refl _)).more (Nat.le_trans hz hbV.size))
        have HQ := Lib.hid hqV
        have HL := Lib.hid (len_has H1.out)
        have hLm := hH.len
        have HLM := Lib.hid hLm
        obtain ⟨N, hN⟩ : ∃ N, N = t.L.length := ⟨_, rfl⟩
        rw [← hN] at HL hLm
        have HN := Lib.hid hN
        clear ht hV hbV hqV hH hC hN
        go_wp2_with fail
        rw [← HV.out]
        refine HL.out.mono ?_
        rintro e w2 ⟨rfl, hb2⟩
        have q2 := below_old hb2 HQ.out (lt_of_block HQ.out)
        have HZ := Lib.hid (lt_of_block q2)
        have d0 := cell0 q2
        have d1 := cell1 q2
        have d2 := cell2 q2
        have d3 := cell3 q2
        have H2 := Lib.hid (H1.out.grow hb2 H1.out.bel.size)
        have HC2 := Lib.hid (HC.out.then_ hb2)
        clear hb2 q2 HQ HL x0 x1 x2 x3
        by_cases k0 : what = 0
        · subst k0
          obtain ⟨M', hM'⟩ : ∃ M', M' = min n' 100 := ⟨_, rfl⟩
          have rM := min_run (n' : Int) 100 (M' : Int) (by omega)
          have sM := slice_toC A' n' c' M' (by have := HC2.out.le; omega)
          have hn9' : n' ≤ 9223372036854775807 := by have := HC2.out.le; have := HC2.out.cap; unfold maxLen at *; omega
          have hM1 : M' ≤ n' ∧ M' ≤ 100 := by omega
          obtain ⟨U, q, hu1, hu2, hu3, hq, hu4⟩ := Pl.round pos (N + 1) (by omega) (by omega)
          rw [Int.natCast_add, show ((1 : Nat) : Int) = 1 from rfl] at hu2 hu3
          have HI := Lib.hid (ins_has (w := w2.drew) (base := w.heap.size) (w0 := w) (show Has w.heap.size w p t m w2.drew from H2.out.grow (Below.refl _ w2).drew H2.out.bel.size) H2.out.bel.size (q : Int) (Pl.I.mk (by omega)) A' M' c' (ts.take M') (show Crs w2.drew w2.drew.heap.size A' M' c' (ts.take M') from HC2.out.upto hM1.1) (by omega))
          rw [Pl.reach0 (L := t.L.length) (pos := (q : Int)) (n := 0) (by omega) (by omega) (by have := HN.out; omega)] at HI
          clear hM'
          go_wp2_with fail
          have hne2 : ¬ ((N : Int) + 1 = 0) := by omega
          have hwi : IntKind.i64.wrap ((N : Int) + 1) = (N : Int) + 1 := by simp [IntKind.wrap, IntKind.bits, IntKind.signed]; omega
          have htm : (U : Int).tmod ((N : Int) + 1) = (q : Int) := by rw [Int.tmod_eq_emod_of_nonneg (by omega)]; exact hu3
          go_still_tail 16, (by kernel_rfl)
          change wpList _ _ _ _ _ w2.drew
          go_wp2_with fail
          refine HI.out.mono ?_
          rintro e w3 ⟨rfl, hT3⟩
          have HT3 := Lib.hid hT3
          clear hT3 HI rM sM hu1 hu2 hu3 hu4 hne2 hwi htm
          go_wp2_with fail
          go_roundw
          case rel => exact ⟨j + 1, _, m + M', by go_num, by omega, by omega, by omega, HT3.out⟩
          case measure => simp [intOf]; omega
        · have hk0 : (what == 0) = false := by rw [beq_eq_false_iff_ne]; exact k0
          rcases Nat.eq_zero_or_pos N with hN0 | hN0
          · subst hN0
            go_wp2_with fail
            go_roundw
            case rel => exact ⟨j + 1, t, m, by go_num, by omega, by omega, by omega, H2.out⟩
            case measure => simp [intOf]; omega
          · obtain ⟨U, q, hu1, hu2, hu3, hq, hu4⟩ := Pl.round pos N hN0 (by omega)
            obtain ⟨r, hr⟩ : ∃ r, r = N - q := ⟨_, rfl⟩
            have hri : (N : Int) - (q : Int) = (r : Int) := by omega
            obtain ⟨U2, s, hv1, hv2, hv3, hs, hv4⟩ := Pl.round nn (r + 1) (by omega) (by omega)
            rw [Int.natCast_add, show ((1 : Nat) : Int) = 1 from rfl] at hv2 hv3
            have hNb : (decide ((N : Int) > 0)) = true := decide_eq_true (by omega)
            have HI := Lib.hid (del_has H2.out H2.out.bel.size (q : Int) (s : Int) (Pl.I.mk (by omega)))
            rw [Pl.reach0 (L := t.L.length) (pos := (q : Int)) (n := (s : Int)) (by omega) (by omega) (by have := HN.out; omega)] at HI
            have HID := Lib.hid (show Has w.heap.size w p t m w2.drew from H2.out.grow (Below.refl _ w2).drew H2.out.bel.size)
            have HI2 := Lib.hid (del_has HID.out H2.out.bel.size (q : Int) (s : Int) (Pl.I.mk (by omega)))
            rw [Pl.reach0 (L := t.L.length) (pos := (q : Int)) (n := (s : Int)) (by omega) (by omega) (by have := HN.out; omega)] at HI2
            clear hr
            go_wp2_with fail
            refine HI.out.mono ?_
            rintro e w3 ⟨rfl, hT3⟩
            have HT3 := Lib.hid hT3
            clear hT3 HI HI2 HID hu1 hu2 hu3 hu4 hv1 hv2 hv3 hv4 hri
            go_wp2_with fail
            go_roundw
            case rel => exact ⟨j + 1, _, m, by go_num, by omega, by omega, by omega, HT3.out⟩
            case measure => simp [intOf]; omega
      · have hj20 : j = 20 := by omega
        obtain ⟨g, o, A', n', c', rfl, hg, x0, hI0, x1, hI1, x2, hI2, x3, hC⟩ := (HB.out.below hH.bel (Nat.le_refl _)).2.2.2 j hlt
        obtain ⟨⟨what, pos, nn, ts⟩, ht⟩ : ∃ t, t = l.getD j default := ⟨_, rfl⟩
        rw [← ht] at x0 hI0 x1 hI1 x2 hI2 hC
        simp only at x0 hI0 x1 hI1 x2 hI2 hC
        have b20 : ((j : Int) == 20) = true := by rw [beq_iff_eq]; omega
        obtain ⟨V, hV, hbV, _⟩ := act_new wr what pos nn A' n' c'
        have hH := hH.grow hbV hH.bel.size
        rw [hV] at hH
        clear ht hV hbV hC hj20
        have HX := Lib.hid hH
        have hLm := hH.len
        obtain ⟨N, hN⟩ : ∃ N, N = t.L.length := ⟨_, rfl⟩
        have HL := Lib.hid (len_has hH)
        rw [← hN] at HL hLm
        obtain ⟨k, hk⟩ : ∃ k, k = at_ % (N + 1) := ⟨_, rfl⟩
        have hkN : k ≤ N := by have := Nat.mod_lt at_ (show 0 < N + 1 by omega); omega
        have hrem : (at_ : Int) % ((N : Int) + 1) = (k : Int) := by rw [hk, Int.natCast_emod, Int.natCast_add]; rfl
        have HN := Lib.hid (And.intro hN hkN)
        clear hN hk hH
        go_wp2_with fail
        refine HL.out.mono ?_
        rintro e w1 ⟨rfl, hb1⟩
        have H1 := Lib.hid (HX.out.grow hb1 HX.out.bel.size)
        clear hb1 HL HX
        go_wp2_with fail
        try simp only [hrem]
        clear hrem
        have HR := Lib.hid (read_has H1.out 0 (k : Int) (Pl.I.mk (by omega)))
        rw [Pl.reach0 (L := t.L.length) (pos := 0) (n := (k : Int)) (by omega) (by omega) (by have := HN.out; omega), show Pl.readT t 0 (k : Int) = t.text.take k from Pl.read0 (t := t) (k := 0) (n := k) (by have := HN.out; omega)] at HR
        unfold RetRead at HR
        have hl : (t.text.take k).length = k := by rw [List.length_take, Pl.len_text, ← HN.out.1]; omega
        rw [hl] at HR
        clear hl
        go_wp2_with fail
        refine HR.out.mono ?_
        rintro e w2 ⟨A2, c2, rfl, hO2, hb2⟩
        have HO2 := Lib.hid hO2
        have HB2 := Lib.hid hb2
        have H2 := Lib.hid (H1.out.grow hb2 H1.out.bel.size)
        clear hO2 hb2 HR
        obtain ⟨r, hr⟩ : ∃ r, r = N - k := ⟨_, rfl⟩
        have hri : (N : Int) - (k : Int) = (r : Int) := by omega
        have HR := Lib.hid (read_has H2.out (k : Int) (r : Int) (Pl.I.mk (by omega)))
        rw [Pl.reach0 (L := t.L.length) (pos := (k : Int)) (n := (r : Int)) (by omega) (by omega) (by have := HN.out; omega), Pl.read0 (t := t) (k := k) (n := r) (by have := HN.out; omega)] at HR
        unfold RetRead at HR
        have hl : ((t.text.drop k).take r).length = r := by rw [List.length_take, List.length_drop, Pl.len_text, ← HN.out.1]; omega
        rw [hl] at HR
        have HRK := Lib.hid hr
        clear hl hr
        go_wp2_with fail
        try simp only [hri]
        refine HR.out.mono ?_
        rintro e w3 ⟨A3, c3, rfl, hO3, hb3⟩
        have HO3 := Lib.hid hO3
        have HB3 := Lib.hid hb3
        have H3 := Lib.hid (H2.out.grow hb3 H2.out.bel.size)
        clear hO3 hb3 HR
        have HR := Lib.hid (read_has H3.out (k : Int) 0 (Pl.I.mk (by omega)))
        rw [Pl.reach0 (L := t.L.length) (pos := (k : Int)) (n := 0) (by omega) (by omega) (by have := HN.out; omega), show Pl.readT t (k : Int) 0 = [] by unfold Pl.readT; rw [Int.toNat_zero, List.take_zero]; split <;> rfl] at HR
        unfold RetRead at HR
        rw [List.length_nil] at HR
        go_wp2_with fail
        refine HR.out.mono ?_
        rintro e w4 ⟨A4, c4, rfl, _, hb4⟩
        have HB4 := Lib.hid hb4
        have H4 := Lib.hid (H3.out.grow hb4 H3.out.bel.size)
        clear hb4 HR
        have HR := Lib.hid (read_has H4.out (k : Int) ((r : Int) + 1) (Pl.I.mk (by omega)))
        rw [Pl.reach30 (L := t.L.length) (pos := (k : Int)) (n := (r : Int) + 1) (by have := HN.out; have := HRK.out; omega), show Pl.readT t (k : Int) ((r : Int) + 1) = [] by unfold Pl.readT; rw [Pl.reach30 (L := t.L.length) (pos := (k : Int)) (n := (r : Int) + 1) (by have := HN.out; have := HRK.out; omega)]; rfl] at HR
        unfold RetRead at HR
        rw [List.length_nil] at HR
        go_wp2_with fail
        try simp only [hri]
        go_wp2_with fail
        refine HR.out.mono ?_
        rintro e w5 ⟨A5, c5, rfl, _, hb5⟩
        have HB5 := Lib.hid hb5
        have H5 := Lib.hid (H4.out.grow hb5 H4.out.bel.size)
        clear hb5 HR hri
        go_wp2_with fail
        refine (awake_any w5).mono ?_
        rintro e w6 ⟨rfl, hb6⟩
        have hb26 : Below w2.heap.size w2 w6 := HB3.out.trans ((HB4.out.trans ((HB5.out.trans (hb6.mono HB5.out.size)).mono HB4.out.size)).mono HB3.out.size)
        have hb36 : Below w3.heap.size w3 w6 := HB4.out.trans ((HB5.out.trans (hb6.mono HB5.out.size)).mono HB4.out.size)
        have HO2' := Lib.hid (HO2.out.then_ hb26)
        have HO3' := Lib.hid (Crs.then_ HO3.out.crs.2 hb36)
        have HB16 := Lib.hid (below_then HB2.out hb26)
        clear hb6 hb26 hb36
        have h16 := HB16.out.size
        have hkr : k + r ≤ 2300 := by have := HN.out.2; have := HRK.out; omega
        go_wp2_with (at_builtin; refine wpList_append_crs_g w6 (by rfl) (.tmp 143) (.tmp 144) (by rfl) w1.heap.size A2 k c2 _ (by rfl) HO2'.out w6.heap.size A3 r c3 _ (by rfl) HO3'.out (by omega) h16 ?_)
        intro A7 c7 w7 hO7 hb7
        have H7 := Lib.hid (H1.out.grow (HB16.out.trans (hb7.mono (Nat.le_refl _))) H1.out.bel.size)
        have HO7 := Lib.hid hO7
        clear hO7 hb7 h16
        have HTX := Lib.hid (text_has H7.out)
        unfold RetC at HTX
        have hl : t.text.length = N := by rw [Pl.len_text, ← HN.out.1]
        rw [hl] at HTX
        clear hl
        go_wp2_with fail
        refine HTX.out.mono ?_
        rintro e w8 ⟨A8, c8, rfl, hO8, hb8⟩
        have H8 := Lib.hid (H7.out.grow hb8 H7.out.bel.size)
        have hEQ := equalC_any A7 A8 (k + r) c7 N c8 _ _ w8 (Crs.then_ HO7.out.crs.2 hb8) hO8.crs.2
        rw [decide_eq_true (by rw [HRK.out, HN.out.1, ← Pl.len_text, ← List.length_drop, List.take_length, List.take_append_drop])] at hEQ
        have HEQ := Lib.hid hEQ
        clear hEQ hO8 hb8 HTX
        go_wp2_with fail
        refine HEQ.out.mono ?_
        rintro e w9 ⟨rfl, hb9⟩
        have H9 := Lib.hid (H8.out.grow hb9 H8.out.bel.size)
        clear hb9 HEQ
        go_wp2_with fail
        go_ret
        exact ⟨rfl, H9.out.bel⟩
    · have hjn : j = nl := by omega
      clear hlt
      have HX := Lib.hid hH
      have hLm := hH.len
      obtain ⟨N, hN⟩ : ∃ N, N = t.L.length := ⟨_, rfl⟩
      have HL := Lib.hid (len_has hH)
      rw [← hN] at HL hLm
      obtain ⟨k, hk⟩ : ∃ k, k = at_ % (N + 1) := ⟨_, rfl⟩
      have hkN : k ≤ N := by have := Nat.mod_lt at_ (show 0 < N + 1 by omega); omega
      have hrem : (at_ : Int) % ((N : Int) + 1) = (k : Int) := by rw [hk, Int.natCast_emod, Int.natCast_add]; rfl
      have HN := Lib.hid (And.intro hN hkN)
      clear hN hk hH
      go_wp2_with fail
      refine HL.out.mono ?_
      rintro e w1 ⟨rfl, hb1⟩
      have H1 := Lib.hid (HX.out.grow hb1 HX.out.bel.size)
      clear hb1 HL HX
      go_wp2_with fail
      try simp only [hrem]
      clear hrem
      have HR := Lib.hid (read_has H1.out 0 (k : Int) (Pl.I.mk (by omega)))
      rw [Pl.reach0 (L := t.L.length) (pos := 0) (n := (k : Int)) (by omega) (by omega) (by have := HN.out; omega), show Pl.readT t 0 (k : Int) = t.text.take k from Pl.read0 (t := t) (k := 0) (n := k) (by have := HN.out; omega)] at HR
      unfold RetRead at HR
      have hl : (t.text.take k).length = k := by rw [List.length_take, Pl.len_text, ← HN.out.1]; omega
      rw [hl] at HR
      clear hl
      go_wp2_with fail
      refine HR.out.mono ?_
      rintro e w2 ⟨A2, c2, rfl, hO2, hb2⟩
      have HO2 := Lib.hid hO2
      have HB2 := Lib.hid hb2
      have H2 := Lib.hid (H1.out.grow hb2 H1.out.bel.size)
      clear hO2 hb2 HR
      obtain ⟨r, hr⟩ : ∃ r, r = N - k := ⟨_, rfl⟩
      have hri : (N : Int) - (k : Int) = (r : Int) := by omega
      have HR := Lib.hid (read_has H2.out (k : Int) (r : Int) (Pl.I.mk (by omega)))
      rw [Pl.reach0 (L := t.L.length) (pos := (k : Int)) (n := (r : Int)) (by omega) (by omega) (by have := HN.out; omega), Pl.read0 (t := t) (k := k) (n := r) (by have := HN.out; omega)] at HR
      unfold RetRead at HR
      have hl : ((t.text.drop k).take r).length = r := by rw [List.length_take, List.length_drop, Pl.len_text, ← HN.out.1]; omega
      rw [hl] at HR
      have HRK := Lib.hid hr
      clear hl hr
      go_wp2_with fail
      try simp only [hri]
      refine HR.out.mono ?_
      rintro e w3 ⟨A3, c3, rfl, hO3, hb3⟩
      have HO3 := Lib.hid hO3
      have HB3 := Lib.hid hb3
      have H3 := Lib.hid (H2.out.grow hb3 H2.out.bel.size)
      clear hO3 hb3 HR
      have HR := Lib.hid (read_has H3.out (k : Int) 0 (Pl.I.mk (by omega)))
      rw [Pl.reach0 (L := t.L.length) (pos := (k : Int)) (n := 0) (by omega) (by omega) (by have := HN.out; omega), show Pl.readT t (k : Int) 0 = [] by unfold Pl.readT; rw [Int.toNat_zero, List.take_zero]; split <;> rfl] at HR
      unfold RetRead at HR
      rw [List.length_nil] at HR
      go_wp2_with fail
      refine HR.out.mono ?_
      rintro e w4 ⟨A4, c4, rfl, _, hb4⟩
      have HB4 := Lib.hid hb4
      have H4 := Lib.hid (H3.out.grow hb4 H3.out.bel.size)
      clear hb4 HR
      have HR := Lib.hid (read_has H4.out (k : Int) ((r : Int) + 1) (Pl.I.mk (by omega)))
      rw [Pl.reach30 (L := t.L.length) (pos := (k : Int)) (n := (r : Int) + 1) (by have := HN.out; have := HRK.out; omega), show Pl.readT t (k : Int) ((r : Int) + 1) = [] by unfold Pl.readT; rw [Pl.reach30 (L := t.L.length) (pos := (k : Int)) (n := (r : Int) + 1) (by have := HN.out; have := HRK.out; omega)]; rfl] at HR
      unfold RetRead at HR
      rw [List.length_nil] at HR
      go_wp2_with fail
      try simp only [hri]
      go_wp2_with fail
      refine HR.out.mono ?_
      rintro e w5 ⟨A5, c5, rfl, _, hb5⟩
      have HB5 := Lib.hid hb5
      have H5 := Lib.hid (H4.out.grow hb5 H4.out.bel.size)
      clear hb5 HR hri
      go_wp2_with fail
      refine (awake_any w5).mono ?_
      rintro e w6 ⟨rfl, hb6⟩
      have hb26 : Below w2.heap.size w2 w6 := HB3.out.trans ((HB4.out.trans ((HB5.out.trans (hb6.mono HB5.out.size)).mono HB4.out.size)).mono HB3.out.size)
      have hb36 : Below w3.heap.size w3 w6 := HB4.out.trans ((HB5.out.trans (hb6.mono HB5.out.size)).mono HB4.out.size)
      have HO2' := Lib.hid (HO2.out.then_ hb26)
      have HO3' := Lib.hid (Crs.then_ HO3.out.crs.2 hb36)
      have HB16 := Lib.hid (below_then HB2.out hb26)
      clear hb6 hb26 hb36
      have h16 := HB16.out.size
      have hkr : k + r ≤ 2300 := by have := HN.out.2; have := HRK.out; omega
      go_wp2_with (at_builtin; refine wpList_append_crs_g w6 (by rfl) (.tmp 143) (.tmp 144) (by rfl) w1.heap.size A2 k c2 _ (by rfl) HO2'.out w6.heap.size A3 r c3 _ (by rfl) HO3'.out (by omega) h16 ?_)
      intro A7 c7 w7 hO7 hb7
      have H7 := Lib.hid (H1.out.grow (HB16.out.trans (hb7.mono (Nat.le_refl _))) H1.out.bel.size)
      have HO7 := Lib.hid hO7
      clear hO7 hb7 h16
      have HTX := Lib.hid (text_has H7.out)
      unfold RetC at HTX
      have hl : t.text.length = N := by rw [Pl.len_text, ← HN.out.1]
      rw [hl] at HTX
      clear hl
      go_wp2_with fail
      refine HTX.out.mono ?_
      rintro e w8 ⟨A8, c8, rfl, hO8, hb8⟩
      have H8 := Lib.hid (H7.out.grow hb8 H7.out.bel.size)
      have hEQ := equalC_any A7 A8 (k + r) c7 N c8 _ _ w8 (Crs.then_ HO7.out.crs.2 hb8) hO8.crs.2
      rw [decide_eq_true (by rw [HRK.out, HN.out.1, ← Pl.len_text, ← List.length_drop, List.take_length, List.take_append_drop])] at hEQ
      have HEQ := Lib.hid hEQ
      clear hEQ hO8 hb8 HTX
      go_wp2_with fail
      refine HEQ.out.mono ?_
      rintro e w9 ⟨rfl, hb9⟩
      have H9 := Lib.hid (H8.out.grow hb9 H8.out.bel.size)
      clear hb9 HEQ
      go_wp2_with fail
      go_ret
      exact ⟨rfl, H9.out.bel⟩
end Go.Proofs.Ytpebkjejjogkkaa.pieceReads
