/-
  The walk of copybooklaw05.PieceApart: it returns true for every text, all calls and every place; nothing that was there turned. No conditions.
-/
import Derived.Test.YtpebkjejjogkkaaPceApartC
namespace Go.Proofs.Ytpebkjejjogkkaa.pieceApart
open Go.RowKit
open Pl (Pc Plc Tab)

def R1 (w : World) (n p : Nat) (u i : Value) (wr : World) : Prop := ∃ (j : Nat) (t : Tab) (m pu : Nat) (x1 : Option TT), i = .int .i64 (j : Int) ∧ j ≤ n ∧ j ≤ 40 ∧ m ≤ 300 + 100 * j ∧ u = .pointer (some ⟨pu, 0, none⟩) ∧ Sys w wr (some (p, t, m)) x1 none none ∧ ((x1 = none ∧ pu = p) ∨ x1 = some (pu, t, m))
theorem utb {w0 w : World} {p pu m : Nat} {t : Tab} {x1 x2 : Option TT} {bx : Option (Nat × Obj)} (h : Sys w0 w (some (p, t, m)) x1 x2 bx) (hu : (x1 = none ∧ pu = p) ∨ x1 = some (pu, t, m)) : ∃ F, Tb w F pu t m := by
  rcases hu with ⟨_, rfl⟩ | rfl
  · exact SysX.tb h (i := 0) rfl
  · exact SysX.tb h (i := 1) rfl
theorem fresh_len (cs : List Int) : (Pl.group (Pl.fresh cs).L).length ≤ 1 := by
  rcases Nat.eq_zero_or_pos cs.length with h | h
  · rw [fresh_nil h]; decide
  · rw [fresh_one h]; simp
def Act (what pos nn : Int) (A : Option Addr) (m c : Nat) : Obj := .cells #[.int .i64 what, .int .i64 pos, .int .i64 nn, .slice A m c] 31 (0, 0)
theorem does2 {w0 w : World} {x0 x1 : Option TT} {q m ab : Nat} {t : Tab} {what pos nn : Int} {A : Option Addr} {M c : Nat} {ls : List Int} (h : Sys w0 w x0 x1 (some (q, t, m)) (some (ab, Act what pos nn A M c))) (hl : Crs w0 w0.heap.size A M c ls) (hpos : Pl.I pos) (hm : m + M ≤ 1073741824) :
    Calls Try.prog 33 #[.pointer (some ⟨q, 0, none⟩), .pointer (some ⟨ab, 0, none⟩)] w fun e w' => e = .returned (.int .i64 (doE what pos nn t)) ∧ Sys w0 w' x0 x1 (some (q, doT what pos nn ls t, m + M)) (some (ab, Act what pos nn A M c)) := by
  have hb := h.bel
  have hq : w.heap[ab]? = some (Act what pos nn A M c) := by obtain ⟨_, _, _, _, h3⟩ := h; exact (h3 _ rfl).2.1
  exact Sys.did2 h (fun F hF => does_any hF ab what pos nn hpos A M c ls ((hl.below hb (Nat.le_refl _)).more hb.size) hm hq)
theorem does1 {w0 w : World} {x0 x2 : Option TT} {q m ab : Nat} {t : Tab} {what pos nn : Int} {A : Option Addr} {M c : Nat} {ls : List Int} (h : Sys w0 w x0 (some (q, t, m)) x2 (some (ab, Act what pos nn A M c))) (hl : Crs w0 w0.heap.size A M c ls) (hpos : Pl.I pos) (hm : m + M ≤ 1073741824) :
    Calls Try.prog 33 #[.pointer (some ⟨q, 0, none⟩), .pointer (some ⟨ab, 0, none⟩)] w fun e w' => e = .returned (.int .i64 (doE what pos nn t)) ∧ Sys w0 w' x0 (some (q, doT what pos nn ls t, m + M)) x2 (some (ab, Act what pos nn A M c)) := by
  have hb := h.bel
  have hq : w.heap[ab]? = some (Act what pos nn A M c) := by obtain ⟨_, _, _, _, h3⟩ := h; exact (h3 _ rfl).2.1
  exact Sys.did1 h (fun F hF => does_any hF ab what pos nn hpos A M c ls ((hl.below hb (Nat.le_refl _)).more hb.size) hm hq)
theorem does0 {w0 w : World} {x1 x2 : Option TT} {q m ab : Nat} {t : Tab} {what pos nn : Int} {A : Option Addr} {M c : Nat} {ls : List Int} (h : Sys w0 w (some (q, t, m)) x1 x2 (some (ab, Act what pos nn A M c))) (hl : Crs w0 w0.heap.size A M c ls) (hpos : Pl.I pos) (hm : m + M ≤ 1073741824) :
    Calls Try.prog 33 #[.pointer (some ⟨q, 0, none⟩), .pointer (some ⟨ab, 0, none⟩)] w fun e w' => e = .returned (.int .i64 (doE what pos nn t)) ∧ Sys w0 w' (some (q, doT what pos nn ls t, m + M)) x1 x2 (some (ab, Act what pos nn A M c)) := by
  have hb := h.bel
  have hq : w.heap[ab]? = some (Act what pos nn A M c) := by obtain ⟨_, _, _, _, h3⟩ := h; exact (h3 _ rfl).2.1
  exact Sys.did0 h (fun F hF => does_any hF ab what pos nn hpos A M c ls ((hl.below hb (Nat.le_refl _)).more hb.size) hm hq)



set_option maxRecDepth 100000 in
set_option maxHeartbeats 16000000 in
theorem walk (w : World) (A : Option Addr) (n c : Nat) (cs0 : List Int) (hA : Crs w w.heap.size A n c cs0) (B : Option Addr) (nl d : Nat) (l : List Act5) (hB : Acts w w.heap.size B nl d l) (at_ : Nat) (hat : at_ < 256) :
    Calls Try.prog 7 #[.slice A n c, .slice B nl d, .int .u8 (at_ : Int)] w fun e w' => e = .returned (.bool true) ∧ Below w.heap.size w w' := by
  obtain ⟨M, hM⟩ : ∃ M, M = min n 300 := ⟨_, rfl⟩
  have rM := min_run (n : Int) 300 (M : Int) (by omega)
  have sM := slice_toC A n c M (by have := hA.le; omega)
  have HA := hA.upto (k := M) (by omega)
  have hMb : M ≤ 300 := by omega
  have hn9 : n ≤ 9223372036854775807 := by have := hA.le; have := hA.cap; unfold maxLen at *; omega
  have hl9 : nl ≤ 9223372036854775807 := by have := hB.2.1; have := hB.2.2.1; unfold maxLen at *; omega
  have HN := Lib.hid (new_any A M c (cs0.take M) w HA (by omega))
  have HB := Lib.hid hB
  obtain ⟨a40, ha40⟩ : ∃ a, a = at_ % 40 := ⟨_, rfl⟩
  have hrem : (at_ : Int) % 40 = (a40 : Int) := by rw [ha40, Int.natCast_emod]; rfl
  have ha4 : a40 < 40 := by omega
  clear hA hB HA hM ha40
  go_enter Try.func7, Try.ntmps7
  go_wp2_with fail
  refine HN.out.mono ?_
  rintro e w1 ⟨p, F0, rfl, hT1, hF0, hb1⟩
  have hS1 : Sys w w1 (some (p, Pl.fresh (cs0.take M), M)) none none none := Sys.one hb1 hT1 hF0
  have HS1 := Lib.hid hS1
  clear hT1 hF0 hb1 hS1 HN rM sM
  go_wp2_with fail
  go_loopw [8, 23] (fun u i wr => R1 w nl p u i wr) (fun _ i _ => nl - (intOf i).toNat)
  case atStart => exact ⟨0, _, M, p, none, rfl, Nat.zero_le _, Nat.zero_le _, by omega, rfl, HS1.out, Or.inl ⟨rfl, rfl⟩⟩
  case round =>
    obtain ⟨j, t, m, pu, x1, rfl, hj, h40, hm, rfl, hH, hu⟩ := hrel
    by_cases hlt : j < nl
    · by_cases hl40 : j < 40
      · obtain ⟨g, o, A', n', c', rfl, hg, x0, hI0, x1', hI1, x2, hI2, x3, hC⟩ := HB.out.2.2.2 j hlt
        obtain ⟨⟨what, pos, nn, ts⟩, ht⟩ : ∃ t, t = l.getD j default := ⟨_, rfl⟩
        rw [← ht] at x0 hI0 x1' hI1 x2 hI2 hC
        simp only at x0 hI0 x1' hI1 x2 hI2 hC
        have hbw := hH.bel
        rw [← hbw.cell (p := ⟨g, _, none⟩) hg] at x0 x1' x2 x3
        have b40 : ((j : Int) == 40) = false := by rw [beq_eq_false_iff_ne]; omega
        obtain ⟨M', hM'⟩ : ∃ M', M' = min n' 100 := ⟨_, rfl⟩
        have rM := min_run (n' : Int) 100 (M' : Int) (by omega)
        have sM := slice_toC A' n' c' M' (by have := hC.le; omega)
        have hn9' : n' ≤ 9223372036854775807 := by have := hC.le; have := hC.cap; unfold maxLen at *; omega
        have hM1 : M' ≤ n' ∧ M' ≤ 100 := by omega
        have HL := Lib.hid (hC.upto hM1.1)
        have HH := Lib.hid hH
        have HU0 := Lib.hid hu
        clear ht hC hH hu hM' hbw
        by_cases hja : j = a40
        · subst hja
          obtain ⟨V, hV, hbV, hqV⟩ := act_new wr what pos nn A' n' c'
          have HV := Lib.hid hV
          have HSV := Lib.hid (SysX.box HH.out hbV hqV)
          have HC1 := Lib.hid (Sys.copy1 HSV.out)
          clear hV hbV hqV
          go_wp2_with fail
          rw [← HV.out]
          refine HC1.out.mono ?_
          rintro e w2 ⟨pu2, rfl, hS2⟩
          have HQ2 : w2.heap[wr.heap.size]? = some (.cells #[.int .i64 what, .int .i64 pos, .int .i64 nn, .slice A' n' c'] 31 (0, 0)) := by obtain ⟨_, _, _, _, h3⟩ := hS2; exact (h3 _ rfl).2.1
          have d3 := cell3 HQ2
          have f3 := frozen_of_row w2 _ 3 _ _ HQ2
          have HS2 := Lib.hid hS2
          clear hS2 HQ2 HC1 HSV x0 x1' x2 x3
          go_wp2_with fail
          have hS : Sys w (w2.setCell ⟨wr.heap.size, 3, none⟩ (.slice A' M' c')) (some (p, t, m)) (some (pu2, t, m)) none (some (wr.heap.size, Act what pos nn A' M' c')) := SysX.set_ (k := 3) HS2.out _
          obtain ⟨x1b, hx1b⟩ : ∃ x, x = some (pu2, t, m) := ⟨_, rfl⟩
          rw [← hx1b] at hS
          have hu : (x1b = none ∧ pu2 = p) ∨ x1b = some (pu2, t, m) := Or.inr hx1b
          clear hx1b HS2
          have HS := Lib.hid hS
          have HU := Lib.hid hu
          have HCP := Lib.hid (Sys.copy2 hS)
          clear hS hu
          refine HCP.out.mono ?_
          rintro e w2 ⟨q, rfl, hS2⟩
          have HD := Lib.hid (does2 hS2 HL.out hI1 (by omega))
          clear hS2 HCP
          go_wp2_with fail
          refine HD.out.mono ?_
          rintro e w3 ⟨rfl, hS3⟩
          have HD := Lib.hid (Sys.did2 hS3 (fun F hF => flat_tb hF))
          clear hS3
          go_wp2_with fail
          refine HD.out.mono ?_
          rintro e w4 ⟨rfl, hS4⟩
          have HD := Lib.hid (does0 hS4 HL.out hI1 (by omega))
          clear hS4
          go_wp2_with fail
          refine HD.out.mono ?_
          rintro e w5 ⟨rfl, hS5⟩
          have hE : ∃ E, E = doE what pos nn t := ⟨_, rfl⟩
          obtain ⟨E, hE⟩ := hE
          obtain ⟨X, hX⟩ : ∃ X, X = (doT what pos nn (ts.take M') t).text := ⟨_, rfl⟩
          obtain ⟨ps, hps⟩ : ∃ ps, ps = Pl.group (doT what pos nn (ts.take M') t).L := ⟨_, rfl⟩
          have HX := Lib.hid (And.intro hX hps)
          rw [← hX] at hS5
          rw [← hE]
          have HE := Lib.hid hE
          clear hX hps hE HD
          rcases HU.out with ⟨rfl, hpu⟩ | rfl
          · obtain rfl : p = pu2 := hpu.symm
            have hq1 := fun w => neq_eq w p
            have HS5 := Lib.hid hS5
            clear hS5 hpu
            go_wp2_with fail
            have hS6 := HS5.out
            have hu6 : ((none : Option TT) = none ∧ p = p) ∨ (none : Option TT) = some (p, doT what pos nn (ts.take M') t, m + M') := Or.inl ⟨rfl, rfl⟩
            clear HS5 hq1
            have HU6 := Lib.hid (utb hS6 hu6)
            have HT6 := Lib.hid (SysX.tb hS6 (i := 0) rfl)
            have HO6 := Lib.hid (SysX.tb hS6 (i := 2) rfl)
            have HS6 := Lib.hid hS6
            have HUU := Lib.hid hu6
            have HTX := Lib.hid (fun W (hb : Below (World.heap w5).size w5 W) => (show Calls Try.prog 24 #[.pointer (some ⟨p, 0, none⟩)] W (RetC W X) by
              obtain ⟨F, hF⟩ := HT6.out; rw [HX.out.1]; exact text_tb (hF.then_ hb)))
            have HUX := Lib.hid (fun W (hb : Below (World.heap w5).size w5 W) => (show Calls Try.prog 24 #[.pointer (some ⟨p, 0, none⟩)] W (RetC W X) by
              obtain ⟨F, hF⟩ := HU6.out; rw [HX.out.1]; exact text_tb (hF.then_ hb)))
            have HOX := Lib.hid (fun W (hb : Below (World.heap w5).size w5 W) => (show Calls Try.prog 24 #[.pointer (some ⟨q, 0, none⟩)] W (RetC W X) by
              obtain ⟨F, hF⟩ := HO6.out; have := text_tb (hF.then_ hb); rwa [Pl.fresh_text] at this))
            have HTP := Lib.hid (fun W (hb : Below (World.heap w5).size w5 W) => (show Calls Try.prog 26 #[.pointer (some ⟨p, 0, none⟩)] W (RetP W ps) by
              obtain ⟨F, hF⟩ := HT6.out; rw [HX.out.2]; exact pieces_tb (hF.then_ hb)))
            have HUP := Lib.hid (fun W (hb : Below (World.heap w5).size w5 W) => (show Calls Try.prog 26 #[.pointer (some ⟨p, 0, none⟩)] W (RetP W ps) by
              obtain ⟨F, hF⟩ := HU6.out; rw [HX.out.2]; exact pieces_tb (hF.then_ hb)))
            have HOP := Lib.hid (fun W (hb : Below (World.heap w5).size w5 W) => (show Calls Try.prog 26 #[.pointer (some ⟨q, 0, none⟩)] W (RetP W (Pl.group (Pl.fresh X).L)) by
              obtain ⟨F, hF⟩ := HO6.out; exact pieces_tb (hF.then_ hb)))
            unfold RetC at HTX HUX HOX
            unfold RetP at HTP HUP HOP
            have hf1 := fresh_len X
            obtain ⟨fk, hfk⟩ : ∃ k, k = (Pl.group (Pl.fresh X).L).length := ⟨_, rfl⟩
            rw [← hfk] at hf1 HOP
            obtain ⟨xn, hxn⟩ : ∃ k, k = X.length := ⟨_, rfl⟩
            rw [← hxn] at HTX HUX HOX
            obtain ⟨pn, hpn⟩ : ∃ k, k = ps.length := ⟨_, rfl⟩
            rw [← hpn] at HTP HUP
            clear hfk hxn hpn hS6 hu6
            go_wp2_with fail
            refine (HUX.out w5 (Below.refl _ _)).mono ?_
            rintro e v1 ⟨A1, c1, rfl, hO1, hb1⟩
            have HB1 := Lib.hid hb1
            have HO1 := Lib.hid hO1
            clear hO1 hb1
            go_wp2_with fail
            refine (HTX.out v1 HB1.out).mono ?_
            rintro e v2 ⟨A2, c2, rfl, hO2, hb2⟩
            have HB2 := Lib.hid (below_then HB1.out hb2)
            have hEQ := equalC_any A1 A2 xn c1 xn c2 X X v2 (Crs.then_ HO1.out.crs.2 hb2) hO2.crs.2
            rw [decide_eq_true rfl] at hEQ
            have HEQ := Lib.hid hEQ
            clear hEQ hO2 hb2
            go_wp2_with fail
            refine HEQ.out.mono ?_
            rintro e v3 ⟨rfl, hb3⟩
            have HB3 := Lib.hid (below_then HB2.out hb3)
            clear hb3 HEQ
            go_wp2_with fail
            refine (HUP.out v3 HB3.out).mono ?_
            rintro e v4 ⟨A4, c4, rfl, hO4, hb4⟩
            have HB4 := Lib.hid (below_then HB3.out hb4)
            have HO4 := Lib.hid hO4
            clear hO4 hb4
            go_wp2_with fail
            refine (HTP.out v4 HB4.out).mono ?_
            rintro e v5 ⟨A5, c5, rfl, hO5, hb5⟩
            have HB5 := Lib.hid (below_then HB4.out hb5)
            have HEQ := Lib.hid (equalP_eq A4 A5 pn c4 c5 ps v5 (OwnR.rws encP_len (OwnR.then_ HO4.out hb5)).2 (OwnR.rws encP_len hO5).2)
            clear hO5 hb5
            go_wp2_with fail
            refine HEQ.out.mono ?_
            rintro e v6 ⟨rfl, hb6⟩
            have HB6 := Lib.hid (below_then HB5.out hb6)
            clear hb6 HEQ
            go_wp2_with fail
            refine (HOX.out v6 HB6.out).mono ?_
            rintro e v7 ⟨A7, c7, rfl, hO7, hb7⟩
            have HB7 := Lib.hid (below_then HB6.out hb7)
            have HO7 := Lib.hid hO7
            clear hO7 hb7
            go_wp2_with fail
            refine (HTX.out v7 HB7.out).mono ?_
            rintro e v8 ⟨A8, c8, rfl, hO8, hb8⟩
            have HB8 := Lib.hid (below_then HB7.out hb8)
            have hEQ := equalC_any A7 A8 xn c7 xn c8 X X v8 (Crs.then_ HO7.out.crs.2 hb8) hO8.crs.2
            rw [decide_eq_true rfl] at hEQ
            have HEQ := Lib.hid hEQ
            clear hEQ hO8 hb8
            go_wp2_with fail
            refine HEQ.out.mono ?_
            rintro e v9 ⟨rfl, hb9⟩
            have HB9 := Lib.hid (below_then HB8.out hb9)
            clear hb9 HEQ
            go_wp2_with fail
            refine (HOP.out v9 HB9.out).mono ?_
            rintro e v10 ⟨A10, c10, rfl, _, hb10⟩
            have HB10 := Lib.hid (below_then HB9.out hb10)
            have hgt : decide ((fk : Int) > 1) = false := decide_eq_false (by omega)
            clear hb10
            go_wp2_with fail
            go_roundw
            case rel => exact ⟨j + 1, _, m + M', p, _, by go_num, by omega, by omega, by omega, rfl, Sys.drop2 (SysX.then_ (SysX.nobox HS6.out) HB10.out), by simp⟩
            case measure => simp [intOf]; omega
          · have hne := SysX.ne hS5 (i := 0) (j := 1) rfl rfl (by decide)
            obtain ⟨F0, hF0⟩ := SysX.tb hS5 (i := 0) rfl
            obtain ⟨F1, hF1⟩ := SysX.tb hS5 (i := 1) rfl
            have hq1 := neq_ne hF0 hF1 hne
            have HD := Lib.hid (does1 hS5 HL.out hI1 (by omega))
            rw [← HE.out] at HD
            clear hS5 hne hF0 hF1
            go_wp2_with fail
            refine HD.out.mono ?_
            rintro e w6 ⟨rfl, hS6⟩
            have hu6 : (some (pu2, doT what pos nn (ts.take M') t, m + M') = (none : Option TT) ∧ pu2 = p) ∨ some (pu2, doT what pos nn (ts.take M') t, m + M') = some (pu2, doT what pos nn (ts.take M') t, m + M') := Or.inr rfl
            clear HD hq1
            have HU6 := Lib.hid (utb hS6 hu6)
            have HT6 := Lib.hid (SysX.tb hS6 (i := 0) rfl)
            have HO6 := Lib.hid (SysX.tb hS6 (i := 2) rfl)
            have HS6 := Lib.hid hS6
            have HUU := Lib.hid hu6
            have HTX := Lib.hid (fun W (hb : Below (World.heap w6).size w6 W) => (show Calls Try.prog 24 #[.pointer (some ⟨p, 0, none⟩)] W (RetC W X) by
              obtain ⟨F, hF⟩ := HT6.out; rw [HX.out.1]; exact text_tb (hF.then_ hb)))
            have HUX := Lib.hid (fun W (hb : Below (World.heap w6).size w6 W) => (show Calls Try.prog 24 #[.pointer (some ⟨pu2, 0, none⟩)] W (RetC W X) by
              obtain ⟨F, hF⟩ := HU6.out; rw [HX.out.1]; exact text_tb (hF.then_ hb)))
            have HOX := Lib.hid (fun W (hb : Below (World.heap w6).size w6 W) => (show Calls Try.prog 24 #[.pointer (some ⟨q, 0, none⟩)] W (RetC W X) by
              obtain ⟨F, hF⟩ := HO6.out; have := text_tb (hF.then_ hb); rwa [Pl.fresh_text] at this))
            have HTP := Lib.hid (fun W (hb : Below (World.heap w6).size w6 W) => (show Calls Try.prog 26 #[.pointer (some ⟨p, 0, none⟩)] W (RetP W ps) by
              obtain ⟨F, hF⟩ := HT6.out; rw [HX.out.2]; exact pieces_tb (hF.then_ hb)))
            have HUP := Lib.hid (fun W (hb : Below (World.heap w6).size w6 W) => (show Calls Try.prog 26 #[.pointer (some ⟨pu2, 0, none⟩)] W (RetP W ps) by
              obtain ⟨F, hF⟩ := HU6.out; rw [HX.out.2]; exact pieces_tb (hF.then_ hb)))
            have HOP := Lib.hid (fun W (hb : Below (World.heap w6).size w6 W) => (show Calls Try.prog 26 #[.pointer (some ⟨q, 0, none⟩)] W (RetP W (Pl.group (Pl.fresh X).L)) by
              obtain ⟨F, hF⟩ := HO6.out; exact pieces_tb (hF.then_ hb)))
            unfold RetC at HTX HUX HOX
            unfold RetP at HTP HUP HOP
            have hf1 := fresh_len X
            obtain ⟨fk, hfk⟩ : ∃ k, k = (Pl.group (Pl.fresh X).L).length := ⟨_, rfl⟩
            rw [← hfk] at hf1 HOP
            obtain ⟨xn, hxn⟩ : ∃ k, k = X.length := ⟨_, rfl⟩
            rw [← hxn] at HTX HUX HOX
            obtain ⟨pn, hpn⟩ : ∃ k, k = ps.length := ⟨_, rfl⟩
            rw [← hpn] at HTP HUP
            clear hfk hxn hpn hS6 hu6
            go_wp2_with fail
            refine (HUX.out w6 (Below.refl _ _)).mono ?_
            rintro e v1 ⟨A1, c1, rfl, hO1, hb1⟩
            have HB1 := Lib.hid hb1
            have HO1 := Lib.hid hO1
            clear hO1 hb1
            go_wp2_with fail
            refine (HTX.out v1 HB1.out).mono ?_
            rintro e v2 ⟨A2, c2, rfl, hO2, hb2⟩
            have HB2 := Lib.hid (below_then HB1.out hb2)
            have hEQ := equalC_any A1 A2 xn c1 xn c2 X X v2 (Crs.then_ HO1.out.crs.2 hb2) hO2.crs.2
            rw [decide_eq_true rfl] at hEQ
            have HEQ := Lib.hid hEQ
            clear hEQ hO2 hb2
            go_wp2_with fail
            refine HEQ.out.mono ?_
            rintro e v3 ⟨rfl, hb3⟩
            have HB3 := Lib.hid (below_then HB2.out hb3)
            clear hb3 HEQ
            go_wp2_with fail
            refine (HUP.out v3 HB3.out).mono ?_
            rintro e v4 ⟨A4, c4, rfl, hO4, hb4⟩
            have HB4 := Lib.hid (below_then HB3.out hb4)
            have HO4 := Lib.hid hO4
            clear hO4 hb4
            go_wp2_with fail
            refine (HTP.out v4 HB4.out).mono ?_
            rintro e v5 ⟨A5, c5, rfl, hO5, hb5⟩
            have HB5 := Lib.hid (below_then HB4.out hb5)
            have HEQ := Lib.hid (equalP_eq A4 A5 pn c4 c5 ps v5 (OwnR.rws encP_len (OwnR.then_ HO4.out hb5)).2 (OwnR.rws encP_len hO5).2)
            clear hO5 hb5
            go_wp2_with fail
            refine HEQ.out.mono ?_
            rintro e v6 ⟨rfl, hb6⟩
            have HB6 := Lib.hid (below_then HB5.out hb6)
            clear hb6 HEQ
            go_wp2_with fail
            refine (HOX.out v6 HB6.out).mono ?_
            rintro e v7 ⟨A7, c7, rfl, hO7, hb7⟩
            have HB7 := Lib.hid (below_then HB6.out hb7)
            have HO7 := Lib.hid hO7
            clear hO7 hb7
            go_wp2_with fail
            refine (HTX.out v7 HB7.out).mono ?_
            rintro e v8 ⟨A8, c8, rfl, hO8, hb8⟩
            have HB8 := Lib.hid (below_then HB7.out hb8)
            have hEQ := equalC_any A7 A8 xn c7 xn c8 X X v8 (Crs.then_ HO7.out.crs.2 hb8) hO8.crs.2
            rw [decide_eq_true rfl] at hEQ
            have HEQ := Lib.hid hEQ
            clear hEQ hO8 hb8
            go_wp2_with fail
            refine HEQ.out.mono ?_
            rintro e v9 ⟨rfl, hb9⟩
            have HB9 := Lib.hid (below_then HB8.out hb9)
            clear hb9 HEQ
            go_wp2_with fail
            refine (HOP.out v9 HB9.out).mono ?_
            rintro e v10 ⟨A10, c10, rfl, _, hb10⟩
            have HB10 := Lib.hid (below_then HB9.out hb10)
            have hgt : decide ((fk : Int) > 1) = false := decide_eq_false (by omega)
            clear hb10
            go_wp2_with fail
            go_roundw
            case rel => exact ⟨j + 1, _, m + M', pu2, _, by go_num, by omega, by omega, by omega, rfl, Sys.drop2 (SysX.then_ (SysX.nobox HS6.out) HB10.out), by simp⟩
            case measure => simp [intOf]; omega
        · have hja' : ((j : Int) == (a40 : Int)) = false := by rw [beq_eq_false_iff_ne]; omega
          obtain ⟨V, hV, hbV, hqV⟩ := act_new wr what pos nn A' M' c'
          have HSV := Lib.hid (SysX.box HH.out hbV hqV)
          rw [hV] at HSV
          clear hV hbV hqV
          go_wp2_with fail
          have hS := HSV.out
          have hu := HU0.out
          have HS := Lib.hid hS
          have HU := Lib.hid hu
          have HCP := Lib.hid (Sys.copy2 hS)
          clear hS hu
          refine HCP.out.mono ?_
          rintro e w2 ⟨q, rfl, hS2⟩
          have HD := Lib.hid (does2 hS2 HL.out hI1 (by omega))
          clear hS2 HCP
          go_wp2_with fail
          refine HD.out.mono ?_
          rintro e w3 ⟨rfl, hS3⟩
          have HD := Lib.hid (Sys.did2 hS3 (fun F hF => flat_tb hF))
          clear hS3
          go_wp2_with fail
          refine HD.out.mono ?_
          rintro e w4 ⟨rfl, hS4⟩
          have HD := Lib.hid (does0 hS4 HL.out hI1 (by omega))
          clear hS4
          go_wp2_with fail
          refine HD.out.mono ?_
          rintro e w5 ⟨rfl, hS5⟩
          have hE : ∃ E, E = doE what pos nn t := ⟨_, rfl⟩
          obtain ⟨E, hE⟩ := hE
          obtain ⟨X, hX⟩ : ∃ X, X = (doT what pos nn (ts.take M') t).text := ⟨_, rfl⟩
          obtain ⟨ps, hps⟩ : ∃ ps, ps = Pl.group (doT what pos nn (ts.take M') t).L := ⟨_, rfl⟩
          have HX := Lib.hid (And.intro hX hps)
          rw [← hX] at hS5
          rw [← hE]
          have HE := Lib.hid hE
          clear hX hps hE HD
          rcases HU.out with ⟨rfl, hpu⟩ | rfl
          · obtain rfl : p = pu := hpu.symm
            have hq1 := fun w => neq_eq w p
            have HS5 := Lib.hid hS5
            clear hS5 hpu
            go_wp2_with fail
            have hS6 := HS5.out
            have hu6 : ((none : Option TT) = none ∧ p = p) ∨ (none : Option TT) = some (p, doT what pos nn (ts.take M') t, m + M') := Or.inl ⟨rfl, rfl⟩
            clear HS5 hq1
            have HU6 := Lib.hid (utb hS6 hu6)
            have HT6 := Lib.hid (SysX.tb hS6 (i := 0) rfl)
            have HO6 := Lib.hid (SysX.tb hS6 (i := 2) rfl)
            have HS6 := Lib.hid hS6
            have HUU := Lib.hid hu6
            have HTX := Lib.hid (fun W (hb : Below (World.heap w5).size w5 W) => (show Calls Try.prog 24 #[.pointer (some ⟨p, 0, none⟩)] W (RetC W X) by
              obtain ⟨F, hF⟩ := HT6.out; rw [HX.out.1]; exact text_tb (hF.then_ hb)))
            have HUX := Lib.hid (fun W (hb : Below (World.heap w5).size w5 W) => (show Calls Try.prog 24 #[.pointer (some ⟨p, 0, none⟩)] W (RetC W X) by
              obtain ⟨F, hF⟩ := HU6.out; rw [HX.out.1]; exact text_tb (hF.then_ hb)))
            have HOX := Lib.hid (fun W (hb : Below (World.heap w5).size w5 W) => (show Calls Try.prog 24 #[.pointer (some ⟨q, 0, none⟩)] W (RetC W X) by
              obtain ⟨F, hF⟩ := HO6.out; have := text_tb (hF.then_ hb); rwa [Pl.fresh_text] at this))
            have HTP := Lib.hid (fun W (hb : Below (World.heap w5).size w5 W) => (show Calls Try.prog 26 #[.pointer (some ⟨p, 0, none⟩)] W (RetP W ps) by
              obtain ⟨F, hF⟩ := HT6.out; rw [HX.out.2]; exact pieces_tb (hF.then_ hb)))
            have HUP := Lib.hid (fun W (hb : Below (World.heap w5).size w5 W) => (show Calls Try.prog 26 #[.pointer (some ⟨p, 0, none⟩)] W (RetP W ps) by
              obtain ⟨F, hF⟩ := HU6.out; rw [HX.out.2]; exact pieces_tb (hF.then_ hb)))
            have HOP := Lib.hid (fun W (hb : Below (World.heap w5).size w5 W) => (show Calls Try.prog 26 #[.pointer (some ⟨q, 0, none⟩)] W (RetP W (Pl.group (Pl.fresh X).L)) by
              obtain ⟨F, hF⟩ := HO6.out; exact pieces_tb (hF.then_ hb)))
            unfold RetC at HTX HUX HOX
            unfold RetP at HTP HUP HOP
            have hf1 := fresh_len X
            obtain ⟨fk, hfk⟩ : ∃ k, k = (Pl.group (Pl.fresh X).L).length := ⟨_, rfl⟩
            rw [← hfk] at hf1 HOP
            obtain ⟨xn, hxn⟩ : ∃ k, k = X.length := ⟨_, rfl⟩
            rw [← hxn] at HTX HUX HOX
            obtain ⟨pn, hpn⟩ : ∃ k, k = ps.length := ⟨_, rfl⟩
            rw [← hpn] at HTP HUP
            clear hfk hxn hpn hS6 hu6
            go_wp2_with fail
            refine (HUX.out w5 (Below.refl _ _)).mono ?_
            rintro e v1 ⟨A1, c1, rfl, hO1, hb1⟩
            have HB1 := Lib.hid hb1
            have HO1 := Lib.hid hO1
            clear hO1 hb1
            go_wp2_with fail
            refine (HTX.out v1 HB1.out).mono ?_
            rintro e v2 ⟨A2, c2, rfl, hO2, hb2⟩
            have HB2 := Lib.hid (below_then HB1.out hb2)
            have hEQ := equalC_any A1 A2 xn c1 xn c2 X X v2 (Crs.then_ HO1.out.crs.2 hb2) hO2.crs.2
            rw [decide_eq_true rfl] at hEQ
            have HEQ := Lib.hid hEQ
            clear hEQ hO2 hb2
            go_wp2_with fail
            refine HEQ.out.mono ?_
            rintro e v3 ⟨rfl, hb3⟩
            have HB3 := Lib.hid (below_then HB2.out hb3)
            clear hb3 HEQ
            go_wp2_with fail
            refine (HUP.out v3 HB3.out).mono ?_
            rintro e v4 ⟨A4, c4, rfl, hO4, hb4⟩
            have HB4 := Lib.hid (below_then HB3.out hb4)
            have HO4 := Lib.hid hO4
            clear hO4 hb4
            go_wp2_with fail
            refine (HTP.out v4 HB4.out).mono ?_
            rintro e v5 ⟨A5, c5, rfl, hO5, hb5⟩
            have HB5 := Lib.hid (below_then HB4.out hb5)
            have HEQ := Lib.hid (equalP_eq A4 A5 pn c4 c5 ps v5 (OwnR.rws encP_len (OwnR.then_ HO4.out hb5)).2 (OwnR.rws encP_len hO5).2)
            clear hO5 hb5
            go_wp2_with fail
            refine HEQ.out.mono ?_
            rintro e v6 ⟨rfl, hb6⟩
            have HB6 := Lib.hid (below_then HB5.out hb6)
            clear hb6 HEQ
            go_wp2_with fail
            refine (HOX.out v6 HB6.out).mono ?_
            rintro e v7 ⟨A7, c7, rfl, hO7, hb7⟩
            have HB7 := Lib.hid (below_then HB6.out hb7)
            have HO7 := Lib.hid hO7
            clear hO7 hb7
            go_wp2_with fail
            refine (HTX.out v7 HB7.out).mono ?_
            rintro e v8 ⟨A8, c8, rfl, hO8, hb8⟩
            have HB8 := Lib.hid (below_then HB7.out hb8)
            have hEQ := equalC_any A7 A8 xn c7 xn c8 X X v8 (Crs.then_ HO7.out.crs.2 hb8) hO8.crs.2
            rw [decide_eq_true rfl] at hEQ
            have HEQ := Lib.hid hEQ
            clear hEQ hO8 hb8
            go_wp2_with fail
            refine HEQ.out.mono ?_
            rintro e v9 ⟨rfl, hb9⟩
            have HB9 := Lib.hid (below_then HB8.out hb9)
            clear hb9 HEQ
            go_wp2_with fail
            refine (HOP.out v9 HB9.out).mono ?_
            rintro e v10 ⟨A10, c10, rfl, _, hb10⟩
            have HB10 := Lib.hid (below_then HB9.out hb10)
            have hgt : decide ((fk : Int) > 1) = false := decide_eq_false (by omega)
            clear hb10
            go_wp2_with fail
            go_roundw
            case rel => exact ⟨j + 1, _, m + M', p, _, by go_num, by omega, by omega, by omega, rfl, Sys.drop2 (SysX.then_ (SysX.nobox HS6.out) HB10.out), by simp⟩
            case measure => simp [intOf]; omega
          · have hne := SysX.ne hS5 (i := 0) (j := 1) rfl rfl (by decide)
            obtain ⟨F0, hF0⟩ := SysX.tb hS5 (i := 0) rfl
            obtain ⟨F1, hF1⟩ := SysX.tb hS5 (i := 1) rfl
            have hq1 := neq_ne hF0 hF1 hne
            have HD := Lib.hid (does1 hS5 HL.out hI1 (by omega))
            rw [← HE.out] at HD
            clear hS5 hne hF0 hF1
            go_wp2_with fail
            refine HD.out.mono ?_
            rintro e w6 ⟨rfl, hS6⟩
            have hu6 : (some (pu, doT what pos nn (ts.take M') t, m + M') = (none : Option TT) ∧ pu = p) ∨ some (pu, doT what pos nn (ts.take M') t, m + M') = some (pu, doT what pos nn (ts.take M') t, m + M') := Or.inr rfl
            clear HD hq1
            have HU6 := Lib.hid (utb hS6 hu6)
            have HT6 := Lib.hid (SysX.tb hS6 (i := 0) rfl)
            have HO6 := Lib.hid (SysX.tb hS6 (i := 2) rfl)
            have HS6 := Lib.hid hS6
            have HUU := Lib.hid hu6
            have HTX := Lib.hid (fun W (hb : Below (World.heap w6).size w6 W) => (show Calls Try.prog 24 #[.pointer (some ⟨p, 0, none⟩)] W (RetC W X) by
              obtain ⟨F, hF⟩ := HT6.out; rw [HX.out.1]; exact text_tb (hF.then_ hb)))
            have HUX := Lib.hid (fun W (hb : Below (World.heap w6).size w6 W) => (show Calls Try.prog 24 #[.pointer (some ⟨pu, 0, none⟩)] W (RetC W X) by
              obtain ⟨F, hF⟩ := HU6.out; rw [HX.out.1]; exact text_tb (hF.then_ hb)))
            have HOX := Lib.hid (fun W (hb : Below (World.heap w6).size w6 W) => (show Calls Try.prog 24 #[.pointer (some ⟨q, 0, none⟩)] W (RetC W X) by
              obtain ⟨F, hF⟩ := HO6.out; have := text_tb (hF.then_ hb); rwa [Pl.fresh_text] at this))
            have HTP := Lib.hid (fun W (hb : Below (World.heap w6).size w6 W) => (show Calls Try.prog 26 #[.pointer (some ⟨p, 0, none⟩)] W (RetP W ps) by
              obtain ⟨F, hF⟩ := HT6.out; rw [HX.out.2]; exact pieces_tb (hF.then_ hb)))
            have HUP := Lib.hid (fun W (hb : Below (World.heap w6).size w6 W) => (show Calls Try.prog 26 #[.pointer (some ⟨pu, 0, none⟩)] W (RetP W ps) by
              obtain ⟨F, hF⟩ := HU6.out; rw [HX.out.2]; exact pieces_tb (hF.then_ hb)))
            have HOP := Lib.hid (fun W (hb : Below (World.heap w6).size w6 W) => (show Calls Try.prog 26 #[.pointer (some ⟨q, 0, none⟩)] W (RetP W (Pl.group (Pl.fresh X).L)) by
              obtain ⟨F, hF⟩ := HO6.out; exact pieces_tb (hF.then_ hb)))
            unfold RetC at HTX HUX HOX
            unfold RetP at HTP HUP HOP
            have hf1 := fresh_len X
            obtain ⟨fk, hfk⟩ : ∃ k, k = (Pl.group (Pl.fresh X).L).length := ⟨_, rfl⟩
            rw [← hfk] at hf1 HOP
            obtain ⟨xn, hxn⟩ : ∃ k, k = X.length := ⟨_, rfl⟩
            rw [← hxn] at HTX HUX HOX
            obtain ⟨pn, hpn⟩ : ∃ k, k = ps.length := ⟨_, rfl⟩
            rw [← hpn] at HTP HUP
            clear hfk hxn hpn hS6 hu6
            go_wp2_with fail
            refine (HUX.out w6 (Below.refl _ _)).mono ?_
            rintro e v1 ⟨A1, c1, rfl, hO1, hb1⟩
            have HB1 := Lib.hid hb1
            have HO1 := Lib.hid hO1
            clear hO1 hb1
            go_wp2_with fail
            refine (HTX.out v1 HB1.out).mono ?_
            rintro e v2 ⟨A2, c2, rfl, hO2, hb2⟩
            have HB2 := Lib.hid (below_then HB1.out hb2)
            have hEQ := equalC_any A1 A2 xn c1 xn c2 X X v2 (Crs.then_ HO1.out.crs.2 hb2) hO2.crs.2
            rw [decide_eq_true rfl] at hEQ
            have HEQ := Lib.hid hEQ
            clear hEQ hO2 hb2
            go_wp2_with fail
            refine HEQ.out.mono ?_
            rintro e v3 ⟨rfl, hb3⟩
            have HB3 := Lib.hid (below_then HB2.out hb3)
            clear hb3 HEQ
            go_wp2_with fail
            refine (HUP.out v3 HB3.out).mono ?_
            rintro e v4 ⟨A4, c4, rfl, hO4, hb4⟩
            have HB4 := Lib.hid (below_then HB3.out hb4)
            have HO4 := Lib.hid hO4
            clear hO4 hb4
            go_wp2_with fail
            refine (HTP.out v4 HB4.out).mono ?_
            rintro e v5 ⟨A5, c5, rfl, hO5, hb5⟩
            have HB5 := Lib.hid (below_then HB4.out hb5)
            have HEQ := Lib.hid (equalP_eq A4 A5 pn c4 c5 ps v5 (OwnR.rws encP_len (OwnR.then_ HO4.out hb5)).2 (OwnR.rws encP_len hO5).2)
            clear hO5 hb5
            go_wp2_with fail
            refine HEQ.out.mono ?_
            rintro e v6 ⟨rfl, hb6⟩
            have HB6 := Lib.hid (below_then HB5.out hb6)
            clear hb6 HEQ
            go_wp2_with fail
            refine (HOX.out v6 HB6.out).mono ?_
            rintro e v7 ⟨A7, c7, rfl, hO7, hb7⟩
            have HB7 := Lib.hid (below_then HB6.out hb7)
            have HO7 := Lib.hid hO7
            clear hO7 hb7
            go_wp2_with fail
            refine (HTX.out v7 HB7.out).mono ?_
            rintro e v8 ⟨A8, c8, rfl, hO8, hb8⟩
            have HB8 := Lib.hid (below_then HB7.out hb8)
            have hEQ := equalC_any A7 A8 xn c7 xn c8 X X v8 (Crs.then_ HO7.out.crs.2 hb8) hO8.crs.2
            rw [decide_eq_true rfl] at hEQ
            have HEQ := Lib.hid hEQ
            clear hEQ hO8 hb8
            go_wp2_with fail
            refine HEQ.out.mono ?_
            rintro e v9 ⟨rfl, hb9⟩
            have HB9 := Lib.hid (below_then HB8.out hb9)
            clear hb9 HEQ
            go_wp2_with fail
            refine (HOP.out v9 HB9.out).mono ?_
            rintro e v10 ⟨A10, c10, rfl, _, hb10⟩
            have HB10 := Lib.hid (below_then HB9.out hb10)
            have hgt : decide ((fk : Int) > 1) = false := decide_eq_false (by omega)
            clear hb10
            go_wp2_with fail
            go_roundw
            case rel => exact ⟨j + 1, _, m + M', pu, _, by go_num, by omega, by omega, by omega, rfl, Sys.drop2 (SysX.then_ (SysX.nobox HS6.out) HB10.out), by simp⟩
            case measure => simp [intOf]; omega
      · obtain ⟨g, o, A', n', c', rfl, hg, x0, hI0, x1', hI1, x2, hI2, x3, hC⟩ := HB.out.2.2.2 j hlt
        obtain ⟨⟨what, pos, nn, ts⟩, ht⟩ : ∃ t, t = l.getD j default := ⟨_, rfl⟩
        rw [← ht] at x0 hI0 x1' hI1 x2 hI2 hC
        simp only at x0 hI0 x1' hI1 x2 hI2 hC
        rw [← hH.bel.cell (p := ⟨g, _, none⟩) hg] at x0 x1' x2 x3
        have b40 : ((j : Int) == 40) = true := by rw [beq_iff_eq]; omega
        obtain ⟨V, hV, hbV, _⟩ := act_new wr what pos nn A' n' c'
        have HBV := Lib.hid (SysX.bel (SysX.then_ hH hbV))
        have HV := Lib.hid hV
        clear ht hC hH hu hV hbV
        go_wp2_with fail
        rw [← HV.out]
        refine (awake_any V).mono ?_
        rintro e v1 ⟨rfl, hb1⟩
        have HBE := Lib.hid (HBV.out.trans (hb1.mono HBV.out.size))
        clear hb1
        go_wp2_with fail
        go_ret
        exact ⟨rfl, HBE.out⟩
    · have hjn : j = nl := by omega
      have HBV := Lib.hid (SysX.bel hH)
      clear hH hu hlt
      go_wp2_with fail
      refine (awake_any wr).mono ?_
      rintro e v1 ⟨rfl, hb1⟩
      have HBE := Lib.hid (HBV.out.trans (hb1.mono HBV.out.size))
      clear hb1
      go_wp2_with fail
      go_ret
      exact ⟨rfl, HBE.out⟩
end Go.Proofs.Ytpebkjejjogkkaa.pieceApart
