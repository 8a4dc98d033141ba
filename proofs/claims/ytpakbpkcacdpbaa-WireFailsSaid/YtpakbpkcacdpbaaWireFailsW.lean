/-
  The walk of copybooklaw03.WireFails: it returns true for every row of bytes, every list of asks and every number, and turns nothing that was there.
-/
import Derived.Test.YtpakbpkcacdpbaaWireFailsA
namespace Go.Proofs.Ytpakbpkcacdpbaa.wireFails
open Go.RowKit

/-- the first loop -/
def Rel1 (w : World) (n p q : Nat) (F : Nat → Prop) (i : Value) (wr : World) : Prop :=
  ∃ (j : Nat) (r : List Nat) (e : Int), i = .int .i64 (j : Int) ∧ j ≤ n ∧ j ≤ 30 ∧ Rd wr (some ⟨p, 0, none⟩) F r e ∧ wr.heap[q]? = some (.cells #[.pointer (some ⟨p, 0, none⟩)] 44 (0, 0)) ∧ r.length ≤ 300 ∧ Below w.heap.size w wr
/-- the second loop -/
def Rel2 (w : World) (n p q : Nat) (F : Nat → Prop) (e : Int) (i : Value) (wr : World) : Prop :=
  ∃ (j : Nat), i = .int .i64 (j : Int) ∧ j ≤ n ∧ j ≤ 30 ∧ Rd wr (some ⟨p, 0, none⟩) F [] e ∧ wr.heap[q]? = some (.cells #[.pointer (some ⟨p, 0, none⟩)] 44 (0, 0)) ∧ Below w.heap.size w wr

set_option maxRecDepth 100000 in
set_option maxHeartbeats 8000000 in
theorem walk (w : World) (A : Option Addr) (nb cb : Nat) (bs : List Nat) (hB : Bys w w.heap.size A nb cb bs) (_ : nb ≤ 140737488351232) (L : Option Addr) (n cl : Nat) (ls : List Ask3) (hL : Asks w w.heap.size L n cl ls) (N : Nat) (hN : N < 256) :
    Calls Try.prog 7 #[.slice A nb cb, .slice L n cl, .int .u8 (N : Int)] w fun e w' => e = .returned (.bool true) ∧ Below w.heap.size w w' := by
  have hn := hL.2.1
  have hcl := hL.2.2.1
  unfold maxLen at hcl
  obtain ⟨M, hM1, hM2, _, hmin0⟩ := min_run nb 300
  have hmin : ∀ (w' : World) (ts : Array TypeId) (t : TypeId), (Builtin.min_ ts t #[.int .i64 (nb : Int), .int .i64 300]).run Try.prog w' = .ok (.int .i64 (M : Int)) w' := hmin0
  clear hmin0
  have hsl := slice_to A nb cb M (by have := hB.le; omega)
  have hBD := hB.upto hM1
  have HD := Lib.hid hBD.len
  have HN := Lib.hid (new_any A M cb _ w hBD (by omega))
  have HL := Lib.hid hL
  clear hB hBD hL
  go_enter Try.func7, Try.ntmps7
  go_wp2_with fail
  refine HN.out.mono ?_
  rintro e w1 ⟨p, F, rfl, hR1, hb1, hF1⟩
  have z1 := hb1.size
  obtain ⟨w2, hw2⟩ : ∃ w2, w2 = w1.alloc (.cells #[.pointer (some ⟨p, 0, none⟩)] 44) := ⟨_, rfl⟩
  have hb2 : Below w1.heap.size w1 w2 := by rw [hw2]; exact (Below.refl _ _).alloc (Nat.le_refl _) _
  have hq2 : w2.heap[w1.heap.size]? = some (.cells #[.pointer (some ⟨p, 0, none⟩)] 44 (0, 0)) := by rw [hw2, heap_alloc_new]
  have hqF : ¬ F w1.heap.size := fun h => by have := hR1.lt _ h; omega
  have HQF := Lib.hid hqF
  have H0 := Lib.hid (And.intro (hR1.below hb2) (And.intro hq2 (hb1.trans (hb2.mono z1))))
  have hpF := hR1.pt
  have HPF := Lib.hid (fun b (hb : Pt (some ⟨p, 0, none⟩) b) => hF1 b (hpF b hb))
  have HPQ := Lib.hid (fun (hp : Pt (some ⟨p, 0, none⟩) w1.heap.size) => hqF (hpF _ hp))
  have HW2 := Lib.hid hw2
  clear hR1 hb1 hb2 hq2 HN hmin hsl hqF hpF hw2 hF1
  go_wp2_with fail
  rw [← HW2.out]
  obtain ⟨q, hqd⟩ : ∃ q, q = w1.heap.size := ⟨_, rfl⟩
  rw [← hqd] at H0 HQF HPQ
  rw [← hqd]
  clear HW2 hqd z1
  go_loopw [25] (fun i wr => Rel1 w n p q F i wr) (fun i _ => n - (intOf i).toNat)
  case atStart =>
    obtain ⟨h1, h2, h3⟩ := H0.out
    exact ⟨0, _, 0, rfl, by omega, by omega, h1, h2, by rw [HD.out]; omega, h3⟩
  case round =>
    obtain ⟨j, r, e, rfl, hj, h30, hR, hq, hrl, hb⟩ := hrel
    have z := hb.size
    by_cases hlt : j < n ∧ j < 30
    · obtain ⟨hlt, hlt3⟩ := hlt
      obtain ⟨g, o, rfl, hg, x0, hI0, x1, hI1, x2, hU2⟩ := (HL.out.below hb (Nat.le_refl _)).2.2.2 j hlt
      obtain ⟨⟨what, most, N2⟩, ht⟩ : ∃ t, t = ls.getD j default := ⟨_, rfl⟩
      rw [← ht] at x0 hI0 x1 hI1 x2 hU2
      simp only at x0 hI0 x1 hI1 x2 hU2
      clear ht
      have b30 : ((j : Int) == 30) = false := by rw [beq_eq_false_iff_ne]; omega
      have hb3 : Below wr.heap.size wr (wr.alloc (.cells #[.int .i64 what, .int .i64 most, .int .u64 (N2 : Int)] 50)) := (Below.refl _ _).alloc (Nat.le_refl _) _
      have hq3 := (hb3.block q (lt_of_block hq)).trans hq
      have hb3' := hb.trans (hb3.mono z)
      have z3 := hb3'.size
      have HC := Lib.hid (ask_any p q F r e what most N2 _ (hR.below hb3) hq3 HQF.out hI1 (by omega))
      have H3 := Lib.hid (And.intro hq3 hb3')
      clear hR hq hb hb3 hq3 hb3'
      go_wp2_with fail
      refine HC.out.mono ?_
      rintro en w4 ⟨rfl, r', e', hR4, hl4, hT4⟩
      obtain ⟨hq3, hb3'⟩ := H3.out
      have H4 := Lib.hid (And.intro hR4 (And.intro ((hT4.block q (lt_of_block hq3) HPQ.out).trans hq3) (hT4.below hb3' z3 HPF.out)))
      clear hR4 hT4 hq3 hb3' H3 HC x0 x1 x2
      go_wp2_with fail
      go_roundw
      case rel =>
        obtain ⟨h1, h2, h3⟩ := H4.out
        exact ⟨j + 1, r', e', by go_num, by omega, by omega, h1, h2, by omega, h3⟩
      case measure => simp [intOf]; omega
    · by_cases h6 : j = n
      · have hge : n ≤ j := by omega
        clear h6
        obtain ⟨V, hV⟩ : ∃ V, V = wr := ⟨_, rfl⟩
        rw [← hV] at hR hq hb
        rw [← hV]
        clear hV
        have zV := hb.size
        have cq := cell_of_one hq
        have hIx : Pl.I (1 + (N : Int)) := Pl.I.mk (by omega)
        have HE := Lib.hid (err_any _ F r e V hR)
        have HF := Lib.hid (rfail_any _ F r e (1 + (N : Int)) V hR hIx)
        have H5 := Lib.hid (And.intro hR (And.intro hq hb))
        clear hR hq hb hIx
        go_wp2_with fail
        refine HE.out.mono ?_
        rintro en w' ⟨rfl, rfl⟩
        by_cases he : e = 0
        · subst he
          obtain ⟨Wt, hWt⟩ : ∃ Wt : Int, Wt = 1 + (N : Int) := ⟨_, rfl⟩
          have hrf : Pl.rf r 0 (1 + (N : Int)) = ([], Wt) := by rw [hWt]; simp [Pl.rf]; omega
          rw [hrf] at HF
          have hW0 : Wt ≠ 0 := by omega
          have HWt := Lib.hid hWt
          clear hrf hWt
          go_wp2_with fail
          refine HF.out.mono ?_
          rintro en V2 ⟨rfl, hR2, hT2⟩
          rw [← HWt.out]
          obtain ⟨_, hq, hb⟩ := H5.out
          have hq2 := (hT2.block q (lt_of_block hq) HPQ.out).trans hq
          have hb2 := hT2.below hb zV HPF.out
          have H6 := Lib.hid (And.intro hR2 (And.intro hq2 hb2))
          clear hR2 hT2 hq hb hq2 hb2 HF HE H5 cq
          go_wp2_with fail
          go_loopw [51] (fun i wr => Rel2 w n p q F Wt i wr) (fun i _ => n - (intOf i).toNat)
          case atStart =>
            obtain ⟨h1, h2, h3⟩ := H6.out
            exact ⟨0, rfl, by omega, by omega, h1, h2, h3⟩
          case round =>
            obtain ⟨j2, rfl, hj2, h32, hR, hq, hb⟩ := hrel
            obtain ⟨wp, rfl⟩ : ∃ wp : World, wp = wr := ⟨_, rfl⟩
            have z := hb.size
            by_cases hlt2 : j2 < n ∧ j2 < 30
            · obtain ⟨hlt2, hlt32⟩ := hlt2
              obtain ⟨g2, o2, eL, hg2, y0, hI0', y1, hI1', y2, hU2'⟩ := (HL.out.below hb (Nat.le_refl _)).2.2.2 j2 hlt2
              cases eL
              obtain ⟨⟨what2, most2, N3⟩, ht⟩ : ∃ t, t = ls.getD j2 default := ⟨_, rfl⟩
              rw [← ht] at y0 hI0' y1 hI1' y2 hU2'
              simp only at y0 hI0' y1 hI1' y2 hU2'
              clear ht
              have b30 : ((j2 : Int) == 30) = false := by rw [beq_eq_false_iff_ne]; omega
              have hb3 : Below wp.heap.size wp (wp.alloc (.cells #[.int .i64 what2, .int .i64 most2, .int .u64 (N3 : Int)] 50)) := (Below.refl _ _).alloc (Nat.le_refl _) _
              have hq3 := (hb3.block q (lt_of_block hq)).trans hq
              have hb3' := hb.trans (hb3.mono z)
              have z3 := hb3'.size
              have HC := Lib.hid (ask_dead p q F [] Wt hW0 what2 most2 N3 _ (hR.below hb3) hq3 HQF.out hI1' (by simp))
              have H3 := Lib.hid (And.intro hq3 hb3')
              clear hR hq hb hb3 hq3 hb3'
              go_wp2_with fail
              refine HC.out.mono ?_
              rintro en w4 ⟨rfl, hR4, hT4⟩
              obtain ⟨hq3, hb3'⟩ := H3.out
              have hq4 := (hT4.block q (lt_of_block hq3) HPQ.out).trans hq3
              have c4 := cell_of_one hq4
              have HE4 := Lib.hid (err_any _ F [] Wt w4 hR4)
              have H4 := Lib.hid (And.intro hR4 (And.intro hq4 (hT4.below hb3' z3 HPF.out)))
              clear hR4 hT4 hq3 hb3' H3 HC y0 y1 y2 hq4
              go_wp2_with fail
              refine HE4.out.mono ?_
              rintro en w' ⟨rfl, rfl⟩
              go_wp2_with fail
              go_roundw
              case rel =>
                obtain ⟨h1, h2, h3⟩ := H4.out
                exact ⟨j2 + 1, by go_num, by omega, by omega, h1, h2, h3⟩
              case measure => simp [intOf]; omega
            · have hge2 : n ≤ j2 := by omega
              have hnil : True := trivial
              have HA := Lib.hid (fun w' => awake_any w')
              have H7 := Lib.hid (And.intro hR (And.intro hq hb))
              clear hR hq hb
              go_wp2_with fail
              refine (HA.out _).mono ?_
              rintro en wa ⟨rfl, hba⟩
              obtain ⟨hR, hq, hb⟩ := H7.out
              have hRa := hR.below hba
              have hqa := (hba.block q (lt_of_block hq)).trans hq
              have ca := cell_of_one hqa
              have hbA := hb.trans (hba.mono z)
              have HE9 := Lib.hid (err_any _ F [] Wt wa hRa)
              clear hR hq hb hba hRa hqa
              go_wp2_with fail
              refine HE9.out.mono ?_
              rintro en w' ⟨rfl, rfl⟩
              go_wp2_with fail
              go_ret
              exact ⟨rfl, hbA⟩
        · obtain ⟨Wt, hWt⟩ : ∃ Wt : Int, Wt = e := ⟨_, rfl⟩
          have hrf : Pl.rf r e (1 + (N : Int)) = (r, e) := by simp [Pl.rf, he]
          rw [hrf] at HF
          have hr0 := H5.out.1.dead he
          subst hr0
          rw [← hWt] at HF he
          have hW0 : Wt ≠ 0 := he
          have be : (Wt == 0) = false := by rw [beq_eq_false_iff_ne]; exact he
          subst hWt
          clear hrf he
          go_wp2_with fail
          refine HF.out.mono ?_
          rintro en V2 ⟨rfl, hR2, hT2⟩
          obtain ⟨_, hq, hb⟩ := H5.out
          have hq2 := (hT2.block q (lt_of_block hq) HPQ.out).trans hq
          have hb2 := hT2.below hb zV HPF.out
          have H6 := Lib.hid (And.intro hR2 (And.intro hq2 hb2))
          clear hR2 hT2 hq hb hq2 hb2 HF HE H5 cq
          go_wp2_with fail
          go_loopw [51] (fun i wr => Rel2 w n p q F Wt i wr) (fun i _ => n - (intOf i).toNat)
          case atStart =>
            obtain ⟨h1, h2, h3⟩ := H6.out
            exact ⟨0, rfl, by omega, by omega, h1, h2, h3⟩
          case round =>
            obtain ⟨j2, rfl, hj2, h32, hR, hq, hb⟩ := hrel
            obtain ⟨wp, rfl⟩ : ∃ wp : World, wp = wr := ⟨_, rfl⟩
            have z := hb.size
            by_cases hlt2 : j2 < n ∧ j2 < 30
            · obtain ⟨hlt2, hlt32⟩ := hlt2
              obtain ⟨g2, o2, eL, hg2, y0, hI0', y1, hI1', y2, hU2'⟩ := (HL.out.below hb (Nat.le_refl _)).2.2.2 j2 hlt2
              cases eL
              obtain ⟨⟨what2, most2, N3⟩, ht⟩ : ∃ t, t = ls.getD j2 default := ⟨_, rfl⟩
              rw [← ht] at y0 hI0' y1 hI1' y2 hU2'
              simp only at y0 hI0' y1 hI1' y2 hU2'
              clear ht
              have b30 : ((j2 : Int) == 30) = false := by rw [beq_eq_false_iff_ne]; omega
              have hb3 : Below wp.heap.size wp (wp.alloc (.cells #[.int .i64 what2, .int .i64 most2, .int .u64 (N3 : Int)] 50)) := (Below.refl _ _).alloc (Nat.le_refl _) _
              have hq3 := (hb3.block q (lt_of_block hq)).trans hq
              have hb3' := hb.trans (hb3.mono z)
              have z3 := hb3'.size
              have HC := Lib.hid (ask_dead p q F [] Wt hW0 what2 most2 N3 _ (hR.below hb3) hq3 HQF.out hI1' (by simp))
              have H3 := Lib.hid (And.intro hq3 hb3')
              clear hR hq hb hb3 hq3 hb3'
              go_wp2_with fail
              refine HC.out.mono ?_
              rintro en w4 ⟨rfl, hR4, hT4⟩
              obtain ⟨hq3, hb3'⟩ := H3.out
              have hq4 := (hT4.block q (lt_of_block hq3) HPQ.out).trans hq3
              have c4 := cell_of_one hq4
              have HE4 := Lib.hid (err_any _ F [] Wt w4 hR4)
              have H4 := Lib.hid (And.intro hR4 (And.intro hq4 (hT4.below hb3' z3 HPF.out)))
              clear hR4 hT4 hq3 hb3' H3 HC y0 y1 y2 hq4
              go_wp2_with fail
              refine HE4.out.mono ?_
              rintro en w' ⟨rfl, rfl⟩
              go_wp2_with fail
              go_roundw
              case rel =>
                obtain ⟨h1, h2, h3⟩ := H4.out
                exact ⟨j2 + 1, by go_num, by omega, by omega, h1, h2, h3⟩
              case measure => simp [intOf]; omega
            · have hge2 : n ≤ j2 := by omega
              have hnil : True := trivial
              have HA := Lib.hid (fun w' => awake_any w')
              have H7 := Lib.hid (And.intro hR (And.intro hq hb))
              clear hR hq hb
              go_wp2_with fail
              refine (HA.out _).mono ?_
              rintro en wa ⟨rfl, hba⟩
              obtain ⟨hR, hq, hb⟩ := H7.out
              have hRa := hR.below hba
              have hqa := (hba.block q (lt_of_block hq)).trans hq
              have ca := cell_of_one hqa
              have hbA := hb.trans (hba.mono z)
              have HE9 := Lib.hid (err_any _ F [] Wt wa hRa)
              clear hR hq hb hba hRa hqa
              go_wp2_with fail
              refine HE9.out.mono ?_
              rintro en w' ⟨rfl, rfl⟩
              go_wp2_with fail
              go_ret
              exact ⟨rfl, hbA⟩
      · have hj6 : j = 30 := by omega
        subst hj6
        obtain ⟨g, o, rfl, hg, x0, hI0, x1, hI1, x2, hU2⟩ := (HL.out.below hb (Nat.le_refl _)).2.2.2 30 (by omega)
        obtain ⟨⟨what, most, N2⟩, ht⟩ : ∃ t, t = ls.getD 30 default := ⟨_, rfl⟩
        rw [← ht] at x0 hI0 x1 hI1 x2 hU2
        simp only at x0 hI0 x1 hI1 x2 hU2
        clear ht
        have hb3 : Below wr.heap.size wr (wr.alloc (.cells #[.int .i64 what, .int .i64 most, .int .u64 (N2 : Int)] 50)) := (Below.refl _ _).alloc (Nat.le_refl _) _
        replace hR := hR.below hb3
        replace hq := (hb3.block q (lt_of_block hq)).trans hq
        replace hb := hb.trans (hb3.mono z)
        have cq := cell_of_one hq
        have HALL := Lib.hid (And.intro hR (And.intro hq hb))
        clear hR hq hb hb3
        go_wp2_with fail
        obtain ⟨hR, hq, hb⟩ := HALL.out
        clear HALL cq x0 x1 x2
        obtain ⟨V, hV⟩ : ∃ V, V = wr.alloc (.cells #[.int .i64 what, .int .i64 most, .int .u64 (N2 : Int)] 50) := ⟨_, rfl⟩
        rw [← hV] at hR hq hb
        rw [← hV]
        clear hV
        have zV := hb.size
        have cq := cell_of_one hq
        have hIx : Pl.I (1 + (N : Int)) := Pl.I.mk (by omega)
        have HE := Lib.hid (err_any _ F r e V hR)
        have HF := Lib.hid (rfail_any _ F r e (1 + (N : Int)) V hR hIx)
        have H5 := Lib.hid (And.intro hR (And.intro hq hb))
        clear hR hq hb hIx
        refine HE.out.mono ?_
        rintro en w' ⟨rfl, rfl⟩
        by_cases he : e = 0
        · subst he
          obtain ⟨Wt, hWt⟩ : ∃ Wt : Int, Wt = 1 + (N : Int) := ⟨_, rfl⟩
          have hrf : Pl.rf r 0 (1 + (N : Int)) = ([], Wt) := by rw [hWt]; simp [Pl.rf]; omega
          rw [hrf] at HF
          have hW0 : Wt ≠ 0 := by omega
          have HWt := Lib.hid hWt
          clear hrf hWt
          go_wp2_with fail
          refine HF.out.mono ?_
          rintro en V2 ⟨rfl, hR2, hT2⟩
          rw [← HWt.out]
          obtain ⟨_, hq, hb⟩ := H5.out
          have hq2 := (hT2.block q (lt_of_block hq) HPQ.out).trans hq
          have hb2 := hT2.below hb zV HPF.out
          have H6 := Lib.hid (And.intro hR2 (And.intro hq2 hb2))
          clear hR2 hT2 hq hb hq2 hb2 HF HE H5 cq
          go_wp2_with fail
          go_loopw [51] (fun i wr => Rel2 w n p q F Wt i wr) (fun i _ => n - (intOf i).toNat)
          case atStart =>
            obtain ⟨h1, h2, h3⟩ := H6.out
            exact ⟨0, rfl, by omega, by omega, h1, h2, h3⟩
          case round =>
            obtain ⟨j2, rfl, hj2, h32, hR, hq, hb⟩ := hrel
            obtain ⟨wp, rfl⟩ : ∃ wp : World, wp = wr := ⟨_, rfl⟩
            have z := hb.size
            by_cases hlt2 : j2 < n ∧ j2 < 30
            · obtain ⟨hlt2, hlt32⟩ := hlt2
              obtain ⟨g2, o2, eL, hg2, y0, hI0', y1, hI1', y2, hU2'⟩ := (HL.out.below hb (Nat.le_refl _)).2.2.2 j2 hlt2
              cases eL
              obtain ⟨⟨what2, most2, N3⟩, ht⟩ : ∃ t, t = ls.getD j2 default := ⟨_, rfl⟩
              rw [← ht] at y0 hI0' y1 hI1' y2 hU2'
              simp only at y0 hI0' y1 hI1' y2 hU2'
              clear ht
              have b30 : ((j2 : Int) == 30) = false := by rw [beq_eq_false_iff_ne]; omega
              have hb3 : Below wp.heap.size wp (wp.alloc (.cells #[.int .i64 what2, .int .i64 most2, .int .u64 (N3 : Int)] 50)) := (Below.refl _ _).alloc (Nat.le_refl _) _
              have hq3 := (hb3.block q (lt_of_block hq)).trans hq
              have hb3' := hb.trans (hb3.mono z)
              have z3 := hb3'.size
              have HC := Lib.hid (ask_dead p q F [] Wt hW0 what2 most2 N3 _ (hR.below hb3) hq3 HQF.out hI1' (by simp))
              have H3 := Lib.hid (And.intro hq3 hb3')
              clear hR hq hb hb3 hq3 hb3'
              go_wp2_with fail
              refine HC.out.mono ?_
              rintro en w4 ⟨rfl, hR4, hT4⟩
              obtain ⟨hq3, hb3'⟩ := H3.out
              have hq4 := (hT4.block q (lt_of_block hq3) HPQ.out).trans hq3
              have c4 := cell_of_one hq4
              have HE4 := Lib.hid (err_any _ F [] Wt w4 hR4)
              have H4 := Lib.hid (And.intro hR4 (And.intro hq4 (hT4.below hb3' z3 HPF.out)))
              clear hR4 hT4 hq3 hb3' H3 HC y0 y1 y2 hq4
              go_wp2_with fail
              refine HE4.out.mono ?_
              rintro en w' ⟨rfl, rfl⟩
              go_wp2_with fail
              go_roundw
              case rel =>
                obtain ⟨h1, h2, h3⟩ := H4.out
                exact ⟨j2 + 1, by go_num, by omega, by omega, h1, h2, h3⟩
              case measure => simp [intOf]; omega
            · have hj62 : j2 = 30 := by omega
              subst hj62
              obtain ⟨g2, o2, eL, hg2, y0, hI0', y1, hI1', y2, hU2'⟩ := (HL.out.below hb (Nat.le_refl _)).2.2.2 30 (by omega)
              cases eL
              obtain ⟨⟨what2, most2, N3⟩, ht⟩ : ∃ t, t = ls.getD 30 default := ⟨_, rfl⟩
              rw [← ht] at y0 hI0' y1 hI1' y2 hU2'
              simp only at y0 hI0' y1 hI1' y2 hU2'
              clear ht
              have hb3 : Below wp.heap.size wp (wp.alloc (.cells #[.int .i64 what2, .int .i64 most2, .int .u64 (N3 : Int)] 50)) := (Below.refl _ _).alloc (Nat.le_refl _) _
              replace hR := hR.below hb3
              replace hq := (hb3.block q (lt_of_block hq)).trans hq
              replace hb := hb.trans (hb3.mono z)
              replace z := hb.size
              clear hb3
              have HA := Lib.hid (fun w' => awake_any w')
              have H7 := Lib.hid (And.intro hR (And.intro hq hb))
              clear hR hq hb
              go_wp2_with fail
              refine (HA.out _).mono ?_
              rintro en wa ⟨rfl, hba⟩
              obtain ⟨hR, hq, hb⟩ := H7.out
              have hRa := hR.below hba
              have hqa := (hba.block q (lt_of_block hq)).trans hq
              have ca := cell_of_one hqa
              have hbA := hb.trans (hba.mono z)
              have HE9 := Lib.hid (err_any _ F [] Wt wa hRa)
              clear hR hq hb hba hRa hqa
              go_wp2_with fail
              refine HE9.out.mono ?_
              rintro en w' ⟨rfl, rfl⟩
              go_wp2_with fail
              go_ret
              exact ⟨rfl, hbA⟩
        · obtain ⟨Wt, hWt⟩ : ∃ Wt : Int, Wt = e := ⟨_, rfl⟩
          have hrf : Pl.rf r e (1 + (N : Int)) = (r, e) := by simp [Pl.rf, he]
          rw [hrf] at HF
          have hr0 := H5.out.1.dead he
          subst hr0
          rw [← hWt] at HF he
          have hW0 : Wt ≠ 0 := he
          have be : (Wt == 0) = false := by rw [beq_eq_false_iff_ne]; exact he
          subst hWt
          clear hrf he
          go_wp2_with fail
          refine HF.out.mono ?_
          rintro en V2 ⟨rfl, hR2, hT2⟩
          obtain ⟨_, hq, hb⟩ := H5.out
          have hq2 := (hT2.block q (lt_of_block hq) HPQ.out).trans hq
          have hb2 := hT2.below hb zV HPF.out
          have H6 := Lib.hid (And.intro hR2 (And.intro hq2 hb2))
          clear hR2 hT2 hq hb hq2 hb2 HF HE H5 cq
          go_wp2_with fail
          go_loopw [51] (fun i wr => Rel2 w n p q F Wt i wr) (fun i _ => n - (intOf i).toNat)
          case atStart =>
            obtain ⟨h1, h2, h3⟩ := H6.out
            exact ⟨0, rfl, by omega, by omega, h1, h2, h3⟩
          case round =>
            obtain ⟨j2, rfl, hj2, h32, hR, hq, hb⟩ := hrel
            obtain ⟨wp, rfl⟩ : ∃ wp : World, wp = wr := ⟨_, rfl⟩
            have z := hb.size
            by_cases hlt2 : j2 < n ∧ j2 < 30
            · obtain ⟨hlt2, hlt32⟩ := hlt2
              obtain ⟨g2, o2, eL, hg2, y0, hI0', y1, hI1', y2, hU2'⟩ := (HL.out.below hb (Nat.le_refl _)).2.2.2 j2 hlt2
              cases eL
              obtain ⟨⟨what2, most2, N3⟩, ht⟩ : ∃ t, t = ls.getD j2 default := ⟨_, rfl⟩
              rw [← ht] at y0 hI0' y1 hI1' y2 hU2'
              simp only at y0 hI0' y1 hI1' y2 hU2'
              clear ht
              have b30 : ((j2 : Int) == 30) = false := by rw [beq_eq_false_iff_ne]; omega
              have hb3 : Below wp.heap.size wp (wp.alloc (.cells #[.int .i64 what2, .int .i64 most2, .int .u64 (N3 : Int)] 50)) := (Below.refl _ _).alloc (Nat.le_refl _) _
              have hq3 := (hb3.block q (lt_of_block hq)).trans hq
              have hb3' := hb.trans (hb3.mono z)
              have z3 := hb3'.size
              have HC := Lib.hid (ask_dead p q F [] Wt hW0 what2 most2 N3 _ (hR.below hb3) hq3 HQF.out hI1' (by simp))
              have H3 := Lib.hid (And.intro hq3 hb3')
              clear hR hq hb hb3 hq3 hb3'
              go_wp2_with fail
              refine HC.out.mono ?_
              rintro en w4 ⟨rfl, hR4, hT4⟩
              obtain ⟨hq3, hb3'⟩ := H3.out
              have hq4 := (hT4.block q (lt_of_block hq3) HPQ.out).trans hq3
              have c4 := cell_of_one hq4
              have HE4 := Lib.hid (err_any _ F [] Wt w4 hR4)
              have H4 := Lib.hid (And.intro hR4 (And.intro hq4 (hT4.below hb3' z3 HPF.out)))
              clear hR4 hT4 hq3 hb3' H3 HC y0 y1 y2 hq4
              go_wp2_with fail
              refine HE4.out.mono ?_
              rintro en w' ⟨rfl, rfl⟩
              go_wp2_with fail
              go_roundw
              case rel =>
                obtain ⟨h1, h2, h3⟩ := H4.out
                exact ⟨j2 + 1, by go_num, by omega, by omega, h1, h2, h3⟩
              case measure => simp [intOf]; omega
            · have hj62 : j2 = 30 := by omega
              subst hj62
              obtain ⟨g2, o2, eL, hg2, y0, hI0', y1, hI1', y2, hU2'⟩ := (HL.out.below hb (Nat.le_refl _)).2.2.2 30 (by omega)
              cases eL
              obtain ⟨⟨what2, most2, N3⟩, ht⟩ : ∃ t, t = ls.getD 30 default := ⟨_, rfl⟩
              rw [← ht] at y0 hI0' y1 hI1' y2 hU2'
              simp only at y0 hI0' y1 hI1' y2 hU2'
              clear ht
              have hb3 : Below wp.heap.size wp (wp.alloc (.cells #[.int .i64 what2, .int .i64 most2, .int .u64 (N3 : Int)] 50)) := (Below.refl _ _).alloc (Nat.le_refl _) _
              replace hR := hR.below hb3
              replace hq := (hb3.block q (lt_of_block hq)).trans hq
              replace hb := hb.trans (hb3.mono z)
              replace z := hb.size
              clear hb3
              have HA := Lib.hid (fun w' => awake_any w')
              have H7 := Lib.hid (And.intro hR (And.intro hq hb))
              clear hR hq hb
              go_wp2_with fail
              refine (HA.out _).mono ?_
              rintro en wa ⟨rfl, hba⟩
              obtain ⟨hR, hq, hb⟩ := H7.out
              have hRa := hR.below hba
              have hqa := (hba.block q (lt_of_block hq)).trans hq
              have ca := cell_of_one hqa
              have hbA := hb.trans (hba.mono z)
              have HE9 := Lib.hid (err_any _ F [] Wt wa hRa)
              clear hR hq hb hba hRa hqa
              go_wp2_with fail
              refine HE9.out.mono ?_
              rintro en w' ⟨rfl, rfl⟩
              go_wp2_with fail
              go_ret
              exact ⟨rfl, hbA⟩
end Go.Proofs.Ytpakbpkcacdpbaa.wireFails
