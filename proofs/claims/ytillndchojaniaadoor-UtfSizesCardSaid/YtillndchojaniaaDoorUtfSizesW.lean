/-
  The walk of copybooklaw04.UtfSizes: it returns true for every text; nothing that was there turned. Condition: the tables stand.
-/
import Derived.Test.YtillndchojaniaaDoorUtfI
import Derived.Test.YtillndchojaniaaDoorUtfE
import Derived.Test.YtillndchojaniaaDoorBaseR
namespace Go.Proofs.YtillndchojaniaaDoor.Pl
/-- how many bytes begin a code point -/
def cnt (bs : List Nat) : Nat := (bs.filter fun b => decide (b / 64 ≠ 2)).length
theorem cnt_append (a b : List Nat) : cnt (a ++ b) = cnt a + cnt b := by simp [cnt]
theorem cnt_snoc (l : List Nat) (j : Nat) (h : j < l.length) : cnt (l.take (j + 1)) = cnt (l.take j) + (if l.getD j 0 / 64 = 2 then 0 else 1) := by
  rw [List.take_add_one, List.getElem?_eq_getElem h, List.getD_eq_getElem?_getD, List.getElem?_eq_getElem h, cnt_append]
  congr 1
  simp only [Option.toList, cnt, Option.getD_some]
  by_cases hc : l[j] / 64 = 2
  · rw [if_pos hc, List.filter_cons_of_neg (by simp [hc])]; rfl
  · rw [if_neg hc, List.filter_cons_of_pos (by simp [hc])]; rfl
theorem cnt_le (l : List Nat) : cnt l ≤ l.length := List.length_filter_le _ _
theorem uno_head {c : Int} (h : May c) : (uno c).getD 0 0 / 64 ≠ 2 ∧ (uno c).getD 0 0 < 256 := by
  have hc := h.le
  unfold uno one
  split
  · simp; omega
  · split
    · simp; omega
    · split
      · simp; omega
      · simp; omega
theorem cnt_uno {c : Int} (h : May c) : cnt (uno c) = 1 := by
  have hc := h.le
  unfold uno one
  split
  · rename_i h1
    simp only [cnt]
    rw [List.filter_cons_of_pos (by simp; omega)]; rfl
  · split
    · simp only [cnt]
      rw [List.filter_cons_of_pos (by simp; omega), List.filter_cons_of_neg (by simp; omega)]; rfl
    · split
      · simp only [cnt]
        rw [List.filter_cons_of_pos (by simp; omega), List.filter_cons_of_neg (by simp; omega), List.filter_cons_of_neg (by simp; omega)]; rfl
      · simp only [cnt]
        rw [List.filter_cons_of_pos (by simp; omega), List.filter_cons_of_neg (by simp; omega), List.filter_cons_of_neg (by simp; omega), List.filter_cons_of_neg (by simp; omega)]; rfl
theorem cnt_encs {cs : List Int} (h : AllMay cs) : cnt (encs cs) = cs.length := by
  induction cs with
  | nil => rfl
  | cons c cs ih => rw [encs_cons, cnt_append, cnt_uno (h c (by simp)), ih (fun x hx => h x (by simp [hx])), List.length_cons]; omega
theorem whole_uno {c : Int} (h : May c) : whole (uno c) = (uno c).length := by
  have h1 := whole_encs (cs := [c]) (fun x hx => by simp at hx; rw [hx]; exact h)
  simpa [encs] using h1
/-- no part of one code point's bytes is another one's -/
theorem whole_part {c : Int} (h : May c) (k : Nat) (hk : k < (uno c).length) : whole ((uno c).take k) = 0 := by
  by_cases h0 : (fst ((uno c).take k)).2 = 0
  · exact whole_stop h0
  · exfalso
    obtain ⟨h1, h2, h3⟩ := fst_ok h0
    have h4 : uno c = uno ((fst ((uno c).take k)).1 : Nat) ++ (((uno c).take k).drop (fst ((uno c).take k)).2 ++ (uno c).drop k) := by
      rw [← List.append_assoc, ← h3, List.take_append_drop]
    have h5 := fst_uno h1 (((uno c).take k).drop (fst ((uno c).take k)).2 ++ (uno c).drop k)
    rw [← h4] at h5
    have h6 := fst_uno h []
    rw [List.append_nil] at h6
    rw [h6] at h5
    have h7 := (fst_le ((uno c).take k)).1
    rw [List.length_take] at h7
    have h8 := congrArg Prod.snd h5
    simp only at h8
    omega
theorem split_at {cs : List Int} {i : Nat} (h : i < cs.length) : encs cs = encs (cs.take i) ++ (uno (cs.getD i 0) ++ encs (cs.drop (i + 1))) := by
  have h1 : cs = cs.take i ++ (cs.getD i 0 :: cs.drop (i + 1)) := by
    rw [List.getD_eq_getElem?_getD, List.getElem?_eq_getElem h]
    show cs = cs.take i ++ (cs[i] :: cs.drop (i + 1))
    rw [← List.drop_eq_getElem_cons h, List.take_append_drop]
  have h2 := congrArg encs h1
  rw [encs_append, encs_cons] at h2
  exact h2
end Go.Proofs.YtillndchojaniaaDoor.Pl
namespace Go.Proofs.YtillndchojaniaaDoor.utfSizes
open Go.RowKit

theorem bit6 (b : Nat) : ((b : Int) / 64 = 2) ↔ b / 64 = 2 := by omega
def ZRel (w : World) (n : Nat) (cs : List Int) (at_ i : Value) (wr : World) : Prop :=
  ∃ (j q : Nat), i = .int .i64 (j : Int) ∧ j ≤ n ∧ at_ = .int .i64 (q : Int) ∧ q = (Pl.encs (cs.take j)).length ∧ Below w.heap.size w wr

set_option maxRecDepth 100000 in
set_option maxHeartbeats 4000000 in
theorem walk (w : World) (hT : Tab w) (A : Option Addr) (n c : Nat) (cs : List Int) (hA : Crs w w.heap.size A n c cs) (hr : n * 4 ≤ 140737488351232) :
    Calls Tryd.prog 7 #[.slice A n c] w fun e w' => e = .returned (.bool true) ∧ Below w.heap.size w w' := by
  have hle := hA.le
  have hcap := hA.cap
  unfold maxLen at hcap
  have HA := Lib.hid hA
  have HT := Lib.hid hT
  have HL := Lib.hid hA.len
  have HR := Lib.hid hr
  have hn45 : n ≤ 35184372087808 := by omega
  clear hA hT hr
  go_enter Tryd.func7, Tryd.ntmps7
  go_wp2_with fail
  refine (enc_any A n c cs w HT.out HA.out HR.out).mono ?_
  rintro e w1 ⟨A1, L, c1, rfl, hO1, hb1⟩
  have HB1 := Lib.hid hb1
  by_cases hall : Pl.AllMay cs
  · rw [(Pl.enc_yes hall).2]
    rw [(Pl.enc_yes hall).1] at hO1
    have HLL := Lib.hid hO1.bys.1
    have HO1 := Lib.hid hO1
    have HBY := Lib.hid hO1.bys.2
    have HALL := Lib.hid hall
    have hL : L ≤ 140737488355328 := by
      have h1 := Pl.len_encs_le cs
      have := HLL.out
      have := HL.out
      have := HR.out
      omega
    have hLc := hO1.bys.2.le
    have hLm := hO1.bys.2.cap
    unfold maxLen at hLm
    clear hall hO1 hb1
    go_wp2_with fail
    go_loop [5, 7] (fun mn i => ∃ j k : Nat, i = .int .i64 (j : Int) ∧ j ≤ L ∧ mn = .int .i64 (k : Int) ∧ k = Pl.cnt ((Pl.encs cs).take j) ∧ k ≤ j) (fun _ i => L - (intOf i).toNat)
    case atStart => exact ⟨0, 0, rfl, Nat.zero_le _, rfl, rfl, Nat.le_refl _⟩
    case round =>
      obtain ⟨j, k, rfl, hj, rfl, hk, hkj⟩ := hrel
      have HK := Lib.hid hk
      clear hk
      by_cases hlt : j < L
      · obtain ⟨g, o, rfl, hg, hc0⟩ := HBY.out.at_ hlt
        have hc := hc0 j hlt
        have HS := Lib.hid (Pl.cnt_snoc (Pl.encs cs) j (by have := HLL.out; omega))
        have hb256 := Pl.oct_getD HBY.out.oct j
        clear hc0
        obtain ⟨b, hb⟩ : ∃ b, b = (Pl.encs cs).getD j 0 := ⟨_, rfl⟩
        rw [← hb] at hc HS hb256
        clear hb
        by_cases h2 : b / 64 = 2
        · have hi2 : (b : Int) / 64 = 2 := (bit6 b).2 h2
          have HS2 := Lib.hid (show Pl.cnt ((Pl.encs cs).take (j + 1)) = k by rw [HS.out, if_pos h2, ← HK.out]; rfl)
          clear h2
          go_wp2_with fail
          go_round
          case rel => exact ⟨j + 1, k, by go_num, by omega, rfl, HS2.out.symm, by omega⟩
          case measure => simp [intOf]; omega
        · have hi2 : ((b : Int) / 64 != 2) = true := by rw [bne_iff_ne]; exact fun h => h2 ((bit6 b).1 h)
          have HS2 := Lib.hid (show Pl.cnt ((Pl.encs cs).take (j + 1)) = k + 1 by rw [HS.out, if_neg h2, ← HK.out])
          clear h2
          go_wp2_with fail
          go_round
          case rel => exact ⟨j + 1, k + 1, by go_num, by omega, by go_num, HS2.out.symm, by omega⟩
          case measure => simp [intOf]; omega
      · have hjl : j = L := by omega
        have HKN := Lib.hid (show k = n by
          rw [HK.out, hjl, HLL.out, List.take_length, Pl.cnt_encs HALL.out, HL.out])
        clear hjl
        have hkn := HKN.out
        subst hkn
        clear HK hkj
        go_wp2_with fail
        go_loopw [6, 8] (fun q i wr => ZRel w1 k cs q i wr) (fun _ i _ => k - (intOf i).toNat)
        case atStart => exact ⟨0, 0, rfl, Nat.zero_le _, rfl, rfl, Below.refl _ _⟩
        case round =>
          obtain ⟨i, q, rfl, hi, rfl, hq, hb⟩ := hrel
          have HQ := Lib.hid hq
          have HBR := Lib.hid hb
          have HB0R := Lib.hid (HB1.out.trans (hb.mono HB1.out.size))
          clear hq hb
          by_cases hlt2 : i < k
          · have HSP := Lib.hid (Pl.split_at (cs := cs) (i := i) (by have := HL.out; omega))
            have HSN := Lib.hid (Pl.encs_snoc (l := cs) (j := i) (by have := HL.out; omega))
            have HAR := Lib.hid (HA.out.then_ HB0R.out)
            obtain ⟨g, o, rfl, hg, hc0⟩ := HAR.out.at_ hlt2
            have hc := hc0 i hlt2
            clear hc0
            have hmay : Pl.May (cs.getD i 0) := by
              rw [List.getD_eq_getElem?_getD, List.getElem?_eq_getElem (by have := HL.out; omega)]
              exact HALL.out _ (List.getElem_mem _)
            have HD1 := Lib.hid (show (cs.drop i).take 1 = [cs.getD i 0] by
              rw [List.getD_eq_getElem?_getD, List.getElem?_eq_getElem (by have := HL.out; omega), List.drop_eq_getElem_cons (by have := HL.out; omega)]; rfl)
            obtain ⟨x, hx⟩ : ∃ x, x = cs.getD i 0 := ⟨_, rfl⟩
            rw [← hx] at HSP HSN hc hmay HD1
            clear hx
            have hsz := Pl.size_may hmay
            have hs1 := Pl.size_pos hmay
            have hs4 := Pl.size_le x
            have HU1 := Lib.hid (Pl.uno_head hmay)
            have HMAY := Lib.hid hmay
            have HSZ := Lib.hid (size_any x wr hmay.J)
            have HWU := Lib.hid (Pl.whole_uno hmay)
            have HWP := Lib.hid (Pl.whole_part hmay)
            obtain ⟨s, hs⟩ : ∃ s, s = Pl.size x := ⟨_, rfl⟩
            rw [← hs] at hsz hs1 hs4 HSZ
            have HUL := Lib.hid hsz
            have hqs : q + s ≤ L := by
              have h1 := congrArg List.length HSP.out
              rw [List.length_append, List.length_append, ← HLL.out, ← HQ.out, ← hsz] at h1
              omega
            have hdrop : (Pl.encs cs).drop q = Pl.uno x ++ Pl.encs (cs.drop (i + 1)) := by
              rw [HSP.out, HQ.out, List.drop_append_of_le_length (Nat.le_refl _), List.drop_length, List.nil_append]
            have HT1 := Lib.hid (show ((Pl.encs cs).drop q).take s = Pl.uno x by
              rw [hdrop, hsz, List.take_append_of_le_length (Nat.le_refl _), List.take_length])
            have HT2 := Lib.hid (show ((Pl.encs cs).drop q).take (s - 1) = (Pl.uno x).take (s - 1) by
              rw [hdrop, List.take_append_of_le_length (by omega)])
            have HBYR := Lib.hid (HBY.out.then_ HBR.out)
            obtain ⟨g2, o2, rfl, hg2, hc2⟩ := HBYR.out.at_ (i := q) (by omega)
            have hcq := hc2 q (by omega)
            have hf : (Pl.encs cs).getD q 0 = (Pl.uno x).getD 0 0 := by
              have h1 : (Pl.encs cs).getD q 0 = ((Pl.encs cs).drop q).getD 0 0 := by
                rw [List.getD_eq_getElem?_getD, List.getD_eq_getElem?_getD, List.getElem?_drop]; rfl
              rw [h1, hdrop, List.getD_eq_getElem?_getD, List.getElem?_append_left (by omega), List.getD_eq_getElem?_getD]
            rw [hf] at hcq
            obtain ⟨f, hf0⟩ : ∃ f, f = (Pl.uno x).getD 0 0 := ⟨_, rfl⟩
            rw [← hf0] at hcq HU1
            have hf256 := HU1.out.2
            have hf2 : ((f : Int) / 64 == 2) = false := by rw [beq_eq_false_iff_ne]; exact fun h => HU1.out.1 ((bit6 f).1 h)
            clear hf hf0 hc2 hdrop hmay hsz hs
            obtain ⟨A3, hC3, hcut⟩ := HAR.out.mid (k := i) (m := i + 1) (by omega) (by omega) (i : Int) ((i : Int) + 1) rfl (by omega)
            rw [show i + 1 - i = 1 by omega] at hC3 hcut
            rw [HD1.out] at hC3
            have HC3 := Lib.hid hC3
            have HE1 := Lib.hid (Pl.enc_yes (cs := [x]) (fun y hy => by simp at hy; rw [hy]; exact HMAY.out))
            have HEN := Lib.hid (show Pl.encs [x] = Pl.uno x by simp [Pl.encs])
            clear hC3
            go_wp2_with fail
            refine HSZ.out.mono ?_
            rintro e w' ⟨rfl, rfl⟩
            go_wp2_with fail
            refine (enc_any A3 1 (c - i) [x] wr (HT.out.then_ HB0R.out) HC3.out (by omega)).mono ?_
            rintro e w2 ⟨A4, n4, c4, rfl, hO4, hb4⟩
            rw [HE1.out.2]
            rw [HE1.out.1, HEN.out] at hO4
            have h4s : n4 = s := by rw [hO4.bys.1, HUL.out]
            subst h4s
            have HB2 := Lib.hid (HBR.out.trans (hb4.mono HBR.out.size))
            have HB02 := Lib.hid (HB0R.out.trans (hb4.mono HB0R.out.size))
            have HBY2 := Lib.hid (HBYR.out.then_ hb4)
            obtain ⟨r, hr0⟩ : ∃ r, r = q + n4 := ⟨_, rfl⟩
            obtain ⟨r2, hr2⟩ : ∃ r, r = q + (n4 - 1) := ⟨_, rfl⟩
            have HRR := Lib.hid (And.intro hr0 hr2)
            obtain ⟨A5, hB5, hsl1⟩ := HBY2.out.mid (k := q) (m := r) (by omega) (by omega) (q : Int) (r : Int) rfl rfl
            obtain ⟨A6, hB6, hsl2⟩ := HBY2.out.mid (k := q) (m := r2) (by omega) (by omega) (q : Int) (r2 : Int) rfl rfl
            rw [show r - q = n4 by omega] at hB5 hsl1
            rw [show r2 - q = n4 - 1 by omega] at hB6 hsl2
            rw [HT1.out] at hB5
            rw [HT2.out] at hB6
            have y1 := fun (w' : World) (hk : Below w2.heap.size w2 w') => (hO4.bys.2.then_ hk).conv
            have y2 := fun (w' : World) (hk : Below w2.heap.size w2 w') => (hB5.then_ hk).conv
            obtain ⟨s1, hs10⟩ : ∃ s1, s1 = strOfNums (ints (Pl.uno x)) := ⟨_, rfl⟩
            rw [← hs10] at y1 y2
            have HW1 := fun (w' : World) (hk : Below w2.heap.size w2 w') => whole_any A5 n4 (c1 - q) (Pl.uno x) w' ((HT.out.then_ HB02.out).then_ hk) (hB5.then_ hk)
            rw [HWU.out, ← HUL.out] at HW1
            have HW2 := fun (w' : World) (hk : Below w2.heap.size w2 w') => whole_any A6 (n4 - 1) (c1 - q) _ w' ((HT.out.then_ HB02.out).then_ hk) (hB6.then_ hk)
            have hadd : IntKind.i64.wrap ((q : Int) + (n4 : Int)) = (r : Int) := by rw [IntWalk.i64_in _ (by omega)]; omega
            have HAA := Lib.hid (And.intro y1 (And.intro y2 (And.intro HW1 (And.intro HW2 (And.intro hsl1 (And.intro hsl2 hadd))))))
            have HQN := Lib.hid (show q + n4 = (Pl.encs (cs.take (i + 1))).length by rw [HSN.out, List.length_append, ← HQ.out, ← HUL.out])
            clear hr0 hr2 hs10 y1 y2 HW1 HW2 hsl1 hsl2 hadd hB5 hB6 hO4 hb4 hcut hcq hc
            by_cases h1 : n4 = 1
            · have H1 := Lib.hid h1
              clear h1
              go_wp2_with fail
              obtain ⟨y1, y2, HW1, HW2, hs1', hs2, hadd⟩ := HAA.out
              have hd2 : decide ((1 : Int) < (n4 : Int)) = false := decide_eq_false (by have := H1.out; omega)
              refine Rg.wp_region_inv (fun w' => Below w2.heap.size w2 w') (Rg.Wd.at [.is (.int .i64 0), .is (.bool false), .is (.bool false), .is (.slice A4 n4 c4), .is (.string s1), .is (.slice (some ⟨g2, o2, none⟩) L c1), .is (.int .i64 (q : Int)), .is (.int .i64 (q : Int)), .is (.int .i64 (n4 : Int)), .is (.int .i64 (r : Int)), .is (.slice A5  n4 (c1 - q)), .is (.string s1), .is (.bool false), .is (.bool false), .is (.bool false), .is (.slice (some ⟨g2, o2, none⟩) L c1), .is (.int .i64 (q : Int)), .is (.int .i64 (q : Int)), .is (.int .i64 (n4 : Int)), .is (.int .i64 (r : Int)), .is (.slice A5  n4 (c1 - q)), .is (.int .i64 (n4 : Int)), .is (.int .i64 (n4 : Int)), .is (.bool false), .is (.bool false), .is (.bool false), .is (.int .i64 (n4 : Int)), .is (.bool false), .is (.bool false), .any, .any, .any, .any, .any, .any, .any, .any, .any, .is (.bool false), .is (.bool false)]) (by kernel_rfl) (by kernel_rfl) (Rg.Wd.stays _ _) (below_drawn (Below.refl _ w2)) ⟨?_, ?_, ?_, ?_, ?_, ?_, ?_, ?_, ?_, ?_, ?_, ?_, ?_, ?_, ?_, ?_, ?_, ?_, ?_, ?_, ?_, ?_, ?_, ?_, ?_, ?_, ?_, ?_, ?_, ?_, ?_, ?_, ?_, ?_, ?_, ?_, ?_, ?_, ?_, ?_, trivial⟩ ?_
              · intro a w1 hS hb hd
                have e11 := hb 11 (Rg.nw (by decide))
                simp [Act.eval] at e11
                exact Rg.does_pure (Rg.wanted_none rfl) (by simp [execOp, e11, go_sem]) hS rfl
              · intro a w1 hS hb hd
                have e80 := hd ⟨0, .data⟩ (by simp) rfl _ _ rfl rfl
                have e80 : a.tmps[80]?.getD undef = (.int .i64 0) := Rg.slot e80
                exact Rg.does_pure (Rg.wanted_none rfl) (by simp [execOp, e80, go_sem]) hS rfl
              · intro a w1 hS hb hd
                have e81 := hd ⟨1, .data⟩ (by simp) rfl _ _ rfl rfl
                have e81 : a.tmps[81]?.getD undef = (.bool false) := Rg.slot e81
                exact Rg.does_pure (Rg.wanted_none rfl) (by simp [execOp, e81, go_sem]) hS rfl
              · intro a w1 hS hb hd
                have e10 := hb 10 (Rg.nw (by decide))
                simp [Act.eval] at e10
                have e82 := hd ⟨2, .guard⟩ (by simp) rfl _ _ rfl rfl
                exact Rg.does_pure (Rg.wanted_some rfl rfl rfl e82) (by simp [execOp, e10, go_sem]) hS rfl
              · intro a w1 hS hb hd
                have e83 := hd ⟨3, .data⟩ (by simp) rfl _ _ rfl rfl
                have e83 : a.tmps[83]?.getD undef = (.slice A4 n4 c4) := Rg.slot e83
                have e82 := hd ⟨2, .guard⟩ (by simp) rfl _ _ rfl rfl
                exact Rg.does_pure (Rg.wanted_some rfl rfl rfl e82) (by simp [execOp, e83, y1 w1 hS, go_sem]) hS rfl
              · intro a w1 hS hb hd
                have e3 := hb 3 (Rg.nw (by decide))
                simp [Act.eval] at e3
                have e82 := hd ⟨2, .guard⟩ (by simp) rfl _ _ rfl rfl
                exact Rg.does_pure (Rg.wanted_some rfl rfl rfl e82) (by simp [execOp, e3, go_sem]) hS rfl
              · intro a w1 hS hb hd
                have e6 := hb 6 (Rg.nw (by decide))
                simp [Act.eval] at e6
                have e82 := hd ⟨2, .guard⟩ (by simp) rfl _ _ rfl rfl
                exact Rg.does_pure (Rg.wanted_some rfl rfl rfl e82) (by simp [execOp, e6, go_sem]) hS rfl
              · intro a w1 hS hb hd
                have e6 := hb 6 (Rg.nw (by decide))
                simp [Act.eval] at e6
                have e82 := hd ⟨2, .guard⟩ (by simp) rfl _ _ rfl rfl
                exact Rg.does_pure (Rg.wanted_some rfl rfl rfl e82) (by simp [execOp, e6, go_sem]) hS rfl
              · intro a w1 hS hb hd
                have e9 := hb 9 (Rg.nw (by decide))
                simp [Act.eval] at e9
                have e82 := hd ⟨2, .guard⟩ (by simp) rfl _ _ rfl rfl
                exact Rg.does_pure (Rg.wanted_some rfl rfl rfl e82) (by simp [execOp, e9, go_sem]) hS rfl
              · intro a w1 hS hb hd
                have e87 := hd ⟨7, .data⟩ (by simp) rfl _ _ rfl rfl
                have e87 : a.tmps[87]?.getD undef = (.int .i64 (q : Int)) := Rg.slot e87
                have e88 := hd ⟨8, .data⟩ (by simp) rfl _ _ rfl rfl
                have e88 : a.tmps[88]?.getD undef = (.int .i64 (n4 : Int)) := Rg.slot e88
                have e82 := hd ⟨2, .guard⟩ (by simp) rfl _ _ rfl rfl
                exact Rg.does_pure (Rg.wanted_some rfl rfl rfl e82) (by simp [execOp, e87, e88, hadd, go_sem]) hS rfl
              · intro a w1 hS hb hd
                have e85 := hd ⟨5, .data⟩ (by simp) rfl _ _ rfl rfl
                have e85 : a.tmps[85]?.getD undef = (.slice (some ⟨g2, o2, none⟩) L c1) := Rg.slot e85
                have e86 := hd ⟨6, .data⟩ (by simp) rfl _ _ rfl rfl
                have e86 : a.tmps[86]?.getD undef = (.int .i64 (q : Int)) := Rg.slot e86
                have e89 := hd ⟨9, .data⟩ (by simp) rfl _ _ rfl rfl
                have e89 : a.tmps[89]?.getD undef = (.int .i64 (r : Int)) := Rg.slot e89
                have e82 := hd ⟨2, .guard⟩ (by simp) rfl _ _ rfl rfl
                exact Rg.does_pure (Rg.wanted_some rfl rfl rfl e82) (by simp [execOp, e85, e86, e89, hs1', go_sem]) hS rfl
              · intro a w1 hS hb hd
                have e90 := hd ⟨10, .data⟩ (by simp) rfl _ _ rfl rfl
                have e90 : a.tmps[90]?.getD undef = (.slice A5  n4 (c1 - q)) := Rg.slot e90
                have e82 := hd ⟨2, .guard⟩ (by simp) rfl _ _ rfl rfl
                exact Rg.does_pure (Rg.wanted_some rfl rfl rfl e82) (by simp [execOp, e90, y2 w1 hS, go_sem]) hS rfl
              · intro a w1 hS hb hd
                have e84 := hd ⟨4, .data⟩ (by simp) rfl _ _ rfl rfl
                have e84 : a.tmps[84]?.getD undef = (.string s1) := Rg.slot e84
                have e91 := hd ⟨11, .data⟩ (by simp) rfl _ _ rfl rfl
                have e91 : a.tmps[91]?.getD undef = (.string s1) := Rg.slot e91
                have e82 := hd ⟨2, .guard⟩ (by simp) rfl _ _ rfl rfl
                exact Rg.does_pure (Rg.wanted_some rfl rfl rfl e82) (by simp [execOp, e84, e91, go_sem]) hS rfl
              · intro a w1 hS hb hd
                have e82 := hd ⟨2, .data⟩ (by simp) rfl _ _ rfl rfl
                have e82 : a.tmps[82]?.getD undef = (.bool false) := Rg.slot e82
                have e92 := hd ⟨12, .data⟩ (by simp) rfl _ _ rfl rfl
                have e92 : a.tmps[92]?.getD undef = (.bool false) := Rg.slot e92
                exact Rg.does_pure (Rg.wanted_none rfl) (by simp [execOp, e82, e92, go_sem]) hS rfl
              · intro a w1 hS hb hd
                have e93 := hd ⟨13, .data⟩ (by simp) rfl _ _ rfl rfl
                have e93 : a.tmps[93]?.getD undef = (.bool false) := Rg.slot e93
                exact Rg.does_pure (Rg.wanted_none rfl) (by simp [execOp, e93, go_sem]) hS rfl
              · intro a w1 hS hb hd
                have e3 := hb 3 (Rg.nw (by decide))
                simp [Act.eval] at e3
                have e94 := hd ⟨14, .guard⟩ (by simp) rfl _ _ rfl rfl
                exact Rg.does_pure (Rg.wanted_some rfl rfl rfl e94) (by simp [execOp, e3, go_sem]) hS rfl
              · intro a w1 hS hb hd
                have e6 := hb 6 (Rg.nw (by decide))
                simp [Act.eval] at e6
                have e94 := hd ⟨14, .guard⟩ (by simp) rfl _ _ rfl rfl
                exact Rg.does_pure (Rg.wanted_some rfl rfl rfl e94) (by simp [execOp, e6, go_sem]) hS rfl
              · intro a w1 hS hb hd
                have e6 := hb 6 (Rg.nw (by decide))
                simp [Act.eval] at e6
                have e94 := hd ⟨14, .guard⟩ (by simp) rfl _ _ rfl rfl
                exact Rg.does_pure (Rg.wanted_some rfl rfl rfl e94) (by simp [execOp, e6, go_sem]) hS rfl
              · intro a w1 hS hb hd
                have e9 := hb 9 (Rg.nw (by decide))
                simp [Act.eval] at e9
                have e94 := hd ⟨14, .guard⟩ (by simp) rfl _ _ rfl rfl
                exact Rg.does_pure (Rg.wanted_some rfl rfl rfl e94) (by simp [execOp, e9, go_sem]) hS rfl
              · intro a w1 hS hb hd
                have e97 := hd ⟨17, .data⟩ (by simp) rfl _ _ rfl rfl
                have e97 : a.tmps[97]?.getD undef = (.int .i64 (q : Int)) := Rg.slot e97
                have e98 := hd ⟨18, .data⟩ (by simp) rfl _ _ rfl rfl
                have e98 : a.tmps[98]?.getD undef = (.int .i64 (n4 : Int)) := Rg.slot e98
                have e94 := hd ⟨14, .guard⟩ (by simp) rfl _ _ rfl rfl
                exact Rg.does_pure (Rg.wanted_some rfl rfl rfl e94) (by simp [execOp, e97, e98, hadd, go_sem]) hS rfl
              · intro a w1 hS hb hd
                have e95 := hd ⟨15, .data⟩ (by simp) rfl _ _ rfl rfl
                have e95 : a.tmps[95]?.getD undef = (.slice (some ⟨g2, o2, none⟩) L c1) := Rg.slot e95
                have e96 := hd ⟨16, .data⟩ (by simp) rfl _ _ rfl rfl
                have e96 : a.tmps[96]?.getD undef = (.int .i64 (q : Int)) := Rg.slot e96
                have e99 := hd ⟨19, .data⟩ (by simp) rfl _ _ rfl rfl
                have e99 : a.tmps[99]?.getD undef = (.int .i64 (r : Int)) := Rg.slot e99
                have e94 := hd ⟨14, .guard⟩ (by simp) rfl _ _ rfl rfl
                exact Rg.does_pure (Rg.wanted_some rfl rfl rfl e94) (by simp [execOp, e95, e96, e99, hs1', go_sem]) hS rfl
              · intro a w1 hS hb hd
                have e100 := hd ⟨20, .data⟩ (by simp) rfl _ _ rfl rfl
                have e100 : a.tmps[100]?.getD undef = (.slice A5  n4 (c1 - q)) := Rg.slot e100
                have e94 := hd ⟨14, .guard⟩ (by simp) rfl _ _ rfl rfl
                refine Rg.does_call (f := 14) (args := #[.slice A5  n4 (c1 - q)]) (Rg.wanted_some rfl rfl rfl e94) (by simp [e100, go_sem]) ?_
                exact (HW1 w1 hS).mono fun e w' ⟨h1, h2⟩ => ⟨_, h1, rfl, below_then hS h2, h2⟩
              · intro a w1 hS hb hd
                have e9 := hb 9 (Rg.nw (by decide))
                simp [Act.eval] at e9
                have e94 := hd ⟨14, .guard⟩ (by simp) rfl _ _ rfl rfl
                exact Rg.does_pure (Rg.wanted_some rfl rfl rfl e94) (by simp [execOp, e9, go_sem]) hS rfl
              · intro a w1 hS hb hd
                have e101 := hd ⟨21, .data⟩ (by simp) rfl _ _ rfl rfl
                have e101 : a.tmps[101]?.getD undef = (.int .i64 (n4 : Int)) := Rg.slot e101
                have e102 := hd ⟨22, .data⟩ (by simp) rfl _ _ rfl rfl
                have e102 : a.tmps[102]?.getD undef = (.int .i64 (n4 : Int)) := Rg.slot e102
                have e94 := hd ⟨14, .guard⟩ (by simp) rfl _ _ rfl rfl
                exact Rg.does_pure (Rg.wanted_some rfl rfl rfl e94) (by simp [execOp, e101, e102, go_sem]) hS rfl
              · intro a w1 hS hb hd
                have e94 := hd ⟨14, .data⟩ (by simp) rfl _ _ rfl rfl
                have e94 : a.tmps[94]?.getD undef = (.bool false) := Rg.slot e94
                have e103 := hd ⟨23, .data⟩ (by simp) rfl _ _ rfl rfl
                have e103 : a.tmps[103]?.getD undef = (.bool false) := Rg.slot e103
                exact Rg.does_pure (Rg.wanted_none rfl) (by simp [execOp, e94, e103, go_sem]) hS rfl
              · intro a w1 hS hb hd
                have e104 := hd ⟨24, .data⟩ (by simp) rfl _ _ rfl rfl
                have e104 : a.tmps[104]?.getD undef = (.bool false) := Rg.slot e104
                exact Rg.does_pure (Rg.wanted_none rfl) (by simp [execOp, e104, go_sem]) hS rfl
              · intro a w1 hS hb hd
                have e9 := hb 9 (Rg.nw (by decide))
                simp [Act.eval] at e9
                have e105 := hd ⟨25, .guard⟩ (by simp) rfl _ _ rfl rfl
                exact Rg.does_pure (Rg.wanted_some rfl rfl rfl e105) (by simp [execOp, e9, go_sem]) hS rfl
              · intro a w1 hS hb hd
                have e106 := hd ⟨26, .data⟩ (by simp) rfl _ _ rfl rfl
                have e106 : a.tmps[106]?.getD undef = (.int .i64 (n4 : Int)) := Rg.slot e106
                have e105 := hd ⟨25, .guard⟩ (by simp) rfl _ _ rfl rfl
                exact Rg.does_pure (Rg.wanted_some rfl rfl rfl e105) (by simp [execOp, e106, hd2, go_sem]) hS rfl
              · intro a w1 hS hb hd
                have e107 := hd ⟨27, .data⟩ (by simp) rfl _ _ rfl rfl
                have e107 : a.tmps[107]?.getD undef = (.bool false) := Rg.slot e107
                have e105 := hd ⟨25, .guard⟩ (by simp) rfl _ _ rfl rfl
                exact Rg.does_pure (Rg.wanted_some rfl rfl rfl e105) (by simp [execOp, e107, go_sem]) hS rfl
              · intro a w1 hS hb hd
                have e108 := hd ⟨28, .guard⟩ (by simp) rfl _ _ rfl rfl
                exact Or.inr ⟨Rg.unwanted rfl rfl rfl e108, trivial⟩
              · intro a w1 hS hb hd
                have e108 := hd ⟨28, .guard⟩ (by simp) rfl _ _ rfl rfl
                exact Or.inr ⟨Rg.unwanted rfl rfl rfl e108, trivial⟩
              · intro a w1 hS hb hd
                have e108 := hd ⟨28, .guard⟩ (by simp) rfl _ _ rfl rfl
                exact Or.inr ⟨Rg.unwanted rfl rfl rfl e108, trivial⟩
              · intro a w1 hS hb hd
                have e108 := hd ⟨28, .guard⟩ (by simp) rfl _ _ rfl rfl
                exact Or.inr ⟨Rg.unwanted rfl rfl rfl e108, trivial⟩
              · intro a w1 hS hb hd
                have e108 := hd ⟨28, .guard⟩ (by simp) rfl _ _ rfl rfl
                exact Or.inr ⟨Rg.unwanted rfl rfl rfl e108, trivial⟩
              · intro a w1 hS hb hd
                have e108 := hd ⟨28, .guard⟩ (by simp) rfl _ _ rfl rfl
                exact Or.inr ⟨Rg.unwanted rfl rfl rfl e108, trivial⟩
              · intro a w1 hS hb hd
                have e108 := hd ⟨28, .guard⟩ (by simp) rfl _ _ rfl rfl
                exact Or.inr ⟨Rg.unwanted rfl rfl rfl e108, trivial⟩
              · intro a w1 hS hb hd
                have e108 := hd ⟨28, .guard⟩ (by simp) rfl _ _ rfl rfl
                exact Or.inr ⟨Rg.unwanted rfl rfl rfl e108, trivial⟩
              · intro a w1 hS hb hd
                have e108 := hd ⟨28, .guard⟩ (by simp) rfl _ _ rfl rfl
                exact Or.inr ⟨Rg.unwanted rfl rfl rfl e108, trivial⟩
              · intro a w1 hS hb hd
                have e108 := hd ⟨28, .data⟩ (by simp) rfl _ _ rfl rfl
                have e108 : a.tmps[108]?.getD undef = (.bool false) := Rg.slot e108
                have e105 := hd ⟨25, .guard⟩ (by simp) rfl _ _ rfl rfl
                exact Rg.does_pure (Rg.wanted_some rfl rfl rfl e105) (by simp [execOp, e108, go_sem]) hS rfl
              · intro a w1 hS hb hd
                have e105 := hd ⟨25, .data⟩ (by simp) rfl _ _ rfl rfl
                have e105 : a.tmps[105]?.getD undef = (.bool false) := Rg.slot e105
                have e118 := hd ⟨38, .data⟩ (by simp) rfl _ _ rfl rfl
                have e118 : a.tmps[118]?.getD undef = (.bool false) := Rg.slot e118
                exact Rg.does_pure (Rg.wanted_none rfl) (by simp [execOp, e105, e118, go_sem]) hS rfl
              intro v w6 hS6 hF
              have h39 : v 39 = .bool false := hF 39 _ _ rfl rfl
              simp only [Rg.putAll, h39]
              simp only [Act.put, List.setIfInBounds_toArray, List.set_cons_succ, List.set_cons_zero]
              have HB6 := Lib.hid (HB2.out.trans (hS6.mono HB2.out.size))
              clear y1 y2 HW1 HW2 hs1' hs2 hadd hF h39 HAA hS6
              go_wp2_with fail
              go_roundw
              case rel => exact ⟨i + 1, q + n4, by go_num, by omega, by go_num, HQN.out, HB6.out⟩
              case measure => simp [intOf]; omega
            · have HWZ := Lib.hid (HWP.out (n4 - 1) (by have := HUL.out; omega))
              go_wp2_with fail
              obtain ⟨y1, y2, HW1, HW2, hs1', hs2, hadd⟩ := HAA.out
              rw [HWZ.out] at HW2
              have hsub : IntKind.i64.wrap ((r : Int) - 1) = (r2 : Int) := by have := HRR.out; rw [IntWalk.i64_in _ (by omega)]; omega
              have hd2 : decide ((1 : Int) < (n4 : Int)) = true := decide_eq_true (by omega)
              refine Rg.wp_region_inv (fun w' => Below w2.heap.size w2 w') (Rg.Wd.at [.is (.int .i64 0), .is (.bool false), .is (.bool false), .is (.slice A4 n4 c4), .is (.string s1), .is (.slice (some ⟨g2, o2, none⟩) L c1), .is (.int .i64 (q : Int)), .is (.int .i64 (q : Int)), .is (.int .i64 (n4 : Int)), .is (.int .i64 (r : Int)), .is (.slice A5  n4 (c1 - q)), .is (.string s1), .is (.bool false), .is (.bool false), .is (.bool false), .is (.slice (some ⟨g2, o2, none⟩) L c1), .is (.int .i64 (q : Int)), .is (.int .i64 (q : Int)), .is (.int .i64 (n4 : Int)), .is (.int .i64 (r : Int)), .is (.slice A5  n4 (c1 - q)), .is (.int .i64 (n4 : Int)), .is (.int .i64 (n4 : Int)), .is (.bool false), .is (.bool false), .is (.bool false), .is (.int .i64 (n4 : Int)), .is (.bool true), .is (.bool true), .is (.slice (some ⟨g2, o2, none⟩) L c1), .is (.int .i64 (q : Int)), .is (.int .i64 (q : Int)), .is (.int .i64 (n4 : Int)), .is (.int .i64 (r : Int)), .is (.int .i64 (r2 : Int)), .is (.slice A6 (n4 - 1) (c1 - q)), .is (.int .i64 0), .is (.bool false), .is (.bool false), .is (.bool false)]) (by kernel_rfl) (by kernel_rfl) (Rg.Wd.stays _ _) (below_drawn (Below.refl _ w2)) ⟨?_, ?_, ?_, ?_, ?_, ?_, ?_, ?_, ?_, ?_, ?_, ?_, ?_, ?_, ?_, ?_, ?_, ?_, ?_, ?_, ?_, ?_, ?_, ?_, ?_, ?_, ?_, ?_, ?_, ?_, ?_, ?_, ?_, ?_, ?_, ?_, ?_, ?_, ?_, ?_, trivial⟩ ?_
              · intro a w1 hS hb hd
                have e11 := hb 11 (Rg.nw (by decide))
                simp [Act.eval] at e11
                exact Rg.does_pure (Rg.wanted_none rfl) (by simp [execOp, e11, go_sem]) hS rfl
              · intro a w1 hS hb hd
                have e80 := hd ⟨0, .data⟩ (by simp) rfl _ _ rfl rfl
                have e80 : a.tmps[80]?.getD undef = (.int .i64 0) := Rg.slot e80
                exact Rg.does_pure (Rg.wanted_none rfl) (by simp [execOp, e80, go_sem]) hS rfl
              · intro a w1 hS hb hd
                have e81 := hd ⟨1, .data⟩ (by simp) rfl _ _ rfl rfl
                have e81 : a.tmps[81]?.getD undef = (.bool false) := Rg.slot e81
                exact Rg.does_pure (Rg.wanted_none rfl) (by simp [execOp, e81, go_sem]) hS rfl
              · intro a w1 hS hb hd
                have e10 := hb 10 (Rg.nw (by decide))
                simp [Act.eval] at e10
                have e82 := hd ⟨2, .guard⟩ (by simp) rfl _ _ rfl rfl
                exact Rg.does_pure (Rg.wanted_some rfl rfl rfl e82) (by simp [execOp, e10, go_sem]) hS rfl
              · intro a w1 hS hb hd
                have e83 := hd ⟨3, .data⟩ (by simp) rfl _ _ rfl rfl
                have e83 : a.tmps[83]?.getD undef = (.slice A4 n4 c4) := Rg.slot e83
                have e82 := hd ⟨2, .guard⟩ (by simp) rfl _ _ rfl rfl
                exact Rg.does_pure (Rg.wanted_some rfl rfl rfl e82) (by simp [execOp, e83, y1 w1 hS, go_sem]) hS rfl
              · intro a w1 hS hb hd
                have e3 := hb 3 (Rg.nw (by decide))
                simp [Act.eval] at e3
                have e82 := hd ⟨2, .guard⟩ (by simp) rfl _ _ rfl rfl
                exact Rg.does_pure (Rg.wanted_some rfl rfl rfl e82) (by simp [execOp, e3, go_sem]) hS rfl
              · intro a w1 hS hb hd
                have e6 := hb 6 (Rg.nw (by decide))
                simp [Act.eval] at e6
                have e82 := hd ⟨2, .guard⟩ (by simp) rfl _ _ rfl rfl
                exact Rg.does_pure (Rg.wanted_some rfl rfl rfl e82) (by simp [execOp, e6, go_sem]) hS rfl
              · intro a w1 hS hb hd
                have e6 := hb 6 (Rg.nw (by decide))
                simp [Act.eval] at e6
                have e82 := hd ⟨2, .guard⟩ (by simp) rfl _ _ rfl rfl
                exact Rg.does_pure (Rg.wanted_some rfl rfl rfl e82) (by simp [execOp, e6, go_sem]) hS rfl
              · intro a w1 hS hb hd
                have e9 := hb 9 (Rg.nw (by decide))
                simp [Act.eval] at e9
                have e82 := hd ⟨2, .guard⟩ (by simp) rfl _ _ rfl rfl
                exact Rg.does_pure (Rg.wanted_some rfl rfl rfl e82) (by simp [execOp, e9, go_sem]) hS rfl
              · intro a w1 hS hb hd
                have e87 := hd ⟨7, .data⟩ (by simp) rfl _ _ rfl rfl
                have e87 : a.tmps[87]?.getD undef = (.int .i64 (q : Int)) := Rg.slot e87
                have e88 := hd ⟨8, .data⟩ (by simp) rfl _ _ rfl rfl
                have e88 : a.tmps[88]?.getD undef = (.int .i64 (n4 : Int)) := Rg.slot e88
                have e82 := hd ⟨2, .guard⟩ (by simp) rfl _ _ rfl rfl
                exact Rg.does_pure (Rg.wanted_some rfl rfl rfl e82) (by simp [execOp, e87, e88, hadd, go_sem]) hS rfl
              · intro a w1 hS hb hd
                have e85 := hd ⟨5, .data⟩ (by simp) rfl _ _ rfl rfl
                have e85 : a.tmps[85]?.getD undef = (.slice (some ⟨g2, o2, none⟩) L c1) := Rg.slot e85
                have e86 := hd ⟨6, .data⟩ (by simp) rfl _ _ rfl rfl
                have e86 : a.tmps[86]?.getD undef = (.int .i64 (q : Int)) := Rg.slot e86
                have e89 := hd ⟨9, .data⟩ (by simp) rfl _ _ rfl rfl
                have e89 : a.tmps[89]?.getD undef = (.int .i64 (r : Int)) := Rg.slot e89
                have e82 := hd ⟨2, .guard⟩ (by simp) rfl _ _ rfl rfl
                exact Rg.does_pure (Rg.wanted_some rfl rfl rfl e82) (by simp [execOp, e85, e86, e89, hs1', go_sem]) hS rfl
              · intro a w1 hS hb hd
                have e90 := hd ⟨10, .data⟩ (by simp) rfl _ _ rfl rfl
                have e90 : a.tmps[90]?.getD undef = (.slice A5  n4 (c1 - q)) := Rg.slot e90
                have e82 := hd ⟨2, .guard⟩ (by simp) rfl _ _ rfl rfl
                exact Rg.does_pure (Rg.wanted_some rfl rfl rfl e82) (by simp [execOp, e90, y2 w1 hS, go_sem]) hS rfl
              · intro a w1 hS hb hd
                have e84 := hd ⟨4, .data⟩ (by simp) rfl _ _ rfl rfl
                have e84 : a.tmps[84]?.getD undef = (.string s1) := Rg.slot e84
                have e91 := hd ⟨11, .data⟩ (by simp) rfl _ _ rfl rfl
                have e91 : a.tmps[91]?.getD undef = (.string s1) := Rg.slot e91
                have e82 := hd ⟨2, .guard⟩ (by simp) rfl _ _ rfl rfl
                exact Rg.does_pure (Rg.wanted_some rfl rfl rfl e82) (by simp [execOp, e84, e91, go_sem]) hS rfl
              · intro a w1 hS hb hd
                have e82 := hd ⟨2, .data⟩ (by simp) rfl _ _ rfl rfl
                have e82 : a.tmps[82]?.getD undef = (.bool false) := Rg.slot e82
                have e92 := hd ⟨12, .data⟩ (by simp) rfl _ _ rfl rfl
                have e92 : a.tmps[92]?.getD undef = (.bool false) := Rg.slot e92
                exact Rg.does_pure (Rg.wanted_none rfl) (by simp [execOp, e82, e92, go_sem]) hS rfl
              · intro a w1 hS hb hd
                have e93 := hd ⟨13, .data⟩ (by simp) rfl _ _ rfl rfl
                have e93 : a.tmps[93]?.getD undef = (.bool false) := Rg.slot e93
                exact Rg.does_pure (Rg.wanted_none rfl) (by simp [execOp, e93, go_sem]) hS rfl
              · intro a w1 hS hb hd
                have e3 := hb 3 (Rg.nw (by decide))
                simp [Act.eval] at e3
                have e94 := hd ⟨14, .guard⟩ (by simp) rfl _ _ rfl rfl
                exact Rg.does_pure (Rg.wanted_some rfl rfl rfl e94) (by simp [execOp, e3, go_sem]) hS rfl
              · intro a w1 hS hb hd
                have e6 := hb 6 (Rg.nw (by decide))
                simp [Act.eval] at e6
                have e94 := hd ⟨14, .guard⟩ (by simp) rfl _ _ rfl rfl
                exact Rg.does_pure (Rg.wanted_some rfl rfl rfl e94) (by simp [execOp, e6, go_sem]) hS rfl
              · intro a w1 hS hb hd
                have e6 := hb 6 (Rg.nw (by decide))
                simp [Act.eval] at e6
                have e94 := hd ⟨14, .guard⟩ (by simp) rfl _ _ rfl rfl
                exact Rg.does_pure (Rg.wanted_some rfl rfl rfl e94) (by simp [execOp, e6, go_sem]) hS rfl
              · intro a w1 hS hb hd
                have e9 := hb 9 (Rg.nw (by decide))
                simp [Act.eval] at e9
                have e94 := hd ⟨14, .guard⟩ (by simp) rfl _ _ rfl rfl
                exact Rg.does_pure (Rg.wanted_some rfl rfl rfl e94) (by simp [execOp, e9, go_sem]) hS rfl
              · intro a w1 hS hb hd
                have e97 := hd ⟨17, .data⟩ (by simp) rfl _ _ rfl rfl
                have e97 : a.tmps[97]?.getD undef = (.int .i64 (q : Int)) := Rg.slot e97
                have e98 := hd ⟨18, .data⟩ (by simp) rfl _ _ rfl rfl
                have e98 : a.tmps[98]?.getD undef = (.int .i64 (n4 : Int)) := Rg.slot e98
                have e94 := hd ⟨14, .guard⟩ (by simp) rfl _ _ rfl rfl
                exact Rg.does_pure (Rg.wanted_some rfl rfl rfl e94) (by simp [execOp, e97, e98, hadd, go_sem]) hS rfl
              · intro a w1 hS hb hd
                have e95 := hd ⟨15, .data⟩ (by simp) rfl _ _ rfl rfl
                have e95 : a.tmps[95]?.getD undef = (.slice (some ⟨g2, o2, none⟩) L c1) := Rg.slot e95
                have e96 := hd ⟨16, .data⟩ (by simp) rfl _ _ rfl rfl
                have e96 : a.tmps[96]?.getD undef = (.int .i64 (q : Int)) := Rg.slot e96
                have e99 := hd ⟨19, .data⟩ (by simp) rfl _ _ rfl rfl
                have e99 : a.tmps[99]?.getD undef = (.int .i64 (r : Int)) := Rg.slot e99
                have e94 := hd ⟨14, .guard⟩ (by simp) rfl _ _ rfl rfl
                exact Rg.does_pure (Rg.wanted_some rfl rfl rfl e94) (by simp [execOp, e95, e96, e99, hs1', go_sem]) hS rfl
              · intro a w1 hS hb hd
                have e100 := hd ⟨20, .data⟩ (by simp) rfl _ _ rfl rfl
                have e100 : a.tmps[100]?.getD undef = (.slice A5  n4 (c1 - q)) := Rg.slot e100
                have e94 := hd ⟨14, .guard⟩ (by simp) rfl _ _ rfl rfl
                refine Rg.does_call (f := 14) (args := #[.slice A5  n4 (c1 - q)]) (Rg.wanted_some rfl rfl rfl e94) (by simp [e100, go_sem]) ?_
                exact (HW1 w1 hS).mono fun e w' ⟨h1, h2⟩ => ⟨_, h1, rfl, below_then hS h2, h2⟩
              · intro a w1 hS hb hd
                have e9 := hb 9 (Rg.nw (by decide))
                simp [Act.eval] at e9
                have e94 := hd ⟨14, .guard⟩ (by simp) rfl _ _ rfl rfl
                exact Rg.does_pure (Rg.wanted_some rfl rfl rfl e94) (by simp [execOp, e9, go_sem]) hS rfl
              · intro a w1 hS hb hd
                have e101 := hd ⟨21, .data⟩ (by simp) rfl _ _ rfl rfl
                have e101 : a.tmps[101]?.getD undef = (.int .i64 (n4 : Int)) := Rg.slot e101
                have e102 := hd ⟨22, .data⟩ (by simp) rfl _ _ rfl rfl
                have e102 : a.tmps[102]?.getD undef = (.int .i64 (n4 : Int)) := Rg.slot e102
                have e94 := hd ⟨14, .guard⟩ (by simp) rfl _ _ rfl rfl
                exact Rg.does_pure (Rg.wanted_some rfl rfl rfl e94) (by simp [execOp, e101, e102, go_sem]) hS rfl
              · intro a w1 hS hb hd
                have e94 := hd ⟨14, .data⟩ (by simp) rfl _ _ rfl rfl
                have e94 : a.tmps[94]?.getD undef = (.bool false) := Rg.slot e94
                have e103 := hd ⟨23, .data⟩ (by simp) rfl _ _ rfl rfl
                have e103 : a.tmps[103]?.getD undef = (.bool false) := Rg.slot e103
                exact Rg.does_pure (Rg.wanted_none rfl) (by simp [execOp, e94, e103, go_sem]) hS rfl
              · intro a w1 hS hb hd
                have e104 := hd ⟨24, .data⟩ (by simp) rfl _ _ rfl rfl
                have e104 : a.tmps[104]?.getD undef = (.bool false) := Rg.slot e104
                exact Rg.does_pure (Rg.wanted_none rfl) (by simp [execOp, e104, go_sem]) hS rfl
              · intro a w1 hS hb hd
                have e9 := hb 9 (Rg.nw (by decide))
                simp [Act.eval] at e9
                have e105 := hd ⟨25, .guard⟩ (by simp) rfl _ _ rfl rfl
                exact Rg.does_pure (Rg.wanted_some rfl rfl rfl e105) (by simp [execOp, e9, go_sem]) hS rfl
              · intro a w1 hS hb hd
                have e106 := hd ⟨26, .data⟩ (by simp) rfl _ _ rfl rfl
                have e106 : a.tmps[106]?.getD undef = (.int .i64 (n4 : Int)) := Rg.slot e106
                have e105 := hd ⟨25, .guard⟩ (by simp) rfl _ _ rfl rfl
                exact Rg.does_pure (Rg.wanted_some rfl rfl rfl e105) (by simp [execOp, e106, hd2, go_sem]) hS rfl
              · intro a w1 hS hb hd
                have e107 := hd ⟨27, .data⟩ (by simp) rfl _ _ rfl rfl
                have e107 : a.tmps[107]?.getD undef = (.bool true) := Rg.slot e107
                have e105 := hd ⟨25, .guard⟩ (by simp) rfl _ _ rfl rfl
                exact Rg.does_pure (Rg.wanted_some rfl rfl rfl e105) (by simp [execOp, e107, go_sem]) hS rfl
              · intro a w1 hS hb hd
                have e3 := hb 3 (Rg.nw (by decide))
                simp [Act.eval] at e3
                have e108 := hd ⟨28, .guard⟩ (by simp) rfl _ _ rfl rfl
                exact Rg.does_pure (Rg.wanted_some rfl rfl rfl e108) (by simp [execOp, e3, go_sem]) hS rfl
              · intro a w1 hS hb hd
                have e6 := hb 6 (Rg.nw (by decide))
                simp [Act.eval] at e6
                have e108 := hd ⟨28, .guard⟩ (by simp) rfl _ _ rfl rfl
                exact Rg.does_pure (Rg.wanted_some rfl rfl rfl e108) (by simp [execOp, e6, go_sem]) hS rfl
              · intro a w1 hS hb hd
                have e6 := hb 6 (Rg.nw (by decide))
                simp [Act.eval] at e6
                have e108 := hd ⟨28, .guard⟩ (by simp) rfl _ _ rfl rfl
                exact Rg.does_pure (Rg.wanted_some rfl rfl rfl e108) (by simp [execOp, e6, go_sem]) hS rfl
              · intro a w1 hS hb hd
                have e9 := hb 9 (Rg.nw (by decide))
                simp [Act.eval] at e9
                have e108 := hd ⟨28, .guard⟩ (by simp) rfl _ _ rfl rfl
                exact Rg.does_pure (Rg.wanted_some rfl rfl rfl e108) (by simp [execOp, e9, go_sem]) hS rfl
              · intro a w1 hS hb hd
                have e111 := hd ⟨31, .data⟩ (by simp) rfl _ _ rfl rfl
                have e111 : a.tmps[111]?.getD undef = (.int .i64 (q : Int)) := Rg.slot e111
                have e112 := hd ⟨32, .data⟩ (by simp) rfl _ _ rfl rfl
                have e112 : a.tmps[112]?.getD undef = (.int .i64 (n4 : Int)) := Rg.slot e112
                have e108 := hd ⟨28, .guard⟩ (by simp) rfl _ _ rfl rfl
                exact Rg.does_pure (Rg.wanted_some rfl rfl rfl e108) (by simp [execOp, e111, e112, hadd, go_sem]) hS rfl
              · intro a w1 hS hb hd
                have e113 := hd ⟨33, .data⟩ (by simp) rfl _ _ rfl rfl
                have e113 : a.tmps[113]?.getD undef = (.int .i64 (r : Int)) := Rg.slot e113
                have e108 := hd ⟨28, .guard⟩ (by simp) rfl _ _ rfl rfl
                exact Rg.does_pure (Rg.wanted_some rfl rfl rfl e108) (by simp [execOp, e113, hsub, go_sem]) hS rfl
              · intro a w1 hS hb hd
                have e109 := hd ⟨29, .data⟩ (by simp) rfl _ _ rfl rfl
                have e109 : a.tmps[109]?.getD undef = (.slice (some ⟨g2, o2, none⟩) L c1) := Rg.slot e109
                have e110 := hd ⟨30, .data⟩ (by simp) rfl _ _ rfl rfl
                have e110 : a.tmps[110]?.getD undef = (.int .i64 (q : Int)) := Rg.slot e110
                have e114 := hd ⟨34, .data⟩ (by simp) rfl _ _ rfl rfl
                have e114 : a.tmps[114]?.getD undef = (.int .i64 (r2 : Int)) := Rg.slot e114
                have e108 := hd ⟨28, .guard⟩ (by simp) rfl _ _ rfl rfl
                exact Rg.does_pure (Rg.wanted_some rfl rfl rfl e108) (by simp [execOp, e109, e110, e114, hs2, go_sem]) hS rfl
              · intro a w1 hS hb hd
                have e115 := hd ⟨35, .data⟩ (by simp) rfl _ _ rfl rfl
                have e115 : a.tmps[115]?.getD undef = (.slice A6 (n4 - 1) (c1 - q)) := Rg.slot e115
                have e108 := hd ⟨28, .guard⟩ (by simp) rfl _ _ rfl rfl
                refine Rg.does_call (f := 14) (args := #[.slice A6 (n4 - 1) (c1 - q)]) (Rg.wanted_some rfl rfl rfl e108) (by simp [e115, go_sem]) ?_
                exact (HW2 w1 hS).mono fun e w' ⟨h1, h2⟩ => ⟨_, h1, rfl, below_then hS h2, h2⟩
              · intro a w1 hS hb hd
                have e116 := hd ⟨36, .data⟩ (by simp) rfl _ _ rfl rfl
                have e116 : a.tmps[116]?.getD undef = (.int .i64 0) := Rg.slot e116
                have e108 := hd ⟨28, .guard⟩ (by simp) rfl _ _ rfl rfl
                exact Rg.does_pure (Rg.wanted_some rfl rfl rfl e108) (by simp [execOp, e116, go_sem]) hS rfl
              · intro a w1 hS hb hd
                have e108 := hd ⟨28, .data⟩ (by simp) rfl _ _ rfl rfl
                have e108 : a.tmps[108]?.getD undef = (.bool true) := Rg.slot e108
                have e117 := hd ⟨37, .data⟩ (by simp) rfl _ _ rfl rfl
                have e117 : a.tmps[117]?.getD undef = (.bool false) := Rg.slot e117
                have e105 := hd ⟨25, .guard⟩ (by simp) rfl _ _ rfl rfl
                exact Rg.does_pure (Rg.wanted_some rfl rfl rfl e105) (by simp [execOp, e108, e117, go_sem]) hS rfl
              · intro a w1 hS hb hd
                have e105 := hd ⟨25, .data⟩ (by simp) rfl _ _ rfl rfl
                have e105 : a.tmps[105]?.getD undef = (.bool false) := Rg.slot e105
                have e118 := hd ⟨38, .data⟩ (by simp) rfl _ _ rfl rfl
                have e118 : a.tmps[118]?.getD undef = (.bool false) := Rg.slot e118
                exact Rg.does_pure (Rg.wanted_none rfl) (by simp [execOp, e105, e118, go_sem]) hS rfl
              intro v w6 hS6 hF
              have h39 : v 39 = .bool false := hF 39 _ _ rfl rfl
              simp only [Rg.putAll, h39]
              simp only [Act.put, List.setIfInBounds_toArray, List.set_cons_succ, List.set_cons_zero]
              have HB6 := Lib.hid (HB2.out.trans (hS6.mono HB2.out.size))
              clear y1 y2 HW1 HW2 hs1' hs2 hadd hF h39 HAA hS6
              go_wp2_with fail
              go_roundw
              case rel => exact ⟨i + 1, q + n4, by go_num, by omega, by go_num, HQN.out, HB6.out⟩
              case measure => simp [intOf]; omega
          · have hik : i = k := by omega
            have HQL := Lib.hid (show q = L by
              rw [HQ.out, hik, List.take_of_length_le (by rw [HL.out]; exact Nat.le_refl _), HLL.out])
            have hql := HQL.out
            subst hql
            clear hik
            go_wp2_with fail
            refine (wakes_any wr (HT.out.then_ HB0R.out)).mono ?_
            rintro e w3 ⟨rfl, hb3⟩
            have HB03 := Lib.hid (HB0R.out.trans (hb3.mono HB0R.out.size))
            clear hb3
            go_wp2_with fail
            go_ret
            exact ⟨rfl, HB03.out⟩
  · rw [(Pl.enc_no hall).2]
    clear hall hO1 hb1
    go_wp2_with fail
    refine (wakes_any w1 (HT.out.then_ HB1.out)).mono ?_
    rintro e w3 ⟨rfl, hb3⟩
    have HB03 := Lib.hid (HB1.out.trans (hb3.mono HB1.out.size))
    clear hb3
    go_wp2_with fail
    go_ret
    exact ⟨rfl, HB03.out⟩
end Go.Proofs.YtillndchojaniaaDoor.utfSizes
