/-
  The walk of copybooklaw04.UtfOrder: it returns true for every two texts; nothing that was there turned. Condition: the tables stand.
-/
import Derived.Test.YtillndchojaniaaDoorUtfN
namespace Go.Proofs.YtillndchojaniaaDoor.utfOrder
open Go.RowKit

/-- the loop: the first j are the same -/
def LRel (w : World) (n m : Nat) (xs ys : List Int) (d i : Value) (wr : World) : Prop :=
  ∃ j : Nat, i = .int .i64 (j : Int) ∧ j ≤ n ∧ j ≤ m ∧ d = .bool (decide (n < m)) ∧ Below w.heap.size w wr ∧ ∀ t, t < j → xs.getD t 0 = ys.getD t 0

set_option maxRecDepth 100000 in
set_option maxHeartbeats 4000000 in
theorem walk (w : World) (hT : Tab w) (A : Option Addr) (n c : Nat) (cs : List Int) (hA : Crs w w.heap.size A n c cs) (hr : n * 4 ≤ 140737488351232) (B : Option Addr) (m d : Nat) (ds : List Int) (hB : Crs w w.heap.size B m d ds) (hs : m * 4 ≤ 140737488351232) :
    Calls Tryd.prog 5 #[.slice A n c, .slice B m d] w fun e w' => e = .returned (.bool true) ∧ Below w.heap.size w w' := by
  have HA := Lib.hid hA
  have HB := Lib.hid hB
  have HT := Lib.hid hT
  have HR := Lib.hid (And.intro hr hs)
  have HL1 := Lib.hid hA.len
  have HL2 := Lib.hid hB.len
  have hn45 : n ≤ 35184372087808 := by omega
  have hm45 : m ≤ 35184372087808 := by omega
  clear hA hB hT hr hs
  go_enter Tryd.func5, Tryd.ntmps5
  go_wp2_with fail
  refine (fit_any A n c cs w HA.out HR.out.1).mono ?_
  rintro e w1 ⟨A1, c1, rfl, hO1, hb1⟩
  have HB1 := Lib.hid hb1
  have HO1 := Lib.hid hO1
  clear hO1 hb1
  go_wp2_with fail
  refine (fit_any B m d ds w1 (HB.out.then_ HB1.out) HR.out.2).mono ?_
  rintro e w2 ⟨A2, c2, rfl, hO2, hb2⟩
  have HB2 := Lib.hid (HB1.out.trans (hb2.mono HB1.out.size))
  have HO2 := Lib.hid hO2
  have HX1 := Lib.hid (HO1.out.crs.2.then_ hb2)
  have HX2 := Lib.hid hO2.crs.2
  have HM1 := Lib.hid (Pl.fit_may cs)
  have HM2 := Lib.hid (Pl.fit_may ds)
  obtain ⟨xs, hxs⟩ : ∃ xs, xs = Pl.fit cs := ⟨_, rfl⟩
  obtain ⟨ys, hys⟩ : ∃ ys, ys = Pl.fit ds := ⟨_, rfl⟩
  rw [← hxs] at HX1 HM1
  rw [← hys] at HX2 HM2
  clear hO2 hb2 hxs hys
  go_wp2_with fail
  refine (enc_any A1 n c1 xs w2 (HT.out.then_ HB2.out) HX1.out HR.out.1).mono ?_
  rintro e w3 ⟨A3, n3, c3, rfl, hO3, hb3⟩
  rw [(Pl.enc_yes HM1.out).2]
  rw [(Pl.enc_yes HM1.out).1] at hO3
  have HB3 := Lib.hid (HB2.out.trans (hb3.mono HB2.out.size))
  have HX13 := Lib.hid (HX1.out.then_ hb3)
  have HX23 := Lib.hid (HX2.out.then_ hb3)
  have HO3 := Lib.hid hO3
  clear hO3 hb3
  go_wp2_with fail
  refine (enc_any A2 m c2 ys w3 (HT.out.then_ HB3.out) HX23.out HR.out.2).mono ?_
  rintro e w4 ⟨A4, n4, c4, rfl, hO4, hb4⟩
  rw [(Pl.enc_yes HM2.out).2]
  rw [(Pl.enc_yes HM2.out).1] at hO4
  have HB4 := Lib.hid (HB3.out.trans (hb4.mono HB3.out.size))
  have HX14 := Lib.hid (HX13.out.then_ hb4)
  have HX24 := Lib.hid (HX23.out.then_ hb4)
  have HS3 := Lib.hid (HO3.out.bys.2.then_ hb4)
  have HS4 := Lib.hid hO4.bys.2
  obtain ⟨s1, hs1⟩ : ∃ s, s = strOfNums (ints (Pl.encs xs)) := ⟨_, rfl⟩
  obtain ⟨s2, hs2⟩ : ∃ s, s = strOfNums (ints (Pl.encs ys)) := ⟨_, rfl⟩
  obtain ⟨ee, hee⟩ : ∃ ee, ee = decide (Pl.encs xs = Pl.encs ys) := ⟨_, rfl⟩
  have HEE := Lib.hid (show decide (xs = ys) = ee by
    rw [hee, Bool.eq_iff_iff, decide_eq_true_iff, decide_eq_true_iff]; exact (Pl.encs_inj HM1.out HM2.out).symm)
  have HFIN := Lib.hid (show ∀ wr : World, Below w4.heap.size w4 wr →
      (∀ w', Below wr.heap.size wr w' → (convert 23 9 (.slice A3 n3 c3)).run Tryd.prog w' = .ok (.string s1) w') ∧
      (∀ w', Below wr.heap.size wr w' → (convert 23 9 (.slice A4 n4 c4)).run Tryd.prog w' = .ok (.string s2) w') ∧
      (∀ w', Below wr.heap.size wr w' → Calls Tryd.prog 13 #[.slice A1 n c1, .slice A2 m c2] w' fun e w'' => e = .returned (.bool ee) ∧ Below w'.heap.size w' w'') ∧
      (∀ w', Below wr.heap.size wr w' → Calls Tryd.prog 20 #[] w' fun e w'' => e = .returned (.bool true) ∧ Below w'.heap.size w' w'') ∧
      (s1.toList == s2.toList) = ee ∧ Op.bytesLess s1.toList s2.toList = Pl.lessC xs ys from fun wr hb => by
    refine ⟨fun w' hk => ?_, fun w' hk => ?_, fun w' hk => ?_, fun w' hk => ?_, ?_, ?_⟩
    · rw [hs1]; exact ((HS3.out.then_ hb).then_ hk).conv
    · rw [hs2]; exact ((HS4.out.then_ hb).then_ hk).conv
    · have h1 := same_any A1 A2 n c1 m c2 xs ys w' ((HX14.out.then_ hb).then_ hk) ((HX24.out.then_ hb).then_ hk)
      rw [HEE.out] at h1
      exact h1
    · exact wakes_any w' (((HT.out.then_ HB4.out).then_ hb).then_ hk)
    · rw [hs1, hs2, hee]; exact str_beq (Pl.oct_encs HM1.out) (Pl.oct_encs HM2.out)
    · rw [hs1, hs2]; exact str_less HM1.out HM2.out)
  have hc1 : n ≤ c1 ∧ c1 ≤ 9223372036854775807 := by
    have h1 := HX14.out.le
    have h2 := HX14.out.cap
    unfold maxLen at h2
    omega
  have hc2 : m ≤ c2 ∧ c2 ≤ 9223372036854775807 := by
    have h1 := HX24.out.le
    have h2 := HX24.out.cap
    unfold maxLen at h2
    omega
  obtain ⟨hc11, hc12⟩ := hc1
  obtain ⟨hc21, hc22⟩ := hc2
  have HLX := Lib.hid HX14.out.len
  have HLY := Lib.hid HX24.out.len
  clear hO4 hb4 hs1 hs2 hee
  go_wp2_with fail
  go_loopw [10, 11] (fun dv i wr => LRel w4 n m xs ys dv i wr) (fun _ i _ => n - (intOf i).toNat)
  case atStart => exact ⟨0, rfl, Nat.zero_le _, Nat.zero_le _, by first | rfl | simp, Below.refl _ _, fun t ht => by omega⟩
  case round =>
    obtain ⟨j, rfl, hj1, hj2, rfl, hb, heq⟩ := hrel
    have HBR := Lib.hid hb
    have HEQ := Lib.hid heq
    clear hb heq
    obtain ⟨dl, hdl⟩ : ∃ dl, dl = decide (n < m) := ⟨_, rfl⟩
    have HDL := Lib.hid hdl
    rw [← hdl]
    clear hdl
    by_cases hlt : j < n ∧ j < m
    · obtain ⟨hlt1, hlt2⟩ := hlt
      obtain ⟨g1, o1, rfl, hg1, k1⟩ := (HX14.out.then_ HBR.out).at_ hlt1
      obtain ⟨g2, o2, rfl, hg2, k2⟩ := (HX24.out.then_ HBR.out).at_ hlt2
      have a1 := k1 j hlt1
      have a2 := k2 j hlt2
      have HNX := Lib.hid (show xs.getD j 0 = ys.getD j 0 → ∀ t, t < j + 1 → xs.getD t 0 = ys.getD t 0 from fun h t ht => by
        rcases Nat.lt_or_ge t j with h1 | h1
        · exact HEQ.out t h1
        · obtain rfl : t = j := by omega
          exact h)
      have HNE := Lib.hid (fun h => Pl.lessC_at j xs ys HEQ.out (by rw [HLX.out]; exact hlt1) (by rw [HLY.out]; exact hlt2) h)
      clear k1 k2
      obtain ⟨x, hx⟩ : ∃ x, x = xs.getD j 0 := ⟨_, rfl⟩
      obtain ⟨y, hy⟩ : ∃ y, y = ys.getD j 0 := ⟨_, rfl⟩
      rw [← hx] at a1 HNX HNE
      rw [← hy] at a2 HNX HNE
      clear hx hy
      have z0 : (0 : Int) ≤ (j : Int) := by omega
      have z1 : (j : Int) < (n : Int) := by omega
      have z2 : (j : Int) < (m : Int) := by omega
      by_cases hxy : x = y
      · subst hxy
        have HN2 := Lib.hid (HNX.out rfl)
        go_wp2_with fail
        go_region_held3 (fun w' => w'.cell? ⟨g1, o1 + j, none⟩ = some (.int .i32 x) ∧ w'.cell? ⟨g2, o2 + j, none⟩ = some (.int .i32 x)) (go_keep) (fail)
        go_wp2_with fail
        go_roundw
        case rel => exact ⟨j + 1, by go_num, by omega, by omega, by rw [HDL.out], below_drawn HBR.out, HN2.out⟩
        case measure => simp [intOf]; omega
      · have hbne : (x != y) = true := by rw [bne_iff_ne]; exact hxy
        obtain ⟨d, hd⟩ : ∃ d, d = decide (x < y) := ⟨_, rfl⟩
        have HD := Lib.hid (show ∀ b : Bool, b = Pl.lessC xs ys → b = d from fun b h => by rw [h, HNE.out hxy, hd])
        have hdx : decide (x < y) = d := hd.symm
        clear hxy hd
        go_wp2_with fail
        go_region_held3 (fun w' => w'.cell? ⟨g1, o1 + j, none⟩ = some (.int .i32 x) ∧ w'.cell? ⟨g2, o2 + j, none⟩ = some (.int .i32 y)) (go_keep) (fail)
        go_wp2_with fail
        have a1' : wr.drew.cell? ⟨g1, o1 + j, none⟩ = some (.int .i32 x) := a1
        have a2' : wr.drew.cell? ⟨g2, o2 + j, none⟩ = some (.int .i32 y) := a2
        have HBR1 := Lib.hid (below_drawn HBR.out)
        generalize wr.drew = wd at *
        go_region_held3 (fun w' => w'.cell? ⟨g1, o1 + j, none⟩ = some (.int .i32 x) ∧ w'.cell? ⟨g2, o2 + j, none⟩ = some (.int .i32 y)) (go_keep) (fail)
        go_wp2_with fail
        have HBR2 := Lib.hid (below_drawn HBR1.out)
        generalize wd.drew = wr at *
        have HBR := HBR2
        have HBF := Lib.hid (HB4.out.trans (HBR.out.mono HB4.out.size))
        obtain ⟨y1, y2, HSM0, HWK0, hst, hlt0⟩ := HFIN.out wr HBR.out
        have hlt : Op.bytesLess s1.toList s2.toList = d := HD.out _ hlt0
        have HALL := Lib.hid (And.intro y1 (And.intro y2 (And.intro HSM0 (And.intro HWK0 (And.intro hst hlt)))))
        clear y1 y2 HSM0 HWK0 hst hlt0 hlt
        go_wp2_with fail
        obtain ⟨y1, y2, HSM, HWK, hst, hlt⟩ := HALL.out
        refine Rg.wp_region_inv (fun w' => Below wr.heap.size wr w') (Rg.Wd.at [.is (.slice A3 n3 c3), .is (.string s1), .is (.slice A4 n4 c4), .is (.string s2), .is (.bool d), .is (.bool d), .is (.bool true), .is (.bool true), .is (.slice A3 n3 c3), .is (.string s1), .is (.slice A4 n4 c4), .is (.string s2), .is (.bool ee), .is (.slice (some ⟨g1, o1, none⟩) n c1), .is (.slice (some ⟨g2, o2, none⟩) m c2), .is (.bool ee), .is (.bool true), .is (.bool true), .is (.bool true), .is (.bool true), .is (.bool true), .is (.bool true)]) (by kernel_rfl) (by kernel_rfl) (Rg.Wd.stays _ _) (below_drawn (Below.refl _ wr)) ⟨?_, ?_, ?_, ?_, ?_, ?_, ?_, ?_, ?_, ?_, ?_, ?_, ?_, ?_, ?_, ?_, ?_, ?_, ?_, ?_, ?_, ?_, trivial⟩ ?_
        · intro a w1 hS hb hd
          have e6 := hb 6 (Rg.nw (by decide))
          simp [Act.eval] at e6
          exact Rg.does_pure (Rg.wanted_none rfl) (by simp [execOp, e6, go_sem]) hS rfl
        · intro a w1 hS hb hd
          have e69 := hd ⟨0, .data⟩ (by simp) rfl _ _ rfl rfl
          have e69 : a.tmps[69]?.getD undef = (.slice A3 n3 c3) := Rg.slot e69
          exact Rg.does_pure (Rg.wanted_none rfl) (by simp [execOp, e69, y1 w1 hS, go_sem]) hS rfl
        · intro a w1 hS hb hd
          have e8 := hb 8 (Rg.nw (by decide))
          simp [Act.eval] at e8
          exact Rg.does_pure (Rg.wanted_none rfl) (by simp [execOp, e8, go_sem]) hS rfl
        · intro a w1 hS hb hd
          have e71 := hd ⟨2, .data⟩ (by simp) rfl _ _ rfl rfl
          have e71 : a.tmps[71]?.getD undef = (.slice A4 n4 c4) := Rg.slot e71
          exact Rg.does_pure (Rg.wanted_none rfl) (by simp [execOp, e71, y2 w1 hS, go_sem]) hS rfl
        · intro a w1 hS hb hd
          have e70 := hd ⟨1, .data⟩ (by simp) rfl _ _ rfl rfl
          have e70 : a.tmps[70]?.getD undef = (.string s1) := Rg.slot e70
          have e72 := hd ⟨3, .data⟩ (by simp) rfl _ _ rfl rfl
          have e72 : a.tmps[72]?.getD undef = (.string s2) := Rg.slot e72
          exact Rg.does_pure (Rg.wanted_none rfl) (by simp [execOp, e70, e72, hlt, go_sem]) hS rfl
        · intro a w1 hS hb hd
          have e10 := hb 10 (Rg.nw (by decide))
          simp [Act.eval] at e10
          exact Rg.does_pure (Rg.wanted_none rfl) (by simp [execOp, e10, go_sem]) hS rfl
        · intro a w1 hS hb hd
          have e73 := hd ⟨4, .data⟩ (by simp) rfl _ _ rfl rfl
          have e73 : a.tmps[73]?.getD undef = (.bool d) := Rg.slot e73
          have e74 := hd ⟨5, .data⟩ (by simp) rfl _ _ rfl rfl
          have e74 : a.tmps[74]?.getD undef = (.bool d) := Rg.slot e74
          exact Rg.does_pure (Rg.wanted_none rfl) (by simp [execOp, e73, e74, go_sem]) hS rfl
        · intro a w1 hS hb hd
          have e75 := hd ⟨6, .data⟩ (by simp) rfl _ _ rfl rfl
          have e75 : a.tmps[75]?.getD undef = (.bool true) := Rg.slot e75
          exact Rg.does_pure (Rg.wanted_none rfl) (by simp [execOp, e75, go_sem]) hS rfl
        · intro a w1 hS hb hd
          have e6 := hb 6 (Rg.nw (by decide))
          simp [Act.eval] at e6
          have e76 := hd ⟨7, .guard⟩ (by simp) rfl _ _ rfl rfl
          exact Rg.does_pure (Rg.wanted_some rfl rfl rfl e76) (by simp [execOp, e6, go_sem]) hS rfl
        · intro a w1 hS hb hd
          have e77 := hd ⟨8, .data⟩ (by simp) rfl _ _ rfl rfl
          have e77 : a.tmps[77]?.getD undef = (.slice A3 n3 c3) := Rg.slot e77
          have e76 := hd ⟨7, .guard⟩ (by simp) rfl _ _ rfl rfl
          exact Rg.does_pure (Rg.wanted_some rfl rfl rfl e76) (by simp [execOp, e77, y1 w1 hS, go_sem]) hS rfl
        · intro a w1 hS hb hd
          have e8 := hb 8 (Rg.nw (by decide))
          simp [Act.eval] at e8
          have e76 := hd ⟨7, .guard⟩ (by simp) rfl _ _ rfl rfl
          exact Rg.does_pure (Rg.wanted_some rfl rfl rfl e76) (by simp [execOp, e8, go_sem]) hS rfl
        · intro a w1 hS hb hd
          have e79 := hd ⟨10, .data⟩ (by simp) rfl _ _ rfl rfl
          have e79 : a.tmps[79]?.getD undef = (.slice A4 n4 c4) := Rg.slot e79
          have e76 := hd ⟨7, .guard⟩ (by simp) rfl _ _ rfl rfl
          exact Rg.does_pure (Rg.wanted_some rfl rfl rfl e76) (by simp [execOp, e79, y2 w1 hS, go_sem]) hS rfl
        · intro a w1 hS hb hd
          have e78 := hd ⟨9, .data⟩ (by simp) rfl _ _ rfl rfl
          have e78 : a.tmps[78]?.getD undef = (.string s1) := Rg.slot e78
          have e80 := hd ⟨11, .data⟩ (by simp) rfl _ _ rfl rfl
          have e80 : a.tmps[80]?.getD undef = (.string s2) := Rg.slot e80
          have e76 := hd ⟨7, .guard⟩ (by simp) rfl _ _ rfl rfl
          exact Rg.does_pure (Rg.wanted_some rfl rfl rfl e76) (by simp [execOp, e78, e80, hst, go_sem]) hS rfl
        · intro a w1 hS hb hd
          have e0 := hb 0 (Rg.nw (by decide))
          simp [Act.eval] at e0
          have e76 := hd ⟨7, .guard⟩ (by simp) rfl _ _ rfl rfl
          exact Rg.does_pure (Rg.wanted_some rfl rfl rfl e76) (by simp [execOp, e0, go_sem]) hS rfl
        · intro a w1 hS hb hd
          have e1 := hb 1 (Rg.nw (by decide))
          simp [Act.eval] at e1
          have e76 := hd ⟨7, .guard⟩ (by simp) rfl _ _ rfl rfl
          exact Rg.does_pure (Rg.wanted_some rfl rfl rfl e76) (by simp [execOp, e1, go_sem]) hS rfl
        · intro a w1 hS hb hd
          have e82 := hd ⟨13, .data⟩ (by simp) rfl _ _ rfl rfl
          have e82 : a.tmps[82]?.getD undef = (.slice (some ⟨g1, o1, none⟩) n c1) := Rg.slot e82
          have e83 := hd ⟨14, .data⟩ (by simp) rfl _ _ rfl rfl
          have e83 : a.tmps[83]?.getD undef = (.slice (some ⟨g2, o2, none⟩) m c2) := Rg.slot e83
          have e76 := hd ⟨7, .guard⟩ (by simp) rfl _ _ rfl rfl
          refine Rg.does_call (f := 13) (args := #[.slice (some ⟨g1, o1, none⟩) n c1, .slice (some ⟨g2, o2, none⟩) m c2]) (Rg.wanted_some rfl rfl rfl e76) (by simp [e82, e83, go_sem]) ?_
          exact (HSM w1 hS).mono fun e w' ⟨h1, h2⟩ => ⟨_, h1, rfl, below_then hS h2, h2⟩
        · intro a w1 hS hb hd
          have e81 := hd ⟨12, .data⟩ (by simp) rfl _ _ rfl rfl
          have e81 : a.tmps[81]?.getD undef = (.bool ee) := Rg.slot e81
          have e84 := hd ⟨15, .data⟩ (by simp) rfl _ _ rfl rfl
          have e84 : a.tmps[84]?.getD undef = (.bool ee) := Rg.slot e84
          have e76 := hd ⟨7, .guard⟩ (by simp) rfl _ _ rfl rfl
          exact Rg.does_pure (Rg.wanted_some rfl rfl rfl e76) (by simp [execOp, e81, e84, go_sem]) hS rfl
        · intro a w1 hS hb hd
          have e76 := hd ⟨7, .data⟩ (by simp) rfl _ _ rfl rfl
          have e76 : a.tmps[76]?.getD undef = (.bool true) := Rg.slot e76
          have e85 := hd ⟨16, .data⟩ (by simp) rfl _ _ rfl rfl
          have e85 : a.tmps[85]?.getD undef = (.bool true) := Rg.slot e85
          exact Rg.does_pure (Rg.wanted_none rfl) (by simp [execOp, e76, e85, go_sem]) hS rfl
        · intro a w1 hS hb hd
          have e86 := hd ⟨17, .data⟩ (by simp) rfl _ _ rfl rfl
          have e86 : a.tmps[86]?.getD undef = (.bool true) := Rg.slot e86
          exact Rg.does_pure (Rg.wanted_none rfl) (by simp [execOp, e86, go_sem]) hS rfl
        · intro a w1 hS hb hd
          have e87 := hd ⟨18, .guard⟩ (by simp) rfl _ _ rfl rfl
          refine Rg.does_call (f := 20) (args := #[]) (Rg.wanted_some rfl rfl rfl e87) (by simp [go_sem]) ?_
          exact (HWK w1 hS).mono fun e w' ⟨h1, h2⟩ => ⟨_, h1, rfl, below_then hS h2, h2⟩
        · intro a w1 hS hb hd
          have e87 := hd ⟨18, .data⟩ (by simp) rfl _ _ rfl rfl
          have e87 : a.tmps[87]?.getD undef = (.bool true) := Rg.slot e87
          have e88 := hd ⟨19, .data⟩ (by simp) rfl _ _ rfl rfl
          have e88 : a.tmps[88]?.getD undef = (.bool true) := Rg.slot e88
          exact Rg.does_pure (Rg.wanted_none rfl) (by simp [execOp, e87, e88, go_sem]) hS rfl
        · intro a w1 hS hb hd
          have e89 := hd ⟨20, .data⟩ (by simp) rfl _ _ rfl rfl
          have e89 : a.tmps[89]?.getD undef = (.bool true) := Rg.slot e89
          exact Rg.does_pure (Rg.wanted_none rfl) (by simp [execOp, e89, go_sem]) hS rfl
        intro v w6 hS6 hF
        have h21 : v 21 = .bool true := hF 21 _ _ rfl rfl
        simp only [Rg.putAll, h21]
        simp only [Act.put, List.setIfInBounds_toArray, List.set_cons_succ, List.set_cons_zero]
        have HB6 := Lib.hid (HBF.out.trans (hS6.mono HBF.out.size))
        clear y1 y2 HSM HWK hst hlt hF h21 HALL hS6
        go_wp2_with fail
        go_ret
        exact ⟨rfl, HB6.out⟩
    · have hdl2 := HDL.out
      have HD := Lib.hid (show ∀ b : Bool, b = Pl.lessC xs ys → b = dl from fun b h => by
        rw [h, hdl2, Pl.lessC_len xs ys (fun t h1 h2 => HEQ.out t (by have := HLX.out; have := HLY.out; omega)), HLX.out, HLY.out])
      clear hdl2
      by_cases hjn : j < n
      · have hjm : j = m := by omega
        have hlt3 : ¬ j < m := by omega
        clear hlt hjm
        have HBF := Lib.hid (HB4.out.trans (HBR.out.mono HB4.out.size))
        obtain ⟨y1, y2, HSM0, HWK0, hst, hlt0⟩ := HFIN.out wr HBR.out
        have hlt : Op.bytesLess s1.toList s2.toList = dl := HD.out _ hlt0
        have HALL := Lib.hid (And.intro y1 (And.intro y2 (And.intro HSM0 (And.intro HWK0 (And.intro hst hlt)))))
        clear y1 y2 HSM0 HWK0 hst hlt0 hlt
        go_wp2_with fail
        obtain ⟨y1, y2, HSM, HWK, hst, hlt⟩ := HALL.out
        refine Rg.wp_region_inv (fun w' => Below wr.heap.size wr w') (Rg.Wd.at [.is (.slice A3 n3 c3), .is (.string s1), .is (.slice A4 n4 c4), .is (.string s2), .is (.bool dl), .is (.bool dl), .is (.bool true), .is (.bool true), .is (.slice A3 n3 c3), .is (.string s1), .is (.slice A4 n4 c4), .is (.string s2), .is (.bool ee), .is (.slice A1 n c1), .is (.slice A2 m c2), .is (.bool ee), .is (.bool true), .is (.bool true), .is (.bool true), .is (.bool true), .is (.bool true), .is (.bool true)]) (by kernel_rfl) (by kernel_rfl) (Rg.Wd.stays _ _) (below_drawn (Below.refl _ wr)) ⟨?_, ?_, ?_, ?_, ?_, ?_, ?_, ?_, ?_, ?_, ?_, ?_, ?_, ?_, ?_, ?_, ?_, ?_, ?_, ?_, ?_, ?_, trivial⟩ ?_
        · intro a w1 hS hb hd
          have e6 := hb 6 (Rg.nw (by decide))
          simp [Act.eval] at e6
          exact Rg.does_pure (Rg.wanted_none rfl) (by simp [execOp, e6, go_sem]) hS rfl
        · intro a w1 hS hb hd
          have e69 := hd ⟨0, .data⟩ (by simp) rfl _ _ rfl rfl
          have e69 : a.tmps[69]?.getD undef = (.slice A3 n3 c3) := Rg.slot e69
          exact Rg.does_pure (Rg.wanted_none rfl) (by simp [execOp, e69, y1 w1 hS, go_sem]) hS rfl
        · intro a w1 hS hb hd
          have e8 := hb 8 (Rg.nw (by decide))
          simp [Act.eval] at e8
          exact Rg.does_pure (Rg.wanted_none rfl) (by simp [execOp, e8, go_sem]) hS rfl
        · intro a w1 hS hb hd
          have e71 := hd ⟨2, .data⟩ (by simp) rfl _ _ rfl rfl
          have e71 : a.tmps[71]?.getD undef = (.slice A4 n4 c4) := Rg.slot e71
          exact Rg.does_pure (Rg.wanted_none rfl) (by simp [execOp, e71, y2 w1 hS, go_sem]) hS rfl
        · intro a w1 hS hb hd
          have e70 := hd ⟨1, .data⟩ (by simp) rfl _ _ rfl rfl
          have e70 : a.tmps[70]?.getD undef = (.string s1) := Rg.slot e70
          have e72 := hd ⟨3, .data⟩ (by simp) rfl _ _ rfl rfl
          have e72 : a.tmps[72]?.getD undef = (.string s2) := Rg.slot e72
          exact Rg.does_pure (Rg.wanted_none rfl) (by simp [execOp, e70, e72, hlt, go_sem]) hS rfl
        · intro a w1 hS hb hd
          have e10 := hb 10 (Rg.nw (by decide))
          simp [Act.eval] at e10
          exact Rg.does_pure (Rg.wanted_none rfl) (by simp [execOp, e10, go_sem]) hS rfl
        · intro a w1 hS hb hd
          have e73 := hd ⟨4, .data⟩ (by simp) rfl _ _ rfl rfl
          have e73 : a.tmps[73]?.getD undef = (.bool dl) := Rg.slot e73
          have e74 := hd ⟨5, .data⟩ (by simp) rfl _ _ rfl rfl
          have e74 : a.tmps[74]?.getD undef = (.bool dl) := Rg.slot e74
          exact Rg.does_pure (Rg.wanted_none rfl) (by simp [execOp, e73, e74, go_sem]) hS rfl
        · intro a w1 hS hb hd
          have e75 := hd ⟨6, .data⟩ (by simp) rfl _ _ rfl rfl
          have e75 : a.tmps[75]?.getD undef = (.bool true) := Rg.slot e75
          exact Rg.does_pure (Rg.wanted_none rfl) (by simp [execOp, e75, go_sem]) hS rfl
        · intro a w1 hS hb hd
          have e6 := hb 6 (Rg.nw (by decide))
          simp [Act.eval] at e6
          have e76 := hd ⟨7, .guard⟩ (by simp) rfl _ _ rfl rfl
          exact Rg.does_pure (Rg.wanted_some rfl rfl rfl e76) (by simp [execOp, e6, go_sem]) hS rfl
        · intro a w1 hS hb hd
          have e77 := hd ⟨8, .data⟩ (by simp) rfl _ _ rfl rfl
          have e77 : a.tmps[77]?.getD undef = (.slice A3 n3 c3) := Rg.slot e77
          have e76 := hd ⟨7, .guard⟩ (by simp) rfl _ _ rfl rfl
          exact Rg.does_pure (Rg.wanted_some rfl rfl rfl e76) (by simp [execOp, e77, y1 w1 hS, go_sem]) hS rfl
        · intro a w1 hS hb hd
          have e8 := hb 8 (Rg.nw (by decide))
          simp [Act.eval] at e8
          have e76 := hd ⟨7, .guard⟩ (by simp) rfl _ _ rfl rfl
          exact Rg.does_pure (Rg.wanted_some rfl rfl rfl e76) (by simp [execOp, e8, go_sem]) hS rfl
        · intro a w1 hS hb hd
          have e79 := hd ⟨10, .data⟩ (by simp) rfl _ _ rfl rfl
          have e79 : a.tmps[79]?.getD undef = (.slice A4 n4 c4) := Rg.slot e79
          have e76 := hd ⟨7, .guard⟩ (by simp) rfl _ _ rfl rfl
          exact Rg.does_pure (Rg.wanted_some rfl rfl rfl e76) (by simp [execOp, e79, y2 w1 hS, go_sem]) hS rfl
        · intro a w1 hS hb hd
          have e78 := hd ⟨9, .data⟩ (by simp) rfl _ _ rfl rfl
          have e78 : a.tmps[78]?.getD undef = (.string s1) := Rg.slot e78
          have e80 := hd ⟨11, .data⟩ (by simp) rfl _ _ rfl rfl
          have e80 : a.tmps[80]?.getD undef = (.string s2) := Rg.slot e80
          have e76 := hd ⟨7, .guard⟩ (by simp) rfl _ _ rfl rfl
          exact Rg.does_pure (Rg.wanted_some rfl rfl rfl e76) (by simp [execOp, e78, e80, hst, go_sem]) hS rfl
        · intro a w1 hS hb hd
          have e0 := hb 0 (Rg.nw (by decide))
          simp [Act.eval] at e0
          have e76 := hd ⟨7, .guard⟩ (by simp) rfl _ _ rfl rfl
          exact Rg.does_pure (Rg.wanted_some rfl rfl rfl e76) (by simp [execOp, e0, go_sem]) hS rfl
        · intro a w1 hS hb hd
          have e1 := hb 1 (Rg.nw (by decide))
          simp [Act.eval] at e1
          have e76 := hd ⟨7, .guard⟩ (by simp) rfl _ _ rfl rfl
          exact Rg.does_pure (Rg.wanted_some rfl rfl rfl e76) (by simp [execOp, e1, go_sem]) hS rfl
        · intro a w1 hS hb hd
          have e82 := hd ⟨13, .data⟩ (by simp) rfl _ _ rfl rfl
          have e82 : a.tmps[82]?.getD undef = (.slice A1 n c1) := Rg.slot e82
          have e83 := hd ⟨14, .data⟩ (by simp) rfl _ _ rfl rfl
          have e83 : a.tmps[83]?.getD undef = (.slice A2 m c2) := Rg.slot e83
          have e76 := hd ⟨7, .guard⟩ (by simp) rfl _ _ rfl rfl
          refine Rg.does_call (f := 13) (args := #[.slice A1 n c1, .slice A2 m c2]) (Rg.wanted_some rfl rfl rfl e76) (by simp [e82, e83, go_sem]) ?_
          exact (HSM w1 hS).mono fun e w' ⟨h1, h2⟩ => ⟨_, h1, rfl, below_then hS h2, h2⟩
        · intro a w1 hS hb hd
          have e81 := hd ⟨12, .data⟩ (by simp) rfl _ _ rfl rfl
          have e81 : a.tmps[81]?.getD undef = (.bool ee) := Rg.slot e81
          have e84 := hd ⟨15, .data⟩ (by simp) rfl _ _ rfl rfl
          have e84 : a.tmps[84]?.getD undef = (.bool ee) := Rg.slot e84
          have e76 := hd ⟨7, .guard⟩ (by simp) rfl _ _ rfl rfl
          exact Rg.does_pure (Rg.wanted_some rfl rfl rfl e76) (by simp [execOp, e81, e84, go_sem]) hS rfl
        · intro a w1 hS hb hd
          have e76 := hd ⟨7, .data⟩ (by simp) rfl _ _ rfl rfl
          have e76 : a.tmps[76]?.getD undef = (.bool true) := Rg.slot e76
          have e85 := hd ⟨16, .data⟩ (by simp) rfl _ _ rfl rfl
          have e85 : a.tmps[85]?.getD undef = (.bool true) := Rg.slot e85
          exact Rg.does_pure (Rg.wanted_none rfl) (by simp [execOp, e76, e85, go_sem]) hS rfl
        · intro a w1 hS hb hd
          have e86 := hd ⟨17, .data⟩ (by simp) rfl _ _ rfl rfl
          have e86 : a.tmps[86]?.getD undef = (.bool true) := Rg.slot e86
          exact Rg.does_pure (Rg.wanted_none rfl) (by simp [execOp, e86, go_sem]) hS rfl
        · intro a w1 hS hb hd
          have e87 := hd ⟨18, .guard⟩ (by simp) rfl _ _ rfl rfl
          refine Rg.does_call (f := 20) (args := #[]) (Rg.wanted_some rfl rfl rfl e87) (by simp [go_sem]) ?_
          exact (HWK w1 hS).mono fun e w' ⟨h1, h2⟩ => ⟨_, h1, rfl, below_then hS h2, h2⟩
        · intro a w1 hS hb hd
          have e87 := hd ⟨18, .data⟩ (by simp) rfl _ _ rfl rfl
          have e87 : a.tmps[87]?.getD undef = (.bool true) := Rg.slot e87
          have e88 := hd ⟨19, .data⟩ (by simp) rfl _ _ rfl rfl
          have e88 : a.tmps[88]?.getD undef = (.bool true) := Rg.slot e88
          exact Rg.does_pure (Rg.wanted_none rfl) (by simp [execOp, e87, e88, go_sem]) hS rfl
        · intro a w1 hS hb hd
          have e89 := hd ⟨20, .data⟩ (by simp) rfl _ _ rfl rfl
          have e89 : a.tmps[89]?.getD undef = (.bool true) := Rg.slot e89
          exact Rg.does_pure (Rg.wanted_none rfl) (by simp [execOp, e89, go_sem]) hS rfl
        intro v w6 hS6 hF
        have h21 : v 21 = .bool true := hF 21 _ _ rfl rfl
        simp only [Rg.putAll, h21]
        simp only [Act.put, List.setIfInBounds_toArray, List.set_cons_succ, List.set_cons_zero]
        have HB6 := Lib.hid (HBF.out.trans (hS6.mono HBF.out.size))
        clear y1 y2 HSM HWK hst hlt hF h21 HALL hS6
        go_wp2_with fail
        go_ret
        exact ⟨rfl, HB6.out⟩
      · clear hlt
        have HBF := Lib.hid (HB4.out.trans (HBR.out.mono HB4.out.size))
        obtain ⟨y1, y2, HSM0, HWK0, hst, hlt0⟩ := HFIN.out wr HBR.out
        have hlt : Op.bytesLess s1.toList s2.toList = dl := HD.out _ hlt0
        have HALL := Lib.hid (And.intro y1 (And.intro y2 (And.intro HSM0 (And.intro HWK0 (And.intro hst hlt)))))
        clear y1 y2 HSM0 HWK0 hst hlt0 hlt
        go_wp2_with fail
        obtain ⟨y1, y2, HSM, HWK, hst, hlt⟩ := HALL.out
        refine Rg.wp_region_inv (fun w' => Below wr.heap.size wr w') (Rg.Wd.at [.is (.slice A3 n3 c3), .is (.string s1), .is (.slice A4 n4 c4), .is (.string s2), .is (.bool dl), .is (.bool dl), .is (.bool true), .is (.bool true), .is (.slice A3 n3 c3), .is (.string s1), .is (.slice A4 n4 c4), .is (.string s2), .is (.bool ee), .is (.slice A1 n c1), .is (.slice A2 m c2), .is (.bool ee), .is (.bool true), .is (.bool true), .is (.bool true), .is (.bool true), .is (.bool true), .is (.bool true)]) (by kernel_rfl) (by kernel_rfl) (Rg.Wd.stays _ _) (below_drawn (Below.refl _ wr)) ⟨?_, ?_, ?_, ?_, ?_, ?_, ?_, ?_, ?_, ?_, ?_, ?_, ?_, ?_, ?_, ?_, ?_, ?_, ?_, ?_, ?_, ?_, trivial⟩ ?_
        · intro a w1 hS hb hd
          have e6 := hb 6 (Rg.nw (by decide))
          simp [Act.eval] at e6
          exact Rg.does_pure (Rg.wanted_none rfl) (by simp [execOp, e6, go_sem]) hS rfl
        · intro a w1 hS hb hd
          have e69 := hd ⟨0, .data⟩ (by simp) rfl _ _ rfl rfl
          have e69 : a.tmps[69]?.getD undef = (.slice A3 n3 c3) := Rg.slot e69
          exact Rg.does_pure (Rg.wanted_none rfl) (by simp [execOp, e69, y1 w1 hS, go_sem]) hS rfl
        · intro a w1 hS hb hd
          have e8 := hb 8 (Rg.nw (by decide))
          simp [Act.eval] at e8
          exact Rg.does_pure (Rg.wanted_none rfl) (by simp [execOp, e8, go_sem]) hS rfl
        · intro a w1 hS hb hd
          have e71 := hd ⟨2, .data⟩ (by simp) rfl _ _ rfl rfl
          have e71 : a.tmps[71]?.getD undef = (.slice A4 n4 c4) := Rg.slot e71
          exact Rg.does_pure (Rg.wanted_none rfl) (by simp [execOp, e71, y2 w1 hS, go_sem]) hS rfl
        · intro a w1 hS hb hd
          have e70 := hd ⟨1, .data⟩ (by simp) rfl _ _ rfl rfl
          have e70 : a.tmps[70]?.getD undef = (.string s1) := Rg.slot e70
          have e72 := hd ⟨3, .data⟩ (by simp) rfl _ _ rfl rfl
          have e72 : a.tmps[72]?.getD undef = (.string s2) := Rg.slot e72
          exact Rg.does_pure (Rg.wanted_none rfl) (by simp [execOp, e70, e72, hlt, go_sem]) hS rfl
        · intro a w1 hS hb hd
          have e10 := hb 10 (Rg.nw (by decide))
          simp [Act.eval] at e10
          exact Rg.does_pure (Rg.wanted_none rfl) (by simp [execOp, e10, go_sem]) hS rfl
        · intro a w1 hS hb hd
          have e73 := hd ⟨4, .data⟩ (by simp) rfl _ _ rfl rfl
          have e73 : a.tmps[73]?.getD undef = (.bool dl) := Rg.slot e73
          have e74 := hd ⟨5, .data⟩ (by simp) rfl _ _ rfl rfl
          have e74 : a.tmps[74]?.getD undef = (.bool dl) := Rg.slot e74
          exact Rg.does_pure (Rg.wanted_none rfl) (by simp [execOp, e73, e74, go_sem]) hS rfl
        · intro a w1 hS hb hd
          have e75 := hd ⟨6, .data⟩ (by simp) rfl _ _ rfl rfl
          have e75 : a.tmps[75]?.getD undef = (.bool true) := Rg.slot e75
          exact Rg.does_pure (Rg.wanted_none rfl) (by simp [execOp, e75, go_sem]) hS rfl
        · intro a w1 hS hb hd
          have e6 := hb 6 (Rg.nw (by decide))
          simp [Act.eval] at e6
          have e76 := hd ⟨7, .guard⟩ (by simp) rfl _ _ rfl rfl
          exact Rg.does_pure (Rg.wanted_some rfl rfl rfl e76) (by simp [execOp, e6, go_sem]) hS rfl
        · intro a w1 hS hb hd
          have e77 := hd ⟨8, .data⟩ (by simp) rfl _ _ rfl rfl
          have e77 : a.tmps[77]?.getD undef = (.slice A3 n3 c3) := Rg.slot e77
          have e76 := hd ⟨7, .guard⟩ (by simp) rfl _ _ rfl rfl
          exact Rg.does_pure (Rg.wanted_some rfl rfl rfl e76) (by simp [execOp, e77, y1 w1 hS, go_sem]) hS rfl
        · intro a w1 hS hb hd
          have e8 := hb 8 (Rg.nw (by decide))
          simp [Act.eval] at e8
          have e76 := hd ⟨7, .guard⟩ (by simp) rfl _ _ rfl rfl
          exact Rg.does_pure (Rg.wanted_some rfl rfl rfl e76) (by simp [execOp, e8, go_sem]) hS rfl
        · intro a w1 hS hb hd
          have e79 := hd ⟨10, .data⟩ (by simp) rfl _ _ rfl rfl
          have e79 : a.tmps[79]?.getD undef = (.slice A4 n4 c4) := Rg.slot e79
          have e76 := hd ⟨7, .guard⟩ (by simp) rfl _ _ rfl rfl
          exact Rg.does_pure (Rg.wanted_some rfl rfl rfl e76) (by simp [execOp, e79, y2 w1 hS, go_sem]) hS rfl
        · intro a w1 hS hb hd
          have e78 := hd ⟨9, .data⟩ (by simp) rfl _ _ rfl rfl
          have e78 : a.tmps[78]?.getD undef = (.string s1) := Rg.slot e78
          have e80 := hd ⟨11, .data⟩ (by simp) rfl _ _ rfl rfl
          have e80 : a.tmps[80]?.getD undef = (.string s2) := Rg.slot e80
          have e76 := hd ⟨7, .guard⟩ (by simp) rfl _ _ rfl rfl
          exact Rg.does_pure (Rg.wanted_some rfl rfl rfl e76) (by simp [execOp, e78, e80, hst, go_sem]) hS rfl
        · intro a w1 hS hb hd
          have e0 := hb 0 (Rg.nw (by decide))
          simp [Act.eval] at e0
          have e76 := hd ⟨7, .guard⟩ (by simp) rfl _ _ rfl rfl
          exact Rg.does_pure (Rg.wanted_some rfl rfl rfl e76) (by simp [execOp, e0, go_sem]) hS rfl
        · intro a w1 hS hb hd
          have e1 := hb 1 (Rg.nw (by decide))
          simp [Act.eval] at e1
          have e76 := hd ⟨7, .guard⟩ (by simp) rfl _ _ rfl rfl
          exact Rg.does_pure (Rg.wanted_some rfl rfl rfl e76) (by simp [execOp, e1, go_sem]) hS rfl
        · intro a w1 hS hb hd
          have e82 := hd ⟨13, .data⟩ (by simp) rfl _ _ rfl rfl
          have e82 : a.tmps[82]?.getD undef = (.slice A1 n c1) := Rg.slot e82
          have e83 := hd ⟨14, .data⟩ (by simp) rfl _ _ rfl rfl
          have e83 : a.tmps[83]?.getD undef = (.slice A2 m c2) := Rg.slot e83
          have e76 := hd ⟨7, .guard⟩ (by simp) rfl _ _ rfl rfl
          refine Rg.does_call (f := 13) (args := #[.slice A1 n c1, .slice A2 m c2]) (Rg.wanted_some rfl rfl rfl e76) (by simp [e82, e83, go_sem]) ?_
          exact (HSM w1 hS).mono fun e w' ⟨h1, h2⟩ => ⟨_, h1, rfl, below_then hS h2, h2⟩
        · intro a w1 hS hb hd
          have e81 := hd ⟨12, .data⟩ (by simp) rfl _ _ rfl rfl
          have e81 : a.tmps[81]?.getD undef = (.bool ee) := Rg.slot e81
          have e84 := hd ⟨15, .data⟩ (by simp) rfl _ _ rfl rfl
          have e84 : a.tmps[84]?.getD undef = (.bool ee) := Rg.slot e84
          have e76 := hd ⟨7, .guard⟩ (by simp) rfl _ _ rfl rfl
          exact Rg.does_pure (Rg.wanted_some rfl rfl rfl e76) (by simp [execOp, e81, e84, go_sem]) hS rfl
        · intro a w1 hS hb hd
          have e76 := hd ⟨7, .data⟩ (by simp) rfl _ _ rfl rfl
          have e76 : a.tmps[76]?.getD undef = (.bool true) := Rg.slot e76
          have e85 := hd ⟨16, .data⟩ (by simp) rfl _ _ rfl rfl
          have e85 : a.tmps[85]?.getD undef = (.bool true) := Rg.slot e85
          exact Rg.does_pure (Rg.wanted_none rfl) (by simp [execOp, e76, e85, go_sem]) hS rfl
        · intro a w1 hS hb hd
          have e86 := hd ⟨17, .data⟩ (by simp) rfl _ _ rfl rfl
          have e86 : a.tmps[86]?.getD undef = (.bool true) := Rg.slot e86
          exact Rg.does_pure (Rg.wanted_none rfl) (by simp [execOp, e86, go_sem]) hS rfl
        · intro a w1 hS hb hd
          have e87 := hd ⟨18, .guard⟩ (by simp) rfl _ _ rfl rfl
          refine Rg.does_call (f := 20) (args := #[]) (Rg.wanted_some rfl rfl rfl e87) (by simp [go_sem]) ?_
          exact (HWK w1 hS).mono fun e w' ⟨h1, h2⟩ => ⟨_, h1, rfl, below_then hS h2, h2⟩
        · intro a w1 hS hb hd
          have e87 := hd ⟨18, .data⟩ (by simp) rfl _ _ rfl rfl
          have e87 : a.tmps[87]?.getD undef = (.bool true) := Rg.slot e87
          have e88 := hd ⟨19, .data⟩ (by simp) rfl _ _ rfl rfl
          have e88 : a.tmps[88]?.getD undef = (.bool true) := Rg.slot e88
          exact Rg.does_pure (Rg.wanted_none rfl) (by simp [execOp, e87, e88, go_sem]) hS rfl
        · intro a w1 hS hb hd
          have e89 := hd ⟨20, .data⟩ (by simp) rfl _ _ rfl rfl
          have e89 : a.tmps[89]?.getD undef = (.bool true) := Rg.slot e89
          exact Rg.does_pure (Rg.wanted_none rfl) (by simp [execOp, e89, go_sem]) hS rfl
        intro v w6 hS6 hF
        have h21 : v 21 = .bool true := hF 21 _ _ rfl rfl
        simp only [Rg.putAll, h21]
        simp only [Act.put, List.setIfInBounds_toArray, List.set_cons_succ, List.set_cons_zero]
        have HB6 := Lib.hid (HBF.out.trans (hS6.mono HBF.out.size))
        clear y1 y2 HSM HWK hst hlt hF h21 HALL hS6
        go_wp2_with fail
        go_ret
        exact ⟨rfl, HB6.out⟩
end Go.Proofs.YtillndchojaniaaDoor.utfOrder
