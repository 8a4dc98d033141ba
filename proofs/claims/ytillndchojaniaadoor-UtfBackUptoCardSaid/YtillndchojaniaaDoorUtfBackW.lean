/-
  The walk of copybooklaw04.UtfBack: it returns true for every text and all bytes, of 1048576 each at most; nothing that was there turned. Condition: the tables stand.
-/
import Derived.Test.YtillndchojaniaaDoorUtfK
namespace Go.Proofs.YtillndchojaniaaDoor.utfBack
open Go.RowKit

/-- the sizes, added up -/
def sums (cs : List Int) : Nat := (cs.map Pl.size).sum
theorem sums_snoc {cs : List Int} {j : Nat} (h : j < cs.length) : sums (cs.take (j + 1)) = sums (cs.take j) + Pl.size (cs.getD j 0) := by
  rw [Pl.take_snoc' cs j h]; simp [sums]
theorem sums_le (cs : List Int) : sums cs ≤ 4 * cs.length := by
  induction cs with
  | nil => simp [sums]
  | cons c cs ih => have := Pl.size_le c; simp only [sums, List.map_cons, List.sum_cons, List.length_cons] at *; omega
theorem sums_may {cs : List Int} (h : Pl.AllMay cs) : sums cs = (Pl.encs cs).length := by
  induction cs with
  | nil => rfl
  | cons c cs ih =>
    have h1 := Pl.size_may (h c (by simp))
    have h2 := ih (fun x hx => h x (by simp [hx]))
    simp only [sums, List.map_cons, List.sum_cons] at *
    rw [Pl.encs_cons, List.length_append, h1, h2]
theorem may_step {cs : List Int} {j : Nat} (h : j < cs.length) : decide (Pl.AllMay (cs.take (j + 1))) = (decide (Pl.AllMay (cs.take j)) && decide (Pl.May (cs.getD j 0))) := by
  rw [Bool.eq_iff_iff, Bool.and_eq_true, decide_eq_true_iff, decide_eq_true_iff, decide_eq_true_iff, Pl.take_snoc' cs j h]
  refine ⟨fun hh => ⟨fun c hc => hh c (by simp [hc]), hh _ (by simp)⟩, fun ⟨h1, h2⟩ => h1.append (fun c hc => by simp at hc; rw [hc]; exact h2)⟩
def BRel (w : World) (n : Nat) (cs : List Int) (m s i : Value) (wr : World) : Prop :=
  ∃ (j k : Nat) (mb : Bool), i = .int .i64 (j : Int) ∧ j ≤ n ∧ s = .int .i64 (k : Int) ∧ k ≤ 4 * j ∧ k = sums (cs.take j) ∧ m = .bool mb ∧ mb = decide (Pl.AllMay (cs.take j)) ∧ wr = w

set_option maxRecDepth 100000 in
set_option maxHeartbeats 4000000 in
theorem walk (w : World) (hT : Tab w) (A : Option Addr) (n c : Nat) (cs : List Int) (hA : Crs w w.heap.size A n c cs) (hr : n ≤ 1048576) (B : Option Addr) (m d : Nat) (bs : List Nat) (hB : Bys w w.heap.size B m d bs) (hs : m ≤ 1048576) :
    Calls Tryd.prog 4 #[.slice A n c, .slice B m d] w fun e w' => e = .returned (.bool true) ∧ Below w.heap.size w w' := by
  have hle := hA.le
  have hcap := hA.cap
  unfold maxLen at hcap
  have HA := Lib.hid hA
  have HB := Lib.hid hB
  have HT := Lib.hid hT
  have HR := Lib.hid (And.intro hr hs)
  have HL := Lib.hid hA.len
  have HLB := Lib.hid hB.len
  clear hA hB hT hs
  go_enter Tryd.func4, Tryd.ntmps4
  go_wp2_with fail
  refine (enc_any A n c cs w HT.out HA.out (by omega)).mono ?_
  rintro e w1 ⟨A1, n1, c1, rfl, hO1, hb1⟩
  have HB1 := Lib.hid hb1
  have HO1 := Lib.hid hO1
  have HN1 := Lib.hid hO1.bys.1
  have hn1 : n1 ≤ 4194304 := by
    have h1 := hO1.bys.1
    by_cases h : Pl.AllMay cs
    · rw [(Pl.enc_yes h).1] at h1; have := Pl.len_encs_le cs; have := HL.out; omega
    · rw [(Pl.enc_no h).1] at h1; simp at h1; omega
  obtain ⟨er, her⟩ : ∃ er, er = Pl.encE cs := ⟨_, rfl⟩
  have HER := Lib.hid her
  rw [← her]
  have HA1 := Lib.hid (HA.out.then_ hb1)
  clear hO1 her hb1
  go_wp2_with fail
  go_loopw [7, 8, 9] (fun mv s i wr => BRel w1 n cs mv s i wr) (fun _ _ i _ => n - (intOf i).toNat)
  case atStart => exact ⟨0, 0, true, rfl, Nat.zero_le _, rfl, by omega, rfl, rfl, (decide_eq_true (fun c hc => by cases hc)).symm, rfl⟩
  case round =>
    obtain ⟨j, k, mb, rfl, hj, rfl, hk, hk2, rfl, hmb, rfl⟩ := hrel
    have HK := Lib.hid hk2
    have HMB := Lib.hid hmb
    clear hk2 hmb
    by_cases hlt : j < n
    · obtain ⟨g, o, rfl, hg, hc0⟩ := HA1.out.at_ hlt
      have hc := hc0 j hlt
      have hJ := Lib.hid (HA.out.getJ j)
      have HS := Lib.hid (sums_snoc (cs := cs) (j := j) (by have := HL.out; omega))
      have HM := Lib.hid (may_step (cs := cs) (j := j) (by have := HL.out; omega))
      clear hc0
      obtain ⟨x, hx⟩ : ∃ x, x = cs.getD j 0 := ⟨_, rfl⟩
      rw [← hx] at hc hJ HS HM
      clear hx
      have HSZ := Lib.hid (size_any x wr hJ.out)
      have HMY := Lib.hid (may_any x wr hJ.out)
      have hs4 := Pl.size_le x
      obtain ⟨z, hz⟩ : ∃ z, z = Pl.size x := ⟨_, rfl⟩
      rw [← hz] at HSZ hs4 HS
      obtain ⟨mx, hmx⟩ : ∃ mx, mx = decide (Pl.May x) := ⟨_, rfl⟩
      rw [← hmx] at HMY HM
      clear hz hmx
      cases mb with
      | true =>
        have HM2 := Lib.hid (show mx = decide (Pl.AllMay (cs.take (j + 1))) by rw [HM.out, ← HMB.out]; rfl)
        go_wp2_with fail
        refine HMY.out.mono ?_
        rintro e w' ⟨rfl, rfl⟩
        go_wp2_with fail
        refine HSZ.out.mono ?_
        rintro e w' ⟨rfl, rfl⟩
        go_wp2_with fail
        go_roundw
        case rel => exact ⟨j + 1, k + z, mx, by go_num, by omega, by go_num, by omega, by rw [HS.out, HK.out], rfl, HM2.out, rfl⟩
        case measure => simp [intOf]; omega
      | false =>
        have HM2 := Lib.hid (show false = decide (Pl.AllMay (cs.take (j + 1))) by rw [HM.out, ← HMB.out]; rfl)
        go_wp2_with fail
        refine HSZ.out.mono ?_
        rintro e w' ⟨rfl, rfl⟩
        go_wp2_with fail
        go_roundw
        case rel => exact ⟨j + 1, k + z, false, by go_num, by omega, by go_num, by omega, by rw [HS.out, HK.out], rfl, HM2.out, rfl⟩
        case measure => simp [intOf]; omega
    · have e1 : cs.take j = cs := List.take_of_length_le (by have := HL.out; omega)
      rw [e1] at HK HMB
      clear e1
      by_cases hall : Pl.AllMay cs
      · have HE0 := Lib.hid (show er = 0 from HER.out.trans (Pl.enc_yes hall).2)
        rw [decide_eq_true hall] at HMB
        have HKN := Lib.hid (show k = n1 by rw [HK.out, sums_may hall, HN1.out, (Pl.enc_yes hall).1])
        have hmt := HMB.out
        subst hmt
        have h00 := HE0.out
        subst h00
        have hkn := HKN.out
        subst hkn
        have HO1B := Lib.hid HO1.out.bys.2
        rw [(Pl.enc_yes hall).1] at HO1B
        have HDY := Lib.hid (Pl.dec_yes (bs := Pl.encs cs) (Pl.whole_encs hall))
        have HDC := Lib.hid (Pl.dec_encs hall)
        have HWE := Lib.hid (show Pl.whole (Pl.encs cs) = k by rw [Pl.whole_encs hall, HN1.out, (Pl.enc_yes hall).1])
        go_wp2_with fail
        refine (dec_any A1 k c1 (Pl.encs cs) wr (HT.out.then_ HB1.out) HO1B.out (by omega)).mono ?_
        rintro e w2 ⟨A2, n2, c2, rfl, hO2, hb2⟩
        rw [HDY.out.2]
        rw [HDY.out.1, HDC.out] at hO2
        have HB2 := Lib.hid hb2
        have HB02 := Lib.hid (HB1.out.trans (hb2.mono HB1.out.size))
        have HSM := Lib.hid (same_any A2 A n2 c2 n c cs cs w2 hO2.crs.2 (HA.out.then_ HB02.out))
        rw [decide_eq_true rfl] at HSM
        clear hO2 hb2
        go_wp2_with fail
        refine HSM.out.mono ?_
        rintro e w3 ⟨rfl, hb3⟩
        have HB3 := Lib.hid hb3
        have HB03 := Lib.hid (HB02.out.trans (hb3.mono HB02.out.size))
        have HWX := Lib.hid (whole_any A1 k c1 (Pl.encs cs) w3 (HT.out.then_ HB03.out) ((HO1B.out.then_ HB2.out).then_ hb3))
        rw [HWE.out] at HWX
        clear hb3
        go_wp2_with fail
        refine HWX.out.mono ?_
        rintro e w4 ⟨rfl, hb4⟩
        have HB04 := Lib.hid (HB03.out.trans (hb4.mono HB03.out.size))
        clear hb4
        go_wp2_with fail
        refine (dec_any B m d bs w4 (HT.out.then_ HB04.out) (HB.out.then_ HB04.out) (by have := HR.out.2; omega)).mono ?_
        rintro e w5 ⟨A5, n5, c5, rfl, hO5, hb5⟩
        have HB5 := Lib.hid hb5
        have HB05 := Lib.hid (HB04.out.trans (hb5.mono HB04.out.size))
        have HO5 := Lib.hid hO5
        clear hO5 hb5
        by_cases hwh : Pl.whole bs = bs.length
        · rw [(Pl.dec_yes hwh).2]
          have HDY2 := Lib.hid (Pl.dec_yes hwh).1
          have HEW := Lib.hid (Pl.encs_whole hwh)
          have HDM := Lib.hid (Pl.dec_may bs)
          have h5 : n5 ≤ 1048576 := by
            have h1 := HO5.out.crs.1
            rw [HDY2.out] at h1
            have h2 := Pl.dec_le bs
            have := HLB.out
            have := HR.out.2
            omega
          clear hwh
          go_wp2_with fail
          refine (enc_any A5 n5 c5 _ w5 (HT.out.then_ HB05.out) HO5.out.crs.2 (by omega)).mono ?_
          rintro e w6 ⟨A6, n6, c6, rfl, hO6, hb6⟩
          rw [HDY2.out] at hO6 ⊢
          rw [(Pl.enc_yes HDM.out).2]
          rw [(Pl.enc_yes HDM.out).1, HEW.out] at hO6
          have HB06 := Lib.hid (HB05.out.trans (hb6.mono HB05.out.size))
          have k1 := hO6.bys.2.conv
          have k2 := (HB.out.then_ HB06.out).conv
          obtain ⟨s, hs⟩ : ∃ s, s = strOfNums (ints bs) := ⟨_, rfl⟩
          rw [← hs] at k1 k2
          clear hO6 hb6 hs
          go_wp2_with fail
          refine (wakes_any w6 (HT.out.then_ HB06.out)).mono ?_
          rintro e w7 ⟨rfl, hb7⟩
          have HB07 := Lib.hid (HB06.out.trans (hb7.mono HB06.out.size))
          clear k1 k2 hb7
          go_wp2_with fail
          go_ret
          exact ⟨rfl, HB07.out⟩
        · rw [(Pl.dec_no hwh).2]
          have h5 : n5 = 0 := by
            have h1 := HO5.out.crs.1
            rw [(Pl.dec_no hwh).1] at h1
            exact h1
          subst h5
          have hwl := Pl.whole_le bs
          rw [HLB.out] at hwl hwh
          have hwlt : Pl.whole bs < m := by omega
          have HWX := Lib.hid (whole_any B m d bs w5 (HT.out.then_ HB05.out) (HB.out.then_ HB05.out))
          obtain ⟨q, hq⟩ : ∃ q, q = Pl.whole bs := ⟨_, rfl⟩
          rw [← hq] at HWX hwlt
          clear hq hwl hwh
          go_wp2_with fail
          refine HWX.out.mono ?_
          rintro e w6 ⟨rfl, hb6⟩
          have HB06 := Lib.hid (HB05.out.trans (hb6.mono HB05.out.size))
          clear hb6
          go_wp2_with fail
          refine (wakes_any w6 (HT.out.then_ HB06.out)).mono ?_
          rintro e w7 ⟨rfl, hb7⟩
          have HB07 := Lib.hid (HB06.out.trans (hb7.mono HB06.out.size))
          clear hb7
          go_wp2_with fail
          go_ret
          exact ⟨rfl, HB07.out⟩
      · have HE0 := Lib.hid (show er = 21 from HER.out.trans (Pl.enc_no hall).2)
        rw [decide_eq_false hall] at HMB
        have HKN := Lib.hid (show n1 = 0 by rw [HN1.out, (Pl.enc_no hall).1]; rfl)
        have hmt := HMB.out
        subst hmt
        have h00 := HE0.out
        subst h00
        have hkn := HKN.out
        subst hkn
        have HB04 := Lib.hid HB1.out
        go_wp2_with fail
        refine (dec_any B m d bs wr (HT.out.then_ HB04.out) (HB.out.then_ HB04.out) (by have := HR.out.2; omega)).mono ?_
        rintro e w5 ⟨A5, n5, c5, rfl, hO5, hb5⟩
        have HB5 := Lib.hid hb5
        have HB05 := Lib.hid (HB04.out.trans (hb5.mono HB04.out.size))
        have HO5 := Lib.hid hO5
        clear hO5 hb5
        by_cases hwh : Pl.whole bs = bs.length
        · rw [(Pl.dec_yes hwh).2]
          have HDY2 := Lib.hid (Pl.dec_yes hwh).1
          have HEW := Lib.hid (Pl.encs_whole hwh)
          have HDM := Lib.hid (Pl.dec_may bs)
          have h5 : n5 ≤ 1048576 := by
            have h1 := HO5.out.crs.1
            rw [HDY2.out] at h1
            have h2 := Pl.dec_le bs
            have := HLB.out
            have := HR.out.2
            omega
          clear hwh
          go_wp2_with fail
          refine (enc_any A5 n5 c5 _ w5 (HT.out.then_ HB05.out) HO5.out.crs.2 (by omega)).mono ?_
          rintro e w6 ⟨A6, n6, c6, rfl, hO6, hb6⟩
          rw [HDY2.out] at hO6 ⊢
          rw [(Pl.enc_yes HDM.out).2]
          rw [(Pl.enc_yes HDM.out).1, HEW.out] at hO6
          have HB06 := Lib.hid (HB05.out.trans (hb6.mono HB05.out.size))
          have k1 := hO6.bys.2.conv
          have k2 := (HB.out.then_ HB06.out).conv
          obtain ⟨s, hs⟩ : ∃ s, s = strOfNums (ints bs) := ⟨_, rfl⟩
          rw [← hs] at k1 k2
          clear hO6 hb6 hs
          go_wp2_with fail
          refine (wakes_any w6 (HT.out.then_ HB06.out)).mono ?_
          rintro e w7 ⟨rfl, hb7⟩
          have HB07 := Lib.hid (HB06.out.trans (hb7.mono HB06.out.size))
          clear k1 k2 hb7
          go_wp2_with fail
          go_ret
          exact ⟨rfl, HB07.out⟩
        · rw [(Pl.dec_no hwh).2]
          have h5 : n5 = 0 := by
            have h1 := HO5.out.crs.1
            rw [(Pl.dec_no hwh).1] at h1
            exact h1
          subst h5
          have hwl := Pl.whole_le bs
          rw [HLB.out] at hwl hwh
          have hwlt : Pl.whole bs < m := by omega
          have HWX := Lib.hid (whole_any B m d bs w5 (HT.out.then_ HB05.out) (HB.out.then_ HB05.out))
          obtain ⟨q, hq⟩ : ∃ q, q = Pl.whole bs := ⟨_, rfl⟩
          rw [← hq] at HWX hwlt
          clear hq hwl hwh
          go_wp2_with fail
          refine HWX.out.mono ?_
          rintro e w6 ⟨rfl, hb6⟩
          have HB06 := Lib.hid (HB05.out.trans (hb6.mono HB05.out.size))
          clear hb6
          go_wp2_with fail
          refine (wakes_any w6 (HT.out.then_ HB06.out)).mono ?_
          rintro e w7 ⟨rfl, hb7⟩
          have HB07 := Lib.hid (HB06.out.trans (hb7.mono HB06.out.size))
          clear hb7
          go_wp2_with fail
          go_ret
          exact ⟨rfl, HB07.out⟩
end Go.Proofs.YtillndchojaniaaDoor.utfBack
