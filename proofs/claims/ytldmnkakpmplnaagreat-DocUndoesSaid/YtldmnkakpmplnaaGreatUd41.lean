/-
  Open's own part. Conditions: those that it states.
-/
import Derived.Test.YtldmnkakpmplnaaGreatUd40
import Derived.StillTailTactics
set_option maxRecDepth 100000
set_option linter.unusedVariables false
namespace Go.Proofs.YtldmnkakpmplnaaGreat
open Go.RowKit
open Pl (Un)
namespace Pl
theorem setL_err {L : Mks} {c t : Int} (h : (setL L c t).1 ≠ 0) : (setL L c t).2 = L := by
  unfold setL at h ⊢
  split
  · rfl
  · rename_i h1
    rw [if_neg h1] at h
    split
    · rfl
    · rename_i h2
      rw [if_neg h2] at h
      exact absurd rfl h
theorem live_there {L : Mks} (hr : Rising L) (c now : Int) : liveM (thereM now L) c now = (getM (thereM now L) c).isSome := by
  cases h : getM (thereM now L) c with
  | none => rw [live_none h]; rfl
  | some v =>
    rw [live_some h]
    have hm := (get_iff (rising_there hr now)).1 h
    have := (List.mem_filter.1 hm).2
    simpa using this
namespace Dc
def openF (c : Int) (rev : Nat) (t : Int) (d : Dc) : Dc × An :=
  if (d.tells rev (rev == 0)).e ≠ 0 then (d, d.tells rev (rev == 0)) else
    if (setL d.L c t).1 ≠ 0 then (d, fails (setL d.L c t).1) else
    ({ d with L := (setL d.L c t).2, M := if getM d.M c = none then putM d.M c 0 else d.M }, d.tells rev (rev == 0))
theorem open_eq (d : Dc) (c : Int) (rev : Nat) (t : Int) : d.open_ c rev t = d.call t (openF c rev t) := rfl
end Dc
end Pl
section
variable {w w' : World} {D pa tx ls mk m al : Nat} {k : Nat → Nat} {N : Int} {d : Pl.Dc}
theorem DocM.setLs (h : DocM w D pa tx ls mk k N d m) {c : Int} (hc : 0 ≤ c ∧ c < 4294967296) (now : Int) (h0 : 0 ≤ now) :
    Calls Tryz.prog 69 #[.pointer (some ⟨ls, 0, none⟩), .int .u32 c, .int .u64 now] w fun e w' => e = .returned (.int .i64 (Pl.setL d.L c now).1) ∧ DocM w' D pa tx ls mk k N { d with L := (Pl.setL d.L c now).2 } m ∧ Tn (fun b => k b = 6) w w' := by
  obtain ⟨lb, h5, h6⟩ := h.les
  refine (Ls.set_any h5 hc now h0).mono fun e w' h2 => ?_
  have := h.setL h6 h2.2.1 h2.2.2
  exact ⟨h2.1, this.1, h2.2.2.more fun b _ e => by rw [e]; exact h6⟩
theorem DocM.setMk (h : DocM w D pa tx ls mk k N d m) {c v : Int} (hc : 0 ≤ c ∧ c < 4294967296) (hv : 0 ≤ v ∧ v ≤ N) :
    Calls Tryz.prog 70 #[.pointer (some ⟨mk, 0, none⟩), .int .u32 c, .int .i64 v] w fun e w' => e = .returned (.int .i64 0) ∧ DocM w' D pa tx ls mk k N { d with M := Pl.putM d.M c v } m ∧ Tn (fun b => k b = 8) w w' := by
  obtain ⟨mb, h5, h6⟩ := h.mks
  refine (setM_any h5 hc hv).mono fun e w' h2 => ?_
  have := h.setM h6 h2.2.1 h2.2.2
  exact ⟨h2.1, this.1, h2.2.2.more fun b _ e => by rw [e]; exact h6⟩
theorem TellR.own {w1 wT : World} {a : Pl.An} {e : Ending} (h : DocM w1 D pa tx ls mk k d.cs.length d m) (ht : Tn (fun b => k b ≠ 0) w w1) (hk : ∀ b, k b ≠ 0 → b < w.heap.size) (hT : TellR w1 al a e wT) (hka : k al = 0) (ha : a.e = 0) :
    OwnD w D pa tx ls mk al k m (d, a) (.returned (.int .i64 0)) wT := by
  have hs := ht.size
  refine ⟨k, m, by rw [← ha], h.tn hT.2.2 (fun b hb e => hb (by rw [e]; exact hka)), Nat.le_add_right _ _, (ht.more fun b _ h => Or.inl h).trans hT.2.2 (fun b _ h => Or.inr h), fun _ _ => rfl, fun _ => ?_⟩
  obtain ⟨A, n, c, A2, n2, c2, A3, n3, c3, h7, h8⟩ := hT.2.1
  refine ⟨A, n, c, A2, n2, c2, A3, n3, c3, h7, h8.more fun b hb => ⟨by omega, ?_⟩⟩
  rcases Nat.eq_zero_or_pos (k b) with h | h
  · exact h
  · have := hk b (by omega); omega
set_option maxHeartbeats 2000000 in
theorem open1_any (h : DocM w D pa tx ls mk k d.cs.length d m) (hok : d.Ok) {c : Int} (hc : 0 ≤ c ∧ c < 4294967296) (rev : Nat) (hrev : rev ≤ 18446744073709551615) (now : Int) (h0 : 0 ≤ now) (hlv : Pl.liveM d.L c now = (Pl.getM d.L c).isSome) (hA : AnAt w al 0 0 false none 0 0 none 0 0 none 0 0) (hka : k al = 0) (b1 b2 b3 b4 : Nat)
    (e1 : w.heap[b1]? = some (.cells #[.int .u64 (rev : Int)] 27 (0, 0))) (e2 : w.heap[b2]? = some (.cells #[.pointer (some ⟨D, 0, none⟩)] 23 (0, 0))) (e3 : w.heap[b3]? = some (.cells #[.int .u32 c] 28 (0, 0))) (e4 : w.heap[b4]? = some (.cells #[.int .u64 now] 27 (0, 0)))
    (hk : (k b1 = 0 ∧ k b2 = 0 ∧ k b3 = 0 ∧ k b4 = 0) ∧ ¬ (b1 = al ∨ b2 = al ∨ b3 = al ∨ b4 = al)) :
    Calls Tryz.prog 67 #[.pointer (some ⟨al, 0, none⟩), .pointer (some ⟨b1, 0, none⟩), .pointer (some ⟨b2, 0, none⟩), .pointer (some ⟨b3, 0, none⟩), .pointer (some ⟨b4, 0, none⟩)] w (OwnD w D pa tx ls mk al k m (d.openF c rev now)) := by
  obtain ⟨R, hR⟩ : ∃ R, R = OwnD w D pa tx ls mk al k m (d.openF c rev now) := ⟨_, rfl⟩
  rw [← hR]
  have HR := Lib.hid hR
  have HH := Lib.hid h
  have HA := Lib.hid hA
  have HX := Lib.hid (And.intro e1 (And.intro e2 (And.intro e3 e4)))
  have HK := Lib.hid hk
  have HL := Lib.hid hlv
  have HO := Lib.hid hok
  have HC := Lib.hid hc
  have HKA := Lib.hid hka
  obtain ⟨nw, hnw⟩ : ∃ nw, nw = d.now := ⟨_, rfl⟩
  have HV := Lib.hid (fun n => rev_doc (h.drewN n))
  rw [← hnw] at HV
  have HNW := Lib.hid hnw
  have x1 := cell0 (r := []) e1
  have x2 := cell0 (r := []) e2
  clear h hR hok hlv hA e1 e2 e3 e4 hk hc hnw
  go_enter Tryz.func67, Tryz.ntmps67
  go_wp2_with fail
  go_quiet ((go_at_call 18; exact quiet_of (HV.out _)))
  obtain ⟨wq, hwq⟩ : ∃ x, x = w.drewN nq := ⟨_, rfl⟩
  rw [← hwq]
  have HBQ := Lib.hid (show Below w.heap.size w wq by rw [hwq]; exact below_drewN _ _)
  clear hwq x1 x2 HV
  by_cases hr : nw < rev
  · have z1 : decide ((rev : Int) > (nw : Int)) = true := decide_eq_true (by omega)
    have z2 : decide ((nw : Int) < (rev : Int)) = true := decide_eq_true (by omega)
    go_wp2_with fail
    rw [HR.out]
    have hE : d.openF c rev now = (d, Pl.fails 31) := by
      have h1 : d.now < rev := by rw [← HNW.out]; exact hr
      unfold Pl.Dc.openF Pl.Dc.tells
      simp only [if_pos h1]
      rfl
    rw [hE]
    exact OwnD.bad HH.out al (by decide) HBQ.out
  · have z1 : decide ((rev : Int) > (nw : Int)) = false := decide_eq_false (by omega)
    have z2 : decide ((nw : Int) < (rev : Int)) = false := decide_eq_false (by omega)
    have hq := HH.out.then_ HBQ.out
    obtain ⟨d0, d1, d2, d3, d4⟩ := hq.cells
    have x2 := cell0 (r := []) (below_old HBQ.out HX.out.2.1 (lt_of_block HX.out.2.1))
    have x3 := cell0 (r := []) (below_old HBQ.out HX.out.2.2.1 (lt_of_block HX.out.2.2.1))
    have x4 := cell0 (r := []) (below_old HBQ.out HX.out.2.2.2 (lt_of_block HX.out.2.2.2))
    have HV := Lib.hid (fun n => (hq.drewN n).live HC.out now h0)
    rw [HL.out] at HV
    clear hq
    go_wp2_with fail
    go_quiet ((go_at_call 68; exact quiet_of (HV.out _)))
    obtain ⟨wr, hwr⟩ : ∃ x, x = wq.drewN nq := ⟨_, rfl⟩
    rw [← hwr]
    have HBR := Lib.hid (show Below w.heap.size w wr by rw [hwr]; exact below_then HBQ.out (below_drewN _ _))
    clear hwr d0 d1 d2 d3 d4 x2 x3 x4 HV HBQ
    obtain ⟨lv, hlv⟩ : ∃ lv, lv = (Pl.getM d.L c).isSome := ⟨_, rfl⟩
    rw [← hlv]
    have HLV := Lib.hid hlv
    clear hlv
    have hq := HH.out.then_ HBR.out
    obtain ⟨d0, d1, d2, d3, d4⟩ := hq.cells
    have y2 := below_old HBR.out HX.out.2.1 (lt_of_block HX.out.2.1)
    have y3 := below_old HBR.out HX.out.2.2.1 (lt_of_block HX.out.2.2.1)
    have y4 := below_old HBR.out HX.out.2.2.2 (lt_of_block HX.out.2.2.2)
    have x2 := cell0 (r := []) y2
    have x3 := cell0 (r := []) y3
    have x4 := cell0 (r := []) y4
    have HS := Lib.hid (hq.drew.setLs HC.out now h0)
    obtain ⟨r, hr2⟩ : ∃ r, r = (Pl.setL d.L c now).1 := ⟨_, rfl⟩
    rw [← hr2] at HS
    have HRR := Lib.hid hr2
    have HK4 := Lib.hid (fun (wS : World) (h : Tn (fun b => k b = 6) wr.drew wS) => And.intro ((cell0 (r := []) (h.old (w := wr.drew) y2 (by rw [HK.out.1.2.1]; decide))) ) (And.intro (h.cell (p := ⟨D, 3, none⟩) (lt_of_block hq.blk) (by rw [show (⟨D, 3, none⟩ : Addr).block = D from rfl, HH.out.kD]; decide) |>.trans d3) (And.intro (cell0 (r := []) (h.old (w := wr.drew) y3 (by rw [HK.out.1.2.2.1]; decide))) (cell0 (r := []) (h.old (w := wr.drew) y4 (by rw [HK.out.1.2.2.2]; decide))))))
    clear hq y2 y3 y4 d0 d1 d2 d4 hr2
    go_wp2_with fail
    go_region_held3 (fun w' => w'.cell? ⟨b2, 0, none⟩ = some (.pointer (some ⟨D, 0, none⟩)) ∧ w'.cell? ⟨D, 3, none⟩ = some (.pointer (some ⟨ls, 0, none⟩)) ∧ w'.cell? ⟨b3, 0, none⟩ = some (.int .u32 c) ∧ w'.cell? ⟨b4, 0, none⟩ = some (.int .u64 now))
      (first | go_keep | (go_split_ands; exact HK4.out _ htS))
      (first | (go_at_call 69; refine (HS.out).mono ?_; rintro e wS ⟨rfl, hdS, htS⟩))
    have HDS := Lib.hid hdS
    have HTS := Lib.hid (show Tn (fun b => k b ≠ 0) w wS from (Tn.of (fun b => k b ≠ 0) HBR.out).trans ((Tn.of (fun b => k b ≠ 0) (below_drawn (Below.refl _ _))).trans (htS.more fun b _ e => by rw [e]; decide) (fun _ _ h => h)) (fun _ _ h => h))
    clear hdS htS HK4 HS x2 x3 x4 d3
    by_cases hrz : r = 0
    · subst hrz
      have y1 := HTS.out.old HX.out.1 (fun h => h HK.out.1.1)
      have y2 := HTS.out.old HX.out.2.1 (fun h => h HK.out.1.2.1)
      have y3 := HTS.out.old HX.out.2.2.1 (fun h => h HK.out.1.2.2.1)
      have hA9 := HA.out.tn HTS.out (fun h => h HKA.out)
      have hHRZ : ¬ (Pl.setL d.L c now).1 ≠ 0 := by rw [← HRR.out]; simp
      have HRZ := Lib.hid hHRZ
      clear hHRZ
      cases lv with
      | true =>
        have hMM : (if Pl.getM d.M c = none then Pl.putM d.M c 0 else d.M) = d.M := if_neg (fun h => by
          have h1 := (HO.out.m.who c).1 h
          have h2 := HLV.out
          rw [h1] at h2; cases h2)
        have HMM := Lib.hid hMM
        obtain ⟨d9, hd9⟩ : ∃ d9 : Pl.Dc, d9 = { d with L := (Pl.setL d.L c now).2, M := d.M } := ⟨_, rfl⟩
        have HE9 := Lib.hid hd9
        have hds := HDS.out
        have hcs : d.cs.length = d9.cs.length := by rw [hd9]
        rw [← hd9, hcs] at hds
        have HD9 := Lib.hid (And.intro hds (And.intro HTS.out hA9))
        clear hMM hA9 y3 hd9 hds hcs HDS
        go_wp2_with fail
        have x1 := cell0 (r := []) y1
        have x2 := cell0 (r := []) y2
        have HK9 := Lib.hid (fun (wT : World) (h : Tn (fun b => b = al) wS.drew wT) => And.intro (cell0 (r := []) (h.old (w := wS.drew) y1 (fun e => HK.out.2 (.inl e)))) (cell0 (r := []) (h.old (w := wS.drew) y2 (fun e => HK.out.2 (.inr (.inl e))))))
        have hr9 : ¬ d.now < rev := by rw [← HNW.out]; exact hr
        have HR9 := Lib.hid hr9
        have HFL := Lib.hid (fun wT (h : TellR wS.drew al (d.tells rev (rev == 0)) (.returned (.tuple #[])) wT) => TellR.own (w := w) HD9.out.1.drew HD9.out.2.1.drew HH.out.lt h HKA.out (by unfold Pl.Dc.tells; rw [if_neg hr9]; split <;> rfl))
        have hE : d.openF c rev now = (d9, d.tells rev (rev == 0)) := by
          unfold Pl.Dc.openF
          rw [if_neg (by unfold Pl.Dc.tells; rw [if_neg hr9]; split <;> simp), if_neg HRZ.out, HMM.out, HE9.out]
        have HE := Lib.hid hE
        clear hE hr9 y1 y2
        by_cases hz : rev = 0
        · have z5 : ((rev : Int) == 0) = true := by rw [hz]; rfl
          have z6 : decide ((rev : Int) = 0) = true := decide_eq_true (by omega)
          have z7 : decide (rev = 0) = true := decide_eq_true hz
          have hc9 : d9.cs = d.cs := by rw [HE9.out]
          have hTL := tell_whole HD9.out.1.drew (HD9.out.2.2.then_ (below_drawn (Below.refl _ _))) (rev : Int) 0 0
          rw [hc9, show (⟨0, 0, true, d.cs, [], []⟩ : Pl.An) = d.tells rev (rev == 0) by unfold Pl.Dc.tells; rw [if_neg HR9.out, if_pos (.inl (by rw [hz]; rfl))]] at hTL
          have HTL := Lib.hid hTL
          have HZ := Lib.hid hz
          clear hz hTL hc9
          go_wp2_with fail
          go_still_tail 11, (by kernel_rfl)
          change wpList _ _ _ _ _ wS.drew
          go_wp2_with fail
          refine HTL.out.mono ?_
          rintro e wT ⟨rfl, hbT, htT⟩
          have HT := Lib.hid (HFL.out wT ⟨rfl, hbT, htT⟩)
          clear hbT htT
          go_wp2_with fail
          rw [HR.out, HE.out]
          exact HT.out
        · have z5 : ((rev : Int) == 0) = false := by simp; omega
          have z6 : decide ((rev : Int) = 0) = false := decide_eq_false (by omega)
          have z7 : decide (rev = 0) = false := decide_eq_false hz
          have hFR := from_doc HD9.out.1.drew
          rw [show d9.fr = d.fr by rw [HE9.out]] at hFR
          obtain ⟨fr, hfr⟩ : ∃ fr, fr = d.fr := ⟨_, rfl⟩
          rw [← hfr] at hFR
          have HFR := Lib.hid hFR
          have HZ := Lib.hid hz
          by_cases hf : rev < fr
          · have z8 : decide ((rev : Int) < (fr : Int)) = true := decide_eq_true (by omega)
            have z9 : decide ((fr : Int) > (rev : Int)) = true := decide_eq_true (by omega)
            have hc9 : d9.cs = d.cs := by rw [HE9.out]
            have hTL := tell_whole HD9.out.1.drew (HD9.out.2.2.then_ (below_drawn (Below.refl _ _))) (rev : Int) 0 0
            rw [hc9, show (⟨0, 0, true, d.cs, [], []⟩ : Pl.An) = d.tells rev (rev == 0) by unfold Pl.Dc.tells; rw [if_neg HR9.out, if_pos (.inr (by rw [← hfr]; exact hf))]] at hTL
            have HTL := Lib.hid hTL
            clear hz hTL hc9 hfr hFR
            go_wp2_with fail
            go_region_held3 (fun w' => w'.cell? ⟨b1, 0, none⟩ = some (.int .u64 (rev : Int)) ∧ w'.cell? ⟨b2, 0, none⟩ = some (.pointer (some ⟨D, 0, none⟩)))
              (first | go_keep | (go_split_ands; exact HK9.out _ htT))
              (first | (go_at_call 27; refine HFR.out.mono ?_; rintro e wF ⟨rfl, rfl⟩) | (go_at_call 71; refine HTL.out.mono ?_; rintro e wT ⟨rfl, hbT, htT⟩))
            have HT := Lib.hid (HFL.out wT ⟨rfl, hbT, htT⟩)
            clear hbT htT
            go_wp2_with fail
            rw [HR.out, HE.out]
            exact HT.out
          · have z8 : decide ((rev : Int) < (fr : Int)) = false := decide_eq_false (by omega)
            have z9 : decide ((fr : Int) > (rev : Int)) = false := decide_eq_false (by omega)
            have hc9 : d9.later rev = d.later rev := by rw [HE9.out]; rfl
            have hTL := tell_ops HD9.out.1.drew (HD9.out.2.2.then_ (below_drawn (Below.refl _ _))) rev (by rw [HE9.out]; show d.fr ≤ rev; omega) (by have h9 := HR9.out; rw [HE9.out]; show rev ≤ d.now; omega) 0 0
            rw [hc9, show (⟨0, 0, false, [], d.later rev, []⟩ : Pl.An) = d.tells rev (rev == 0) by unfold Pl.Dc.tells; rw [if_neg HR9.out, if_neg (by rw [← hfr]; simp [hz, hf])]] at hTL
            have HTL := Lib.hid hTL
            clear hz hTL hc9 hfr hFR
            go_wp2_with fail
            go_region_held3 (fun w' => w'.cell? ⟨b1, 0, none⟩ = some (.int .u64 (rev : Int)) ∧ w'.cell? ⟨b2, 0, none⟩ = some (.pointer (some ⟨D, 0, none⟩)))
              (first | go_keep | (go_split_ands; exact HK9.out _ htT))
              (first | (go_at_call 27; refine HFR.out.mono ?_; rintro e wF ⟨rfl, rfl⟩) | (go_at_call 71; refine HTL.out.mono ?_; rintro e wT ⟨rfl, hbT, htT⟩))
            have HT := Lib.hid (HFL.out wT ⟨rfl, hbT, htT⟩)
            clear hbT htT
            go_wp2_with fail
            rw [HR.out, HE.out]
            exact HT.out
      | false =>
        have hgn : Pl.getM d.M c = none := (HO.out.m.who c).2 (by
          have h2 := HLV.out
          cases h : Pl.getM d.L c with
          | none => rfl
          | some v => rw [h] at h2; cases h2)
        have hMM : (if Pl.getM d.M c = none then Pl.putM d.M c 0 else d.M) = Pl.putM d.M c 0 := if_pos hgn
        have HMM := Lib.hid hMM
        have HMK := Lib.hid (HDS.out.drew.setMk (c := c) (v := 0) HC.out ⟨Int.le_refl _, Int.natCast_nonneg _⟩)
        obtain ⟨d0, d1, d2, d3, d4⟩ := HDS.out.cells
        have x2 := cell0 (r := []) y2
        have x3 := cell0 (r := []) y3
        have HK8 := Lib.hid (fun (wM : World) (h : Tn (fun b => k b = 8) wS.drew wM) => And.intro ((cell0 (r := []) (h.old (w := wS.drew) y2 (by rw [HK.out.1.2.1]; decide)))) (And.intro (h.cell (p := ⟨D, 4, none⟩) (lt_of_block HDS.out.blk) (by rw [show (⟨D, 4, none⟩ : Addr).block = D from rfl, HH.out.kD]; decide) |>.trans d4) (cell0 (r := []) (h.old (w := wS.drew) y3 (by rw [HK.out.1.2.2.1]; decide)))))
        clear hMM hgn d0 d1 d2 d3
        go_wp2_with fail
        go_region_held3 (fun w' => w'.cell? ⟨b2, 0, none⟩ = some (.pointer (some ⟨D, 0, none⟩)) ∧ w'.cell? ⟨D, 4, none⟩ = some (.pointer (some ⟨mk, 0, none⟩)) ∧ w'.cell? ⟨b3, 0, none⟩ = some (.int .u32 c))
          (first | go_keep | (go_split_ands; exact HK8.out _ htM))
          (first | (go_at_call 70; refine (HMK.out).mono ?_; rintro e wM ⟨rfl, hdM, htM⟩))
        obtain ⟨d9, hd9⟩ : ∃ d9 : Pl.Dc, d9 = { d with L := (Pl.setL d.L c now).2, M := Pl.putM d.M c 0 } := ⟨_, rfl⟩
        have HE9 := Lib.hid hd9
        have htm : Tn (fun b => k b ≠ 0) w wM := HTS.out.trans ((Tn.of (fun b => k b ≠ 0) (below_drawn (Below.refl _ _))).trans (htM.more fun b _ e => by rw [e]; decide) (fun _ _ h => h)) (fun _ _ h => h)
        have hcs : d.cs.length = d9.cs.length := by rw [hd9]
        rw [show ({ d with L := (Pl.setL d.L c now).2, M := Pl.putM d.M c 0 } : Pl.Dc) = d9 from hd9.symm, hcs] at hdM
        have HD9 := Lib.hid (And.intro hdM (And.intro htm (HA.out.tn htm (fun h => h HKA.out))))
        clear y1 y2 y3 x2 x3 d4 HK8 HMK
        have y1 := htm.old HX.out.1 (fun h => h HK.out.1.1)
        have y2 := htm.old HX.out.2.1 (fun h => h HK.out.1.2.1)
        clear hd9 hdM hcs htm htM HDS HTS
        go_wp2_with fail
        have x1 := cell0 (r := []) y1
        have x2 := cell0 (r := []) y2
        have HK9 := Lib.hid (fun (wT : World) (h : Tn (fun b => b = al) wM.drew wT) => And.intro (cell0 (r := []) (h.old (w := wM.drew) y1 (fun e => HK.out.2 (.inl e)))) (cell0 (r := []) (h.old (w := wM.drew) y2 (fun e => HK.out.2 (.inr (.inl e))))))
        have hr9 : ¬ d.now < rev := by rw [← HNW.out]; exact hr
        have HR9 := Lib.hid hr9
        have HFL := Lib.hid (fun wT (h : TellR wM.drew al (d.tells rev (rev == 0)) (.returned (.tuple #[])) wT) => TellR.own (w := w) HD9.out.1.drew HD9.out.2.1.drew HH.out.lt h HKA.out (by unfold Pl.Dc.tells; rw [if_neg hr9]; split <;> rfl))
        have hE : d.openF c rev now = (d9, d.tells rev (rev == 0)) := by
          unfold Pl.Dc.openF
          rw [if_neg (by unfold Pl.Dc.tells; rw [if_neg hr9]; split <;> simp), if_neg HRZ.out, HMM.out, HE9.out]
        have HE := Lib.hid hE
        clear hE hr9 y1 y2
        by_cases hz : rev = 0
        · have z5 : ((rev : Int) == 0) = true := by rw [hz]; rfl
          have z6 : decide ((rev : Int) = 0) = true := decide_eq_true (by omega)
          have z7 : decide (rev = 0) = true := decide_eq_true hz
          have hc9 : d9.cs = d.cs := by rw [HE9.out]
          have hTL := tell_whole HD9.out.1.drew (HD9.out.2.2.then_ (below_drawn (Below.refl _ _))) (rev : Int) 0 0
          rw [hc9, show (⟨0, 0, true, d.cs, [], []⟩ : Pl.An) = d.tells rev (rev == 0) by unfold Pl.Dc.tells; rw [if_neg HR9.out, if_pos (.inl (by rw [hz]; rfl))]] at hTL
          have HTL := Lib.hid hTL
          have HZ := Lib.hid hz
          clear hz hTL hc9
          go_wp2_with fail
          go_still_tail 11, (by kernel_rfl)
          change wpList _ _ _ _ _ wM.drew
          go_wp2_with fail
          refine HTL.out.mono ?_
          rintro e wT ⟨rfl, hbT, htT⟩
          have HT := Lib.hid (HFL.out wT ⟨rfl, hbT, htT⟩)
          clear hbT htT
          go_wp2_with fail
          rw [HR.out, HE.out]
          exact HT.out
        · have z5 : ((rev : Int) == 0) = false := by simp; omega
          have z6 : decide ((rev : Int) = 0) = false := decide_eq_false (by omega)
          have z7 : decide (rev = 0) = false := decide_eq_false hz
          have hFR := from_doc HD9.out.1.drew
          rw [show d9.fr = d.fr by rw [HE9.out]] at hFR
          obtain ⟨fr, hfr⟩ : ∃ fr, fr = d.fr := ⟨_, rfl⟩
          rw [← hfr] at hFR
          have HFR := Lib.hid hFR
          have HZ := Lib.hid hz
          by_cases hf : rev < fr
          · have z8 : decide ((rev : Int) < (fr : Int)) = true := decide_eq_true (by omega)
            have z9 : decide ((fr : Int) > (rev : Int)) = true := decide_eq_true (by omega)
            have hc9 : d9.cs = d.cs := by rw [HE9.out]
            have hTL := tell_whole HD9.out.1.drew (HD9.out.2.2.then_ (below_drawn (Below.refl _ _))) (rev : Int) 0 0
            rw [hc9, show (⟨0, 0, true, d.cs, [], []⟩ : Pl.An) = d.tells rev (rev == 0) by unfold Pl.Dc.tells; rw [if_neg HR9.out, if_pos (.inr (by rw [← hfr]; exact hf))]] at hTL
            have HTL := Lib.hid hTL
            clear hz hTL hc9 hfr hFR
            go_wp2_with fail
            go_region_held3 (fun w' => w'.cell? ⟨b1, 0, none⟩ = some (.int .u64 (rev : Int)) ∧ w'.cell? ⟨b2, 0, none⟩ = some (.pointer (some ⟨D, 0, none⟩)))
              (first | go_keep | (go_split_ands; exact HK9.out _ htT))
              (first | (go_at_call 27; refine HFR.out.mono ?_; rintro e wF ⟨rfl, rfl⟩) | (go_at_call 71; refine HTL.out.mono ?_; rintro e wT ⟨rfl, hbT, htT⟩))
            have HT := Lib.hid (HFL.out wT ⟨rfl, hbT, htT⟩)
            clear hbT htT
            go_wp2_with fail
            rw [HR.out, HE.out]
            exact HT.out
          · have z8 : decide ((rev : Int) < (fr : Int)) = false := decide_eq_false (by omega)
            have z9 : decide ((fr : Int) > (rev : Int)) = false := decide_eq_false (by omega)
            have hc9 : d9.later rev = d.later rev := by rw [HE9.out]; rfl
            have hTL := tell_ops HD9.out.1.drew (HD9.out.2.2.then_ (below_drawn (Below.refl _ _))) rev (by rw [HE9.out]; show d.fr ≤ rev; omega) (by have h9 := HR9.out; rw [HE9.out]; show rev ≤ d.now; omega) 0 0
            rw [hc9, show (⟨0, 0, false, [], d.later rev, []⟩ : Pl.An) = d.tells rev (rev == 0) by unfold Pl.Dc.tells; rw [if_neg HR9.out, if_neg (by rw [← hfr]; simp [hz, hf])]] at hTL
            have HTL := Lib.hid hTL
            clear hz hTL hc9 hfr hFR
            go_wp2_with fail
            go_region_held3 (fun w' => w'.cell? ⟨b1, 0, none⟩ = some (.int .u64 (rev : Int)) ∧ w'.cell? ⟨b2, 0, none⟩ = some (.pointer (some ⟨D, 0, none⟩)))
              (first | go_keep | (go_split_ands; exact HK9.out _ htT))
              (first | (go_at_call 27; refine HFR.out.mono ?_; rintro e wF ⟨rfl, rfl⟩) | (go_at_call 71; refine HTL.out.mono ?_; rintro e wT ⟨rfl, hbT, htT⟩))
            have HT := Lib.hid (HFL.out wT ⟨rfl, hbT, htT⟩)
            clear hbT htT
            go_wp2_with fail
            rw [HR.out, HE.out]
            exact HT.out
    · have z3 : (r != 0) = true := by simpa using hrz
      have z4 : decide (r ≠ 0) = true := decide_eq_true hrz
      go_wp2_with fail
      rw [HR.out]
      have hrz2 : (Pl.setL d.L c now).1 ≠ 0 := by rw [← HRR.out]; exact hrz
      have hE : d.openF c rev now = (d, Pl.fails r) := by
        unfold Pl.Dc.openF
        rw [if_neg, if_pos hrz2, HRR.out]
        unfold Pl.Dc.tells
        rw [if_neg (show ¬ d.now < rev by rw [← HNW.out]; exact hr)]
        split <;> simp
      have hd := HDS.out
      rw [Pl.setL_err hrz2] at hd
      rw [hE]
      exact ⟨k, m, rfl, hd, Nat.le_add_right _ _, HTS.out.more fun b _ h => Or.inl h, fun _ _ => rfl, fun h => absurd h hrz⟩
end
end Go.Proofs.YtldmnkakpmplnaaGreat
