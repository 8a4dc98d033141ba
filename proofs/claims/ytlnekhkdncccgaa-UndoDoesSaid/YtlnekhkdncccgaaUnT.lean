/-
  The document's own Long, Apply of one unit, Fill, Inverse, Back (layers 7, 9). Conditions: rows of at most a hundred units, texts of at most five hundred code points.
-/
import Derived.Test.YtlnekhkdncccgaaUnS
namespace Go.Proofs.Ytlnekhkdncccgaa
open Go.RowKit
open Pl (Un)

/-- between one unit and the next: what is left to do -/
def LdR (w : World) (l : List Un) (N : Nat) (s i : Value) (wr : World) : Prop := ∃ j n : Nat, i = .int .i64 (j : Int) ∧ s = .int .i64 (n : Int) ∧ j ≤ l.length ∧ Pl.goL l (N : Int) = Pl.goL (l.drop j) (n : Int) ∧ n ≤ N + j ∧ Below w.heap.size w wr
theorem fit_two {u : Un} {n : Nat} (h : Pl.Fit u (n : Int)) (hk : u.k = 2) : 1 ≤ n := by
  rcases Pl.fit_cases h with ⟨x, y, rfl⟩ | ⟨p, c, x, y, rfl, hp, _⟩ | ⟨p, c, x, y, rfl, hp, _⟩
  · cases hk
  · cases hk
  · omega
set_option maxRecDepth 100000 in
set_option maxHeartbeats 1000000 in
theorem long6_any (A : Option Addr) (m c : Nat) (l : List Un) (N : Nat) (w : World) (h1 : Uns w w.heap.size A m c l) (hm : m ≤ 1000) (hN : N ≤ 100000) :
    Calls Try.prog 37 #[.slice A m c, .int .i64 (N : Int)] w fun e w' => e = .returned (.tuple #[.int .i64 (Pl.longL l (N : Int)).1, .int .i64 (Pl.longL l (N : Int)).2]) ∧ Below w.heap.size w w' := by
  have HL := Lib.hid h1.len
  have H1 := Lib.hid h1
  clear h1
  obtain ⟨ra, hra⟩ : ∃ r, r = (Pl.longL l (N : Int)).1 := ⟨_, rfl⟩
  obtain ⟨rb, hrb⟩ : ∃ r, r = (Pl.longL l (N : Int)).2 := ⟨_, rfl⟩
  rw [← hra, ← hrb]
  have HRA := Lib.hid hra
  have HRB := Lib.hid hrb
  clear hra hrb
  have z0 : (0 : Int) ≤ (N : Int) := Int.natCast_nonneg N
  have z00 : ¬ (N : Int) < 0 := Int.not_lt.2 z0
  go_enter Try.func37, Try.ntmps37
  go_wp2_with fail
  clear z0 z00
  go_loopw [6] (fun i wr => IxR w l i wr) (fun i _ => m - (intOf i).toNat)
  case atStart => exact ⟨0, rfl, Nat.zero_le _, (fun u hu => by simp at hu), Below.refl _ _⟩
  case round =>
    obtain ⟨j, rfl, hj, hs, hb⟩ := hrel
    have HB := Lib.hid hb
    have HS := Lib.hid hs
    rw [HL.out] at hj
    clear hb hs
    by_cases hlt : j < m
    · obtain ⟨g1, o1, rfl, _, hc1⟩ := Uns.at_ (Rws.below H1.out HB.out (Nat.le_refl _)) hlt
      obtain ⟨a0, a1, a2, a3, a4⟩ := hc1 j hlt
      have hjl : j < l.length := by rw [HL.out]; exact hlt
      have HME := Lib.hid (mem_getD hjl)
      obtain ⟨u, hu⟩ : ∃ u, u = l.getD j default := ⟨_, rfl⟩
      rw [← hu] at a0 a1 a2 a3 a4 HME
      have HM := fun w => Lib.hid (okay6_any u w)
      have HY := Lib.hid (show Pl.Okay u → ∀ v ∈ l.take (j + 1), Pl.Okay v from fun h => mem_take_getD HS.out hjl (by rw [← hu]; exact h))
      obtain ⟨k, p, ch, x, y⟩ := u
      simp only at a0 a1 a2 a3 a4
      have z0 : (0 : Int) ≤ (j : Int) := Int.natCast_nonneg j
      have z1 : (j : Int) < (m : Int) := Int.ofNat_lt.2 hlt
      have HMS := Lib.hid (show m - (j + 1) < m - j by omega)
      have HJ1 := Lib.hid (show j + 1 ≤ l.length from hjl)
      clear hc1 hu
      unfold uval at HM
      simp only at HM
      by_cases hO : Pl.Okay ⟨k, p, ch, x, y⟩
      · simp only [decide_eq_true hO] at HM
        have HY2 := Lib.hid (HY.out hO)
        clear hO HY
        go_wp2_with fail
        refine (HM _).out.mono ?_
        rintro e w2 ⟨rfl, hb2⟩
        have HB2 := Lib.hid (below_then' HB.out hb2 HB.out.size)
        clear hb2 a0 a1 a2 a3 a4
        go_wp2_with fail
        go_roundw
        case rel => exact ⟨j + 1, by go_num, HJ1.out, HY2.out, HB2.out⟩
        case measure => simp [intOf]; exact HMS.out
      · simp only [decide_eq_false hO] at HM
        have HE := Lib.hid (show Pl.longL l (N : Int) = (0, 1) by unfold Pl.longL; rw [if_neg]; exact fun h => hO (h.2 _ HME.out))
        clear hO HY
        go_wp2_with fail
        refine (HM _).out.mono ?_
        rintro e w2 ⟨rfl, hb2⟩
        have HB2 := Lib.hid (below_then' HB.out hb2 HB.out.size)
        clear hb2 a0 a1 a2 a3 a4
        go_wp2_with fail
        go_returns
        exact ⟨by rw [HRA.out, HRB.out, HE.out]; rfl, HB2.out⟩
    · have hjn : j = m := by omega
      have hok : ∀ u ∈ l, Pl.Okay u := by
        have := HS.out
        rwa [List.take_of_length_le (by rw [HL.out]; omega)] at this
      have HE := Lib.hid (show Pl.longL l (N : Int) = Pl.goL l (N : Int) by unfold Pl.longL; rw [if_pos ⟨by omega, hok⟩])
      have HR2 := Lib.hid (show LdR w l N (.int .i64 (N : Int)) (.int .i64 ((0 : Nat) : Int)) wr from ⟨0, N, rfl, rfl, Nat.zero_le _, rfl, by omega, HB.out⟩)
      clear hok HS
      go_wp2_with fail
      clear hjn hlt hj HB
      go_loopw [1, 7] (fun s i wr => LdR w l N s i wr) (fun _ i _ => m - (intOf i).toNat)
      case atStart => exact HR2.out
      case round =>
        obtain ⟨j, n, rfl, rfl, hj, hg, hn2, hb⟩ := hrel
        have HB := Lib.hid hb
        have HG := Lib.hid hg
        rw [HL.out] at hj
        clear hb hg HR2
        by_cases hlt : j < m
        · obtain ⟨g1, o1, rfl, _, hc1⟩ := Uns.at_ (Rws.below H1.out HB.out (Nat.le_refl _)) hlt
          obtain ⟨a0, a1, a2, a3, a4⟩ := hc1 j hlt
          have hjl : j < l.length := by rw [HL.out]; exact hlt
          obtain ⟨u, hu⟩ : ∃ u, u = l.getD j default := ⟨_, rfl⟩
          rw [← hu] at a0 a1 a2 a3 a4
          have HD := Lib.hid (show l.drop j = u :: l.drop (j + 1) from by rw [hu, List.getD_eq_getElem?_getD, List.getElem?_eq_getElem hjl]; exact List.drop_eq_getElem_cons hjl)
          have HF := fun w => Lib.hid (fits6_any u n w)
          have HST := Lib.hid (show Pl.Fit u n → Pl.goL l (N : Int) = Pl.goL (l.drop (j + 1)) ((n : Int) + Pl.grows u.k) from fun h => by
            rw [HG.out, HD.out]; exact if_pos h)
          have HNF := Lib.hid (show ¬ Pl.Fit u n → Pl.goL l (N : Int) = (0, 30) from fun h => by
            rw [HG.out, HD.out]; exact if_neg h)
          have HU := Lib.hid hu
          obtain ⟨k, p, ch, x, y⟩ := u
          simp only at a0 a1 a2 a3 a4
          have z0 : (0 : Int) ≤ (j : Int) := Int.natCast_nonneg j
          have z1 : (j : Int) < (m : Int) := Int.ofNat_lt.2 hlt
          have HMS := Lib.hid (show m - (j + 1) < m - j by omega)
          have HJ1 := Lib.hid (show j + 1 ≤ l.length from hjl)
          clear hc1 hu HD
          unfold uval at HF
          simp only at HF
          by_cases hfit : Pl.Fit ⟨k, p, ch, x, y⟩ n
          · simp only [decide_eq_true hfit] at HF
            have hkk : k = 0 ∨ k = 1 ∨ k = 2 := by rcases hfit.1 with ⟨h, _⟩ | ⟨h | h, _⟩ <;> (simp only at h; omega)
            have hn1 : k = 2 → 1 ≤ n := fun h => fit_two hfit h
            rcases hkk with hk | hk | hk
            · subst hk
              have HS2 := Lib.hid (show Pl.goL l (N : Int) = Pl.goL (l.drop (j + 1)) ((n : Nat) : Int) from by
                have h := HST.out hfit
                have e : (n : Int) + Pl.grows 0 = ((n : Nat) : Int) := by rw [show Pl.grows 0 = 0 from by decide]; omega
                rw [← e]; exact h)
              clear hfit
              go_wp2_with fail
              refine (HF _).out.mono ?_
              rintro e w2 ⟨rfl, hb2⟩
              have HB2 := Lib.hid (below_then' HB.out hb2 HB.out.size)
              obtain ⟨g2, o2, e2, _, hc2⟩ := Uns.at_ (Rws.below H1.out HB2.out (Nat.le_refl _)) hlt
              cases e2
              obtain ⟨b0, _⟩ := hc2 j hlt
              rw [← HU.out] at b0
              simp only at b0
              clear hb2 a0 a1 a2 a3 a4 hc2
              go_wp2_with fail
              go_roundw
              case rel => exact ⟨j + 1, n, by go_num, by go_num, HJ1.out, HS2.out, by omega, HB2.out⟩
              case measure => simp [intOf]; exact HMS.out
            · subst hk
              have hw1 : wrap64 ((n : Int) + 1) = ((n + 1 : Nat) : Int) := by unfold wrap64; omega
              have HS2 := Lib.hid (show Pl.goL l (N : Int) = Pl.goL (l.drop (j + 1)) (((n+1) : Nat) : Int) from by
                have h := HST.out hfit
                have e : (n : Int) + Pl.grows 1 = (((n+1) : Nat) : Int) := by rw [show Pl.grows 1 = 1 from by decide]; omega
                rw [← e]; exact h)
              clear hfit
              go_wp2_with fail
              refine (HF _).out.mono ?_
              rintro e w2 ⟨rfl, hb2⟩
              have HB2 := Lib.hid (below_then' HB.out hb2 HB.out.size)
              obtain ⟨g2, o2, e2, _, hc2⟩ := Uns.at_ (Rws.below H1.out HB2.out (Nat.le_refl _)) hlt
              cases e2
              obtain ⟨b0, _⟩ := hc2 j hlt
              rw [← HU.out] at b0
              simp only at b0
              clear hb2 a0 a1 a2 a3 a4 hc2
              go_wp2_with fail
              go_roundw
              case rel => exact ⟨j + 1, (n+1), by go_num, by go_num, HJ1.out, HS2.out, by omega, HB2.out⟩
              case measure => simp [intOf]; exact HMS.out
            · subst hk
              have hn3 := hn1 rfl
              have hw1 : wrap64 ((n : Int) - 1) = ((n - 1 : Nat) : Int) := by unfold wrap64; omega
              have HS2 := Lib.hid (show Pl.goL l (N : Int) = Pl.goL (l.drop (j + 1)) (((n-1) : Nat) : Int) from by
                have h := HST.out hfit
                have e : (n : Int) + Pl.grows 2 = (((n-1) : Nat) : Int) := by rw [show Pl.grows 2 = (-1) from by decide]; omega
                rw [← e]; exact h)
              clear hfit
              go_wp2_with fail
              refine (HF _).out.mono ?_
              rintro e w2 ⟨rfl, hb2⟩
              have HB2 := Lib.hid (below_then' HB.out hb2 HB.out.size)
              obtain ⟨g2, o2, e2, _, hc2⟩ := Uns.at_ (Rws.below H1.out HB2.out (Nat.le_refl _)) hlt
              cases e2
              obtain ⟨b0, _⟩ := hc2 j hlt
              rw [← HU.out] at b0
              simp only at b0
              clear hb2 a0 a1 a2 a3 a4 hc2
              go_wp2_with fail
              go_roundw
              case rel => exact ⟨j + 1, (n-1), by go_num, by go_num, HJ1.out, HS2.out, by omega, HB2.out⟩
              case measure => simp [intOf]; exact HMS.out
          · simp only [decide_eq_false hfit] at HF
            have HS2 := Lib.hid (HNF.out hfit)
            clear hfit
            go_wp2_with fail
            refine (HF _).out.mono ?_
            rintro e w2 ⟨rfl, hb2⟩
            have HB2 := Lib.hid (below_then' HB.out hb2 HB.out.size)
            clear hb2 a0 a1 a2 a3 a4
            go_wp2_with fail
            go_returns
            exact ⟨by rw [HRA.out, HRB.out, HE.out, HS2.out]; rfl, HB2.out⟩
        · have HE2 := Lib.hid (show Pl.goL l (N : Int) = ((n : Int), 0) from by rw [HG.out, List.drop_of_length_le (by rw [HL.out]; omega)]; rfl)
          go_wp2_with fail
          go_returns
          exact ⟨by rw [HRA.out, HRB.out, HE.out, HE2.out]; rfl, HB.out⟩
end Go.Proofs.Ytlnekhkdncccgaa
