/-
  weave.Long: how long a text is behind a row. Conditions: rows of at most a thousand units; a length of at most a million.
-/
import Derived.Test.YtfjnliebgndemaaWvC
namespace Go.Proofs.Ytfjnliebgndemaa
open Go.RowKit
open Pl (Un)

namespace Pl
/-- unit by unit -/
def goL : List Un → Int → Int × Int
  | [], n => (n, 0)
  | u :: r, n => if Fit u n then goL r (n + grows u.k) else (0, 30)
def longL (row : List Un) (n : Int) : Int × Int := if 0 ≤ n ∧ ∀ u ∈ row, Okay u then goL row n else (0, 1)
theorem grows_le (k : Int) : -1 ≤ grows k ∧ grows k ≤ 1 := by unfold grows; split <;> (try split) <;> omega
theorem goL_fit : ∀ (row : List Un) (cs : List Int), FitR row cs → goL row cs.length = (((leave row cs).length : Int), 0)
  | [], _, _ => rfl
  | u :: r, cs, h => by
    show (if Fit u cs.length then goL r ((cs.length : Int) + grows u.k) else ((0 : Int), (30 : Int))) = _
    rw [if_pos h.1, ← len_behind h.1]
    exact goL_fit r (behind u cs) h.2
theorem fitR_okay : ∀ (row : List Un) (cs : List Int), FitR row cs → ∀ u ∈ row, Okay u
  | [], _, _ => fun _ h => by cases h
  | u :: r, cs, h => fun v hv => by
    rcases List.mem_cons.1 hv with rfl | hv
    · exact h.1.1
    · exact fitR_okay r _ h.2 v hv
theorem longL_fit {row : List Un} {cs : List Int} (h : FitR row cs) : longL row cs.length = (((leave row cs).length : Int), 0) := by
  unfold longL
  rw [if_pos ⟨by omega, fitR_okay row cs h⟩, goL_fit row cs h]
end Pl
theorem mem_take_getD {l : List Un} {P : Un → Prop} {j : Nat} (h : ∀ u ∈ l.take j, P u) (hj : j < l.length) (hp : P (l.getD j default)) : ∀ u ∈ l.take (j + 1), P u := by
  intro u hu
  rw [List.take_add_one, getD_of_get hj] at hu
  rcases List.mem_append.1 hu with hu | hu
  · exact h u hu
  · simp at hu; rw [hu]; exact hp
theorem mem_getD {l : List Un} {j : Nat} (hj : j < l.length) : l.getD j default ∈ l := by
  rw [List.getD_eq_getElem?_getD, List.getElem?_eq_getElem hj]; exact List.getElem_mem hj
set_option maxRecDepth 100000 in
set_option maxHeartbeats 400000 in
theorem mayNot_any (u : Un) (w : World) :
    Calls Try.prog 24 #[uval u] w fun e w' => e = .returned (.bool (!decide (Pl.Okay u))) ∧ Below w.heap.size w w' := by
  obtain ⟨k, p, c, x, y⟩ := u
  have HM := fun w => Lib.hid (okay_any ⟨k, p, c, x, y⟩ w)
  obtain ⟨r, hr⟩ : ∃ r, r = decide (Pl.Okay ⟨k, p, c, x, y⟩) := ⟨_, rfl⟩
  rw [← hr] at HM ⊢
  clear hr
  unfold uval at *
  simp only at *
  go_enter Try.func24, Try.ntmps24
  go_wp2_with fail
  refine (HM _).out.mono ?_
  rintro e w' ⟨rfl, hb⟩
  have HB := Lib.hid (below_on hb)
  clear hb
  go_wp2_with fail
  go_ret
  exact ⟨rfl, HB.out⟩
def IxR (w : World) (l : List Un) (i : Value) (wr : World) : Prop := ∃ j : Nat, i = .int .i64 (j : Int) ∧ j ≤ l.length ∧ (∀ u ∈ l.take j, Pl.Okay u) ∧ Below w.heap.size w wr
set_option maxRecDepth 100000 in
set_option maxHeartbeats 400000 in
theorem indexF_any (A : Option Addr) (n c : Nat) (l : List Un) (w : World) (h1 : Uns w w.heap.size A n c l) :
    Calls Try.prog 36 #[.slice A n c, .func (.func 24) #[] #[]] w fun e w' => ∃ r : Int, e = .returned (.int .i64 r) ∧ (0 ≤ r ↔ ¬ ∀ u ∈ l, Pl.Okay u) ∧ Below w.heap.size w w' := by
  have hcap1 := h1.cap
  have hle1 := h1.le
  unfold maxLen at hcap1
  have HL := Lib.hid h1.len
  have H1 := Lib.hid h1
  clear h1
  go_enter Try.func36, Try.ntmps36
  go_wp2_with fail
  go_loopw [8] (fun i wr => IxR w l i wr) (fun i _ => n - (intOf i).toNat)
  case atStart => exact ⟨0, rfl, Nat.zero_le _, (fun u hu => by simp at hu), Below.refl _ _⟩
  case round =>
    obtain ⟨j, rfl, hj, hs, hb⟩ := hrel
    have HB := Lib.hid hb
    have HS := Lib.hid hs
    rw [HL.out] at hj
    clear hb hs
    by_cases hlt : j < n
    · obtain ⟨g1, o1, rfl, hg1, hc1⟩ := Uns.at_ (Rws.below H1.out HB.out (Nat.le_refl _)) hlt
      obtain ⟨a0, a1, a2, a3, a4⟩ := hc1 j hlt
      have hjl : j < l.length := by rw [HL.out]; exact hlt
      obtain ⟨u, hu⟩ : ∃ u, u = l.getD j default := ⟨_, rfl⟩
      rw [← hu] at a0 a1 a2 a3 a4
      have HM := Lib.hid (mayNot_any u wr)
      have HY := Lib.hid (show Pl.Okay u → ∀ v ∈ l.take (j + 1), Pl.Okay v from fun h => mem_take_getD HS.out hjl (by rw [← hu]; exact h))
      have HN := Lib.hid (show ¬ Pl.Okay u → ¬ ∀ v ∈ l, Pl.Okay v from fun h h2 => h (h2 u (by rw [hu]; exact mem_getD hjl)))
      obtain ⟨k, p, ch, x, y⟩ := u
      simp only at a0 a1 a2 a3 a4
      have z0 : (0 : Int) ≤ (j : Int) := by omega
      have z1 : (j : Int) < (n : Int) := by omega
      clear hc1 hu
      unfold uval at HM
      simp only at HM
      by_cases hO : Pl.Okay ⟨k, p, ch, x, y⟩
      · rw [decide_eq_true hO] at HM
        have HY2 := Lib.hid (HY.out hO)
        clear hO
        go_wp2_with fail
        refine HM.out.mono ?_
        rintro e w' ⟨rfl, hb⟩
        have HB2 := Lib.hid (below_then' HB.out hb HB.out.size)
        clear hb a0 a1 a2 a3 a4
        go_wp2_with fail
        go_roundw
        case rel => exact ⟨j + 1, by go_num, by rw [HL.out]; omega, HY2.out, HB2.out⟩
        case measure => simp [intOf]; omega
      · rw [decide_eq_false hO] at HM
        have HN2 := Lib.hid (HN.out hO)
        clear hO
        go_wp2_with fail
        refine HM.out.mono ?_
        rintro e w' ⟨rfl, hb⟩
        have HB2 := Lib.hid (below_then' HB.out hb HB.out.size)
        clear hb a0 a1 a2 a3 a4
        go_wp2_with fail
        go_ret
        exact ⟨_, rfl, ⟨fun _ => HN2.out, fun _ => by omega⟩, HB2.out⟩
    · have hjn : j = n := by omega
      have HE := Lib.hid (show ∀ u ∈ l, Pl.Okay u from by
        have := HS.out
        rw [List.take_of_length_le (by rw [HL.out]; omega)] at this
        exact this)
      clear hjn
      go_wp2_with fail
      go_ret
      exact ⟨_, rfl, ⟨fun h => by omega, fun h => absurd HE.out h⟩, HB.out⟩
set_option maxRecDepth 100000 in
set_option maxHeartbeats 400000 in
theorem contains_any (A : Option Addr) (n c : Nat) (l : List Un) (w : World) (h1 : Uns w w.heap.size A n c l) :
    Calls Try.prog 26 #[.slice A n c, .func (.func 24) #[] #[]] w fun e w' => e = .returned (.bool (decide (¬ ∀ u ∈ l, Pl.Okay u))) ∧ Below w.heap.size w w' := by
  have H1 := Lib.hid (indexF_any A n c l w h1)
  clear h1
  go_enter Try.func26, Try.ntmps26
  go_wp2_with fail
  refine H1.out.mono ?_
  rintro e w' ⟨r, rfl, hr, hb⟩
  have HR := Lib.hid hr
  have HB := Lib.hid hb
  clear hr hb
  go_wp2_with fail
  go_ret
  refine ⟨ret_bool ?_, HB.out⟩
  rw [Bool.eq_iff_iff]
  simp only [decide_eq_true_iff]
  exact HR.out
/-- between one unit and the next: what is left to do -/
def LoR (w : World) (l : List Un) (N : Int) (s i : Value) (wr : World) : Prop := ∃ (j : Nat) (n : Int), i = .int .i64 (j : Int) ∧ s = .int .i64 n ∧ j ≤ l.length ∧ Pl.goL l N = Pl.goL (l.drop j) n ∧ N - j ≤ n ∧ n ≤ N + j ∧ Below w.heap.size w wr
set_option maxRecDepth 100000 in
set_option maxHeartbeats 400000 in
theorem long_any (A : Option Addr) (m c : Nat) (l : List Un) (N : Int) (w : World) (h1 : Uns w w.heap.size A m c l) (hm : m ≤ 1000) (hN : N ≤ 1000000) :
    Calls Try.prog 14 #[.slice A m c, .int .i64 N] w fun e w' => e = .returned (.tuple #[.int .i64 (Pl.longL l N).1, .int .i64 (Pl.longL l N).2]) ∧ Below w.heap.size w w' := by
  have HL := Lib.hid h1.len
  have H1 := Lib.hid h1
  have HC := Lib.hid (contains_any A m c l w h1)
  clear h1
  obtain ⟨ra, hra⟩ : ∃ r, r = (Pl.longL l N).1 := ⟨_, rfl⟩
  obtain ⟨rb, hrb⟩ : ∃ r, r = (Pl.longL l N).2 := ⟨_, rfl⟩
  rw [← hra, ← hrb]
  have HRA := Lib.hid hra
  have HRB := Lib.hid hrb
  clear hra hrb
  by_cases h0 : N < 0
  · have HE := Lib.hid (show Pl.longL l N = (0, 1) by unfold Pl.longL; rw [if_neg]; omega)
    rw [HE.out] at HRA HRB
    go_enter Try.func14, Try.ntmps14
    go_wp2_with fail
    go_returns
    exact ⟨by rw [HRA.out, HRB.out]; rfl, Below.refl _ _⟩
  · by_cases hok : ∀ u ∈ l, Pl.Okay u
    · rw [decide_eq_false (fun h => h hok)] at HC
      have HE := Lib.hid (show Pl.longL l N = Pl.goL l N by unfold Pl.longL; rw [if_pos ⟨by omega, hok⟩])
      rw [HE.out] at HRA HRB
      clear hok
      have z0 : decide (N < 0) = false := decide_eq_false h0
      go_enter Try.func14, Try.ntmps14
      go_wp2_with fail
      refine HC.out.mono ?_
      rintro e w1 ⟨rfl, hb⟩
      have HB1 := Lib.hid hb
      clear hb
      go_wp2_with fail
      go_loopw [1, 18] (fun s i wr => LoR w l N s i wr) (fun _ i _ => m - (intOf i).toNat)
      case atStart => exact ⟨0, N, rfl, rfl, Nat.zero_le _, rfl, by omega, by omega, HB1.out⟩
      case round =>
        obtain ⟨j, n, rfl, rfl, hj, hg, hn1, hn2, hb⟩ := hrel
        have HB := Lib.hid hb
        have HG := Lib.hid hg
        rw [HL.out] at hj
        clear hb hg
        by_cases hlt : j < m
        · obtain ⟨g1, o1, rfl, hg1, hc1⟩ := Uns.at_ (Rws.below H1.out HB.out (Nat.le_refl _)) hlt
          obtain ⟨a0, a1, a2, a3, a4⟩ := hc1 j hlt
          have hjl : j < l.length := by rw [HL.out]; exact hlt
          obtain ⟨u, hu⟩ : ∃ u, u = l.getD j default := ⟨_, rfl⟩
          rw [← hu] at a0 a1 a2 a3 a4
          have HD := Lib.hid (show l.drop j = u :: l.drop (j + 1) from by rw [hu, List.getD_eq_getElem?_getD, List.getElem?_eq_getElem hjl]; exact List.drop_eq_getElem_cons hjl)
          have HF := fun w => Lib.hid (fits_any u n w)
          have HG2 := fun w => Lib.hid (grows_any u w)
          have hgl := Pl.grows_le u.k
          obtain ⟨n2, hn2e⟩ : ∃ n2, n2 = n + Pl.grows u.k := ⟨_, rfl⟩
          have hw : wrap64 (n + Pl.grows u.k) = n2 := by unfold wrap64; omega
          have HST := Lib.hid (show Pl.Fit u n → Pl.goL l N = Pl.goL (l.drop (j + 1)) n2 from fun h => by
            rw [HG.out, HD.out, hn2e]; exact if_pos h)
          have HNF := Lib.hid (show ¬ Pl.Fit u n → Pl.goL l N = (0, 30) from fun h => by
            rw [HG.out, HD.out]; exact if_neg h)
          have hb1 : N - ((j + 1 : Nat) : Int) ≤ n2 := by omega
          have hb2 : n2 ≤ N + ((j + 1 : Nat) : Int) := by omega
          obtain ⟨k, p, ch, x, y⟩ := u
          simp only at a0 a1 a2 a3 a4 hw
          obtain ⟨gr, hgr⟩ : ∃ gr, gr = Pl.grows k := ⟨_, rfl⟩
          simp only at HG2
          rw [← hgr] at hw HG2
          have z0 : (0 : Int) ≤ (j : Int) := by omega
          have z1 : (j : Int) < (m : Int) := by omega
          have HU := Lib.hid (uat_new wr k p ch x y)
          have HBU := Lib.hid (below_alloc HB.out (.cells #[.int .i64 k, .int .i64 p, .int .i32 ch, .int .u32 x, .int .u64 y] 57))
          clear hc1 hu hgl hn2e hgr HD
          unfold uval at HF HG2
          simp only at HF HG2
          by_cases hfit : Pl.Fit ⟨k, p, ch, x, y⟩ n
          · rw [decide_eq_true hfit] at HF
            have HS2 := Lib.hid (HST.out hfit)
            clear hfit
            go_wp2_with fail
            refine (HF _).out.mono ?_
            rintro e w2 ⟨rfl, hb2'⟩
            have HB2 := Lib.hid (below_then' HBU.out hb2' HBU.out.size)
            obtain ⟨c0, c1, c2, c3, c4⟩ := (HU.out.then_ hb2').cells
            clear hb2' a0 a1 a2 a3 a4
            go_wp2_with fail
            refine (HG2 _).out.mono ?_
            rintro e w3 ⟨rfl, hb3⟩
            have HB3 := Lib.hid (below_then' HB2.out hb3 HB2.out.size)
            clear hb3 c0 c1 c2 c3 c4
            go_wp2_with fail
            go_roundw
            case rel => exact ⟨j + 1, n2, by go_num, by rw [hw], by rw [HL.out]; omega, HS2.out, hb1, hb2, HB3.out⟩
            case measure => simp [intOf]; omega
          · rw [decide_eq_false hfit] at HF
            have HS2 := Lib.hid (HNF.out hfit)
            clear hfit
            go_wp2_with fail
            refine (HF _).out.mono ?_
            rintro e w2 ⟨rfl, hb2'⟩
            have HB2 := Lib.hid (below_then' HBU.out hb2' HBU.out.size)
            clear hb2' a0 a1 a2 a3 a4
            go_wp2_with fail
            go_returns
            exact ⟨by rw [HRA.out, HRB.out, HS2.out]; rfl, HB2.out⟩
        · have HE2 := Lib.hid (show Pl.goL l N = (n, 0) from by rw [HG.out, List.drop_of_length_le (by rw [HL.out]; omega)]; rfl)
          go_wp2_with fail
          go_returns
          exact ⟨by rw [HRA.out, HRB.out, HE2.out]; rfl, HB.out⟩
    · rw [decide_eq_true hok] at HC
      have HE := Lib.hid (show Pl.longL l N = (0, 1) by unfold Pl.longL; rw [if_neg]; exact fun h => hok h.2)
      rw [HE.out] at HRA HRB
      clear hok
      have z0 : decide (N < 0) = false := decide_eq_false h0
      go_enter Try.func14, Try.ntmps14
      go_wp2_with fail
      refine HC.out.mono ?_
      rintro e w1 ⟨rfl, hb⟩
      have HB1 := Lib.hid hb
      clear hb
      go_wp2_with fail
      go_returns
      exact ⟨by rw [HRA.out, HRB.out]; rfl, HB1.out⟩
end Go.Proofs.Ytfjnliebgndemaa
