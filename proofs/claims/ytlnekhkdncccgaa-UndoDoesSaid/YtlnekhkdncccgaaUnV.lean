/-
  The document's own Apply and Fill (layers 7, 9). Conditions: rows of at most a hundred units, texts of at most five hundred code points.
-/
import Derived.Test.YtlnekhkdncccgaaUnT
namespace Go.Proofs.Ytlnekhkdncccgaa
open Go.RowKit
open Pl (Un)

theorem fit_J {u : Un} {n : Nat} (h : Pl.Fit u (n : Int)) : Pl.J u.c := by
  rcases Pl.fit_cases h with ⟨x, y, rfl⟩ | ⟨p, c, x, y, rfl, _, hm⟩ | ⟨p, c, x, y, rfl, _, hm⟩
  · unfold Pl.J; simp only; omega
  · exact may_j hm
  · exact may_j hm
/-- between one unit and the next -/
def AzR (w : World) (l : List Un) (cs : List Int) (s i : Value) (wr : World) : Prop := ∃ (j M : Nat) (A : Option Addr) (c : Nat) (P : List Int), i = .int .i64 (j : Int) ∧ s = .slice A M c ∧ P = Pl.leave (l.take j) cs ∧ M = P.length ∧ j ≤ l.length ∧ OwnC wr w.heap.size (.slice A M c) P ∧ Below w.heap.size w wr
set_option maxRecDepth 100000 in
set_option maxHeartbeats 1000000 in
theorem apply7_any (A : Option Addr) (n c : Nat) (cs : List Int) (B : Option Addr) (m d : Nat) (l : List Un) (w : World) (h1 : Crs w w.heap.size A n c cs) (h2 : Uns w w.heap.size B m d l) (hn : n ≤ 500) (hm : m ≤ 100) (hf : Pl.FitR l cs) :
    Calls Try.prog 38 #[.slice A n c, .slice B m d] w fun e w' => ∃ A' c', e = .returned (.tuple #[.slice A' (Pl.leave l cs).length c', .int .i64 0]) ∧ OwnC w' w.heap.size (.slice A' (Pl.leave l cs).length c') (Pl.leave l cs) ∧ Below w.heap.size w w' := by
  have hlong := long6_any B m d l n w h2 (by omega) (by omega)
  rw [show Pl.longL l (n : Int) = (((Pl.leave l cs).length : Int), 0) by rw [← h1.len]; exact Pl.longL_fit hf] at hlong
  simp only at hlong
  have HLO := Lib.hid hlong
  have HC := Lib.hid h1
  have HU := Lib.hid h2
  have HF := Lib.hid hf
  have HNL := Lib.hid h1.len
  have HML := Lib.hid h2.len
  clear h1 h2 hf hlong
  go_enter Try.func38, Try.ntmps38
  go_wp2_with fail
  refine HLO.out.mono ?_
  rintro e w1 ⟨rfl, hb⟩
  have HB1 := Lib.hid hb
  have HC1 := Lib.hid (HC.out.then_ hb)
  clear hb HLO
  go_wp2_with (at_builtin; refine wpList_append_crs w1 rfl (.tmp 20) (.tmp 21) rfl w.heap.size none 0 0 [] (by rfl) (OwnC.nil_ _ _) _ A n c cs (by rfl) HC1.out (by omega) HB1.out.size ?_)
  intro A2 c2 w2 hO hg _
  have hb2 : Below w.heap.size w w2 := below_appendC (OwnC.nil_ w1 w.heap.size) hg HB1.out HB1.out.size
  have hO2 : OwnC w2 w.heap.size (.slice A2 n c2) cs := by simpa using hO
  have HR := Lib.hid (show AzR w l cs (.slice A2 n c2) (.int .i64 ((0 : Nat) : Int)) w2 from ⟨0, n, A2, c2, cs, rfl, rfl, rfl, HNL.out.symm, Nat.zero_le _, hO2, hb2⟩)
  clear hO hg hb2 hO2
  go_wp2_with fail
  go_loopw [8, 9] (fun s i wr => AzR w l cs s i wr) (fun _ i _ => m - (intOf i).toNat)
  case atStart => exact HR.out
  case round =>
    obtain ⟨j, M, A3, c3, P, rfl, rfl, hP, hM, hj, ho, hb⟩ := hrel
    have HB := Lib.hid hb
    have hlen := fitR_len HF.out j
    rw [← hP, ← hM, HNL.out] at hlen
    rw [HML.out] at hj
    by_cases hlt : j < m
    · obtain ⟨g1, o1, rfl, _, hc1⟩ := Uns.at_ (Rws.below HU.out hb (Nat.le_refl _)) hlt
      obtain ⟨a0, a1, a2, a3, a4⟩ := hc1 j hlt
      have hjl : j < l.length := by rw [HML.out]; exact hlt
      have hfit := Pl.fit_take l cs HF.out j _ (getD_of_get hjl)
      have hlv := Pl.leave_take l cs j _ (getD_of_get hjl)
      rw [← hP] at hfit hlv
      obtain ⟨u, hu⟩ : ∃ u, u = l.getD j default := ⟨_, rfl⟩
      rw [← hu] at a0 a1 a2 a3 a4 hfit hlv
      have hone := one_any u A3 M c3 P wr ho.crs.2 (by omega) (by rw [hM]; exact hfit) (fit_J hfit)
      have HO1 := Lib.hid hone
      have HLV := Lib.hid hlv
      obtain ⟨k, p, ch, x, y⟩ := u
      simp only at a0 a1 a2 a3 a4
      have z0 : (0 : Int) ≤ (j : Int) := Int.natCast_nonneg j
      have z1 : (j : Int) < (m : Int) := Int.ofNat_lt.2 hlt
      have HMS := Lib.hid (show m - (j + 1) < m - j by omega)
      have HJ1 := Lib.hid (show j + 1 ≤ l.length from hjl)
      unfold uval at HO1
      simp only at HO1
      clear hc1 hu hone hfit hlv ho hb hP hM
      go_wp2_with fail
      refine HO1.out.mono ?_
      rintro e w5 ⟨A5, c5, rfl, ho5, hb5⟩
      have HO5 := Lib.hid (ho5.lower HB.out.size)
      have HB5 := Lib.hid (below_then HB.out hb5)
      clear ho5 hb5 HO1 a0 a1 a2 a3 a4
      go_wp2_with fail
      go_roundw
      case rel => exact ⟨j + 1, _, A5, c5, _, by go_num, rfl, HLV.out.symm, rfl, HJ1.out, HO5.out, HB5.out⟩
      case measure => simp [intOf]; exact HMS.out
    · have hjm : l.take j = l := List.take_of_length_le (by rw [HML.out]; omega)
      rw [hjm] at hP
      subst hP
      have HO := Lib.hid ho
      have HM2 := Lib.hid hM
      clear ho hb hjm hM
      go_wp2_with fail
      go_returns
      exact ⟨A3, c3, by rw [← HM2.out]; rfl, by rw [← HM2.out]; exact HO.out, HB.out⟩
theorem drop_one {l : List Un} {j : Nat} (hj : j < l.length) : l.drop j = l.getD j default :: l.drop (j + 1) := by
  rw [List.getD_eq_getElem?_getD, List.getElem?_eq_getElem hj]; exact List.drop_eq_getElem_cons hj
theorem fill_take {l : List Un} {cs : List Int} {j : Nat} (hj : j < l.length) : Pl.fillL (l.take (j + 1)) cs = Pl.fillL (l.take j) cs ++ [Pl.fillU (l.getD j default) (Pl.leave (l.take j) cs)] := by
  rw [take_snoc hj, Pl.fill_append]; rfl
/-- between one unit and the next: the row, the text that there is now -/
def FdR (w : World) (V : Value) (l : List Un) (cs : List Int) (s i : Value) (wr : World) : Prop := ∃ (j M : Nat) (A : Option Addr) (c : Nat) (P : List Int), i = .int .i64 (j : Int) ∧ s = .slice A M c ∧ P = Pl.leave (l.take j) cs ∧ M = P.length ∧ j ≤ l.length ∧ OwnC wr w.heap.size (.slice A M c) P ∧
  OwnU wr w.heap.size V (Pl.fillL (l.take j) cs ++ l.drop j) ∧ (∀ g, V.ownBlock = some g → Value.ownBlock (.slice A M c) ≠ some g) ∧ Below w.heap.size w wr
set_option maxRecDepth 100000 in
set_option maxHeartbeats 2000000 in
theorem fill9_any (B : Option Addr) (m d : Nat) (l : List Un) (A : Option Addr) (n c : Nat) (cs : List Int) (w : World) (h2 : Uns w w.heap.size B m d l) (h1 : Crs w w.heap.size A n c cs) (hn : n ≤ 300) (hm : m ≤ 100) (hf : Pl.FitR l cs) :
    Calls Try.prog 11 #[.slice B m d, .slice A n c] w fun e w' => ∃ A' c', e = .returned (.tuple #[.slice A' l.length c', .int .i64 0]) ∧ OwnU w' w.heap.size (.slice A' l.length c') (Pl.fillL l cs) ∧ Below w.heap.size w w' := by
  have hlong := long6_any B m d l n w h2 (by omega) (by omega)
  rw [show Pl.longL l (n : Int) = (((Pl.leave l cs).length : Int), 0) by rw [← h1.len]; exact Pl.longL_fit hf] at hlong
  simp only at hlong
  have HLO := Lib.hid hlong
  have HC := Lib.hid h1
  have HU := Lib.hid h2
  have HF := Lib.hid hf
  have HNL := Lib.hid h1.len
  have HML := Lib.hid h2.len
  clear h1 h2 hf hlong
  go_enter Try.func11, Try.ntmps11
  go_wp2_with fail
  refine HLO.out.mono ?_
  rintro e w1 ⟨rfl, hb⟩
  have HB1 := Lib.hid hb
  have HC1 := Lib.hid (HC.out.then_ hb)
  have HU1 := Lib.hid (Rws.then_ HU.out hb)
  clear hb HLO
  go_wp2_with (at_builtin; refine wpList_append_crs w1 rfl (.tmp 21) (.tmp 22) rfl w.heap.size none 0 0 [] (by rfl) (OwnC.nil_ _ _) _ A n c cs (by rfl) HC1.out (by omega) HB1.out.size ?_)
  intro A2 c2 w2 hO hg _
  have hb2 : Below w.heap.size w w2 := below_appendC (OwnC.nil_ w1 w.heap.size) hg HB1.out HB1.out.size
  have hO2 : OwnC w2 w.heap.size (.slice A2 n c2) cs := by simpa using hO
  have HOC := Lib.hid hO2
  have HB2 := Lib.hid hb2
  have HOW := Lib.hid (ownU_any B m d l w2 (Rws.then_ HU.out hb2) (by omega))
  clear hO hg hb2 hO2
  go_wp2_with fail
  refine HOW.out.mono ?_
  rintro e w3 ⟨A9, c9, rfl, ho, hb⟩
  rw [HML.out] at ho ⊢
  have HR := Lib.hid (show FdR w (.slice A9 m c9) l cs (.slice A2 n c2) (.int .i64 ((0 : Nat) : Int)) w3 from ⟨0, n, A2, c2, cs, rfl, rfl, rfl, HNL.out.symm, Nat.zero_le _, OwnC.then_ HOC.out hb, OwnR.lower ho HB2.out.size, fun g hg h => by have := (ho.lt g hg).1; have := (HOC.out.lt g h).2; omega, below_then HB2.out hb⟩)
  clear ho hb HOW HOC
  go_wp2_with fail
  go_loopw [8, 10] (fun s i wr => FdR w (.slice A9 m c9) l cs s i wr) (fun _ i _ => m - (intOf i).toNat)
  case atStart => exact HR.out
  case round =>
    obtain ⟨j, M, A3, c3, P, rfl, rfl, hP, hM, hj, ho, hu9, hne, hb⟩ := hrel
    have HB := Lib.hid hb
    have hlen := fitR_len HF.out j
    rw [← hP, ← hM, HNL.out] at hlen
    rw [HML.out] at hj
    by_cases hlt : j < m
    · obtain ⟨g1, o1, rfl, _, hc1⟩ := Uns.at_ (Rws.below HU.out hb (Nat.le_refl _)) hlt
      obtain ⟨a0, a1, a2, a3, a4⟩ := hc1 j hlt
      have hjl : j < l.length := by rw [HML.out]; exact hlt
      have hfl : (Pl.fillL (l.take j) cs).length = j := by rw [Pl.fill_len, List.length_take]; omega
      obtain ⟨g9, rfl, _⟩ := OwnR.pos_ hu9 (by omega)
      obtain ⟨d0, d1, d2, d3, d4, df⟩ := OwnU.cells hu9 hlt
      rw [list_at hfl j rfl] at d0 d1 d2 d3 d4
      have hfit := Pl.fit_take l cs HF.out j _ (getD_of_get hjl)
      have hlv := Pl.leave_take l cs j _ (getD_of_get hjl)
      have hft := fill_take (cs := cs) hjl
      rw [← hP] at hfit hlv hft
      have hset := fun v => list_set hfl hjl v
      have hget : (Pl.fillL (l.take j) cs ++ l.drop j)[j]? = some (l.getD j default) := by
        rw [getD_of_get (by rw [List.length_append, hfl, List.length_drop]; omega), list_at hfl j rfl]
      obtain ⟨u, hu⟩ : ∃ u, u = l.getD j default := ⟨_, rfl⟩
      rw [← hu] at a0 a1 a2 a3 a4 hfit hlv d0 d1 d2 d3 d4 hft hget
      have HFT := Lib.hid (show Pl.Fit u (M : Int) by rw [hM]; exact hfit)
      have HLV := Lib.hid (show Pl.leave (l.take (j + 1)) cs = Pl.leave [u] P from hlv)
      have HMP := Lib.hid hM
      obtain ⟨k, p, ch, x, y⟩ := u
      simp only at a0 a1 a2 a3 a4 d0 d1 d2 d3 d4
      have z0 : (0 : Int) ≤ (j : Int) := Int.natCast_nonneg j
      have z1 : (j : Int) < (m : Int) := Int.ofNat_lt.2 hlt
      have HMS := Lib.hid (show m - (j + 1) < m - j by omega)
      have HJ1 := Lib.hid (show j + 1 ≤ l.length from hjl)
      by_cases hk2 : k = 2
      · subst hk2
        obtain ⟨q, rfl, hq⟩ : ∃ q : Nat, p = (q : Int) ∧ q < P.length := by
          rcases Pl.fit_cases hfit with ⟨_, _, e⟩ | ⟨_, _, _, _, e, _, _⟩ | ⟨q, _, _, _, e, hq, _⟩
          · cases e
          · cases e
          · exact ⟨q, by injection e, hq⟩
        obtain ⟨g3, rfl, _⟩ := OwnC.pos_ ho (by omega)
        obtain ⟨z, hz⟩ : ∃ z, z = P.getD q 0 := ⟨_, rfl⟩
        have hzc : wr.cell? ⟨g3, q, none⟩ = some (.int .i32 z) := by
          obtain ⟨_, _, e, _, hc⟩ := (ho.crs.2).at_ (i := q) (by omega)
          cases e
          have := hc q (by omega)
          rw [Nat.zero_add] at this
          rw [hz]; exact this
        have h7 := (OwnR.set_ encU_len hu9 j 2 (.int .i32 z) (by decide) ⟨2, (q : Int), ch, x, y⟩ ⟨2, (q : Int), z, x, y⟩ hget rfl).1
        rw [hset, show Pl.fillL (l.take j) cs ++ [(⟨2, (q : Int), z, x, y⟩ : Un)] = Pl.fillL (l.take (j + 1)) cs by rw [hft, hz, getD_fill]] at h7
        have ht8 : Tn (fun b => b = g9) wr (wr.setCell ⟨g9, j * 5 + 2, none⟩ (.int .i32 z)) := Tn.set_ (T := fun b => b = g9) (Tn.refl _ wr) (p := ⟨g9, j * 5 + 2, none⟩) (Or.inr rfl) _
        obtain ⟨W8, hW8⟩ : ∃ W8, W8 = wr.setCell ⟨g9, j * 5 + 2, none⟩ (.int .i32 z) := ⟨_, rfl⟩
        rw [← hW8] at h7 ht8
        have HNX := Lib.hid (show Pl.fillL (l.take (j + 1)) cs ++ l.drop (j + 1) = Pl.fillL (l.take (j + 1)) cs ++ l.drop (j + 1) from rfl)
        have HOU := Lib.hid h7
        have HOC := Lib.hid (ho.tn ht8 (fun g hg h => hne g (by rw [h]; rfl) hg))
        have hbq : Below w.heap.size w W8 := ht8.below hb hb.size (fun b h => by rw [h]; exact (hu9.lt g9 rfl).1)
        have HBQ := Lib.hid hbq
        obtain ⟨_, _, e8, _, hc8⟩ := Uns.at_ (Rws.below HU.out hbq (Nat.le_refl _)) hlt
        cases e8
        obtain ⟨b0, b1, b2, b3, b4⟩ := hc8 j hlt
        rw [← hu] at b0 b1 b2 b3 b4
        simp only at b0 b1 b2 b3 b4
        rw [hW8] at b0 b1 b2 b3 b4
        have y0 : (0 : Int) ≤ (q : Int) := Int.natCast_nonneg q
        have y1 : (q : Int) < (M : Int) := by omega
        have HW8 := Lib.hid hW8
        have hp2 : M ≤ 500 := by omega
        clear hc1 hu hfit hlv hft hset hget ho hu9 hne hb hP hM hz h7 ht8 hbq hc8 hfl hW8
        obtain ⟨W6, hW6⟩ : ∃ W6, W6 = World.alloc W8 (.cells #[.int .i64 2, .int .i64 (q : Int), .int .i32 ch, .int .u32 x, .int .u64 y] 42) := ⟨_, rfl⟩
        have hb6 : Below W8.heap.size W8 W6 := by rw [hW6]; exact below_box _ _
        have hrw := unit_row W8 2 (q : Int) ch x y
        rw [← hW6] at hrw
        have HAP := Lib.hid (apply7_any (some ⟨g3, 0, none⟩) M c3 P (some ⟨W8.heap.size, 0, none⟩) 1 1 [⟨2, (q : Int), ch, x, y⟩] W6 ((OwnC.then_ HOC.out hb6).crs.2) (OwnU.uns hrw) (by omega) (by omega) ⟨by rw [← HMP.out]; exact HFT.out, trivial⟩)
        have HU6 := Lib.hid (OwnR.then_ HOU.out hb6)
        have HB6 := Lib.hid (below_then HBQ.out hb6)
        have HVG := Lib.hid (fun g hg => Nat.lt_of_lt_of_le (HOU.out.lt g hg).2 hb6.size)
        have HW6 := Lib.hid (hW6.trans (by rw [HW8.out]))
        rw [show W8.heap.size = wr.heap.size by rw [HW8.out]; simp] at HAP
        clear hb6 hrw hW6
        go_wp2_with fail
        rw [← HW6.out]
        refine HAP.out.mono ?_
        rintro e w7 ⟨A7, c7, rfl, ho7, hb7⟩
        have HO7 := Lib.hid (ho7.lower HB6.out.size)
        have HB7 := Lib.hid (below_then HB6.out hb7)
        have HU7 := Lib.hid (OwnR.then_ HU6.out hb7)
        have HN7 := Lib.hid (show ∀ g, Value.ownBlock (.slice (some ⟨g9, 0, none⟩) m c9) = some g → Value.ownBlock (.slice A7 (Pl.leave [⟨2, (q : Int), ch, x, y⟩] P).length c7) ≠ some g from fun g hg h => by have := HVG.out g hg; have := (ho7.lt g h).1; omega)
        clear ho7 hb7 HAP a0 a1 a2 a3 a4 b0 b1 b2 b3 b4 d0 d1 d2 d3 d4 df hzc
        go_wp2_with fail
        go_roundw
        case rel => exact ⟨j + 1, _, A7, c7, _, by go_num, rfl, HLV.out.symm, rfl, HJ1.out, HO7.out, HU7.out, HN7.out, HB7.out⟩
        case measure => simp [intOf]; exact HMS.out
      · have hkb : (k == 2) = false := by simpa using hk2
        have HNX := Lib.hid (show Pl.fillL (l.take j) cs ++ l.drop j = Pl.fillL (l.take (j + 1)) cs ++ l.drop (j + 1) from by
          rw [hft, show Pl.fillU ⟨k, p, ch, x, y⟩ P = ⟨k, p, ch, x, y⟩ by unfold Pl.fillU; rw [if_neg hk2], hu, List.append_assoc, drop_one hjl]; rfl)
        have HOU := Lib.hid hu9
        have HOC := Lib.hid ho
        have HBQ := Lib.hid hb
        have hp2 : M ≤ 500 := by omega
        clear hc1 hu hfit hlv hft hset hget ho hu9 hne hb hP hM hfl hk2
        obtain ⟨W6, hW6⟩ : ∃ W6, W6 = World.alloc wr (.cells #[.int .i64 k, .int .i64 p, .int .i32 ch, .int .u32 x, .int .u64 y] 42) := ⟨_, rfl⟩
        have hb6 : Below (World.heap wr |>.size) wr W6 := by rw [hW6]; exact below_box _ _
        have hrw := unit_row wr k p ch x y
        rw [← hW6] at hrw
        have HAP := Lib.hid (apply7_any A3 M c3 P (some ⟨World.heap wr |>.size, 0, none⟩) 1 1 [⟨k, p, ch, x, y⟩] W6 ((OwnC.then_ HOC.out hb6).crs.2) (OwnU.uns hrw) (by omega) (by omega) ⟨by rw [← HMP.out]; exact HFT.out, trivial⟩)
        have HU6 := Lib.hid (OwnR.then_ HOU.out hb6)
        have HB6 := Lib.hid (below_then HBQ.out hb6)
        have HVG := Lib.hid (fun g hg => Nat.lt_of_lt_of_le (HOU.out.lt g hg).2 hb6.size)
        have HW6 := Lib.hid hW6
        clear hb6 hrw hW6
        go_wp2_with fail
        rw [← HW6.out]
        refine HAP.out.mono ?_
        rintro e w7 ⟨A7, c7, rfl, ho7, hb7⟩
        have HO7 := Lib.hid (ho7.lower HB6.out.size)
        have HB7 := Lib.hid (below_then HB6.out hb7)
        have HU7 := Lib.hid (OwnR.then_ HU6.out hb7)
        have HN7 := Lib.hid (show ∀ g, Value.ownBlock (.slice (some ⟨g9, 0, none⟩) m c9) = some g → Value.ownBlock (.slice A7 (Pl.leave [⟨k, p, ch, x, y⟩] P).length c7) ≠ some g from fun g hg h => by have := HVG.out g hg; have := (ho7.lt g h).1; omega)
        clear ho7 hb7 HAP
        go_wp2_with fail
        go_roundw
        case rel => exact ⟨j + 1, _, A7, c7, _, by go_num, rfl, HLV.out.symm, rfl, HJ1.out, HO7.out, HNX.out ▸ HU7.out, HN7.out, HB7.out⟩
        case measure => simp [intOf]; exact HMS.out
    · have hjm : l.take j = l := List.take_of_length_le (by rw [HML.out]; omega)
      rw [hjm, List.drop_of_length_le (by rw [HML.out]; omega), List.append_nil] at hu9
      have HO := Lib.hid hu9
      clear ho hu9 hne hb hjm hP hM
      go_wp2_with fail
      go_returns
      exact ⟨A9, c9, by rw [HML.out]; rfl, by rw [HML.out]; exact HO.out, HB.out⟩
end Go.Proofs.Ytlnekhkdncccgaa
