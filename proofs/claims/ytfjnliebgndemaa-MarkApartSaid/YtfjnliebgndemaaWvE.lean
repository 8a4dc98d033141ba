/-
  weave.Apply: the text that a row leaves. Conditions: rows of at most a thousand units; texts of at most a hundred thousand code points.
-/
import Derived.Test.YtfjnliebgndemaaWvD
namespace Go.Proofs.Ytfjnliebgndemaa
open Go.RowKit
open Pl (Un)

theorem may_j {c : Int} (h : Pl.May c) : Pl.J c := by unfold Pl.May at h; unfold Pl.J; omega
theorem fitR_len {r : List Un} {cs : List Int} (h : Pl.FitR r cs) : ∀ j, (Pl.leave (r.take j) cs).length ≤ cs.length + j := by
  induction r generalizing cs with
  | nil => intro j; rw [List.take_nil]; exact Nat.le_add_right _ _
  | cons u r ih =>
    intro j
    cases j with
    | zero => exact Nat.le_refl _
    | succ j =>
      have h1 := Pl.len_behind_le h.1
      have h2 := ih h.2 j
      show (Pl.leave (r.take j) (Pl.behind u cs)).length ≤ _
      omega
/-- between one unit and the next -/
def ApR (w : World) (row : List Un) (cs : List Int) (s i : Value) (wr : World) : Prop := ∃ (j : Nat) (A : Option Addr) (c : Nat), i = .int .i64 (j : Int) ∧ s = .slice A (Pl.leave (row.take j) cs).length c ∧ j ≤ row.length ∧ OwnC wr w.heap.size (.slice A (Pl.leave (row.take j) cs).length c) (Pl.leave (row.take j) cs) ∧ Below w.heap.size w wr
theorem turned_below {w0 w w' : World} {v : Value} {cs : List Int} (hb : Below w0.heap.size w0 w) (ho : OwnC w w0.heap.size v cs) (ht : Tn (fun b => v.ownBlock = some b) w w') : Below w0.heap.size w0 w' := ht.below hb hb.size (fun b hb2 => (ho.lt b hb2).1)
set_option maxRecDepth 100000 in
set_option maxHeartbeats 1000000 in
theorem applyR_fit (A : Option Addr) (n c : Nat) (cs : List Int) (B : Option Addr) (m d : Nat) (row : List Un) (w : World) (h1 : Crs w w.heap.size A n c cs) (h2 : Uns w w.heap.size B m d row) (hn : n ≤ 100000) (hm : m ≤ 1000) (hf : Pl.FitR row cs) :
    Calls Try.prog 10 #[.slice A n c, .slice B m d] w fun e w' => ∃ A' c', e = .returned (.tuple #[.slice A' (Pl.leave row cs).length c', .int .i64 0]) ∧ OwnC w' w.heap.size (.slice A' (Pl.leave row cs).length c') (Pl.leave row cs) ∧ Below w.heap.size w w' := by
  have HL := Lib.hid (long_any B m d row (n : Int) w h2 hm (by omega))
  have HE := Lib.hid (show Pl.longL row (n : Int) = (((Pl.leave row cs).length : Int), 0) by rw [← h1.len]; exact Pl.longL_fit hf)
  rw [HE.out] at HL
  simp only at HL
  have HC := Lib.hid h1
  have HU := Lib.hid h2
  have HF := Lib.hid hf
  have HNL := Lib.hid h1.len
  have HML := Lib.hid h2.len
  clear h1 h2 hf
  go_enter Try.func10, Try.ntmps10
  go_wp2_with fail
  refine HL.out.mono ?_
  rintro e w1 ⟨rfl, hb⟩
  have HB1 := Lib.hid hb
  have HCL := Lib.hid (cloneC_any A n c cs w1 (HC.out.then_ hb) (by omega))
  clear hb
  go_wp2_with fail
  refine HCL.out.mono ?_
  rintro e w2 ⟨A2, c2, rfl, hO, hb⟩
  have HB2 := Lib.hid (below_then' HB1.out hb HB1.out.size)
  have HR := Lib.hid (show ApR w row cs (.slice A2 cs.length c2) (.int .i64 ((0 : Nat) : Int)) w2 from ⟨0, A2, c2, rfl, rfl, Nat.zero_le _, hO.lower HB1.out.size, HB2.out⟩)
  clear hb hO HCL
  go_wp2_with fail
  go_loopw [8, 25] (fun s i wr => ApR w row cs s i wr) (fun _ i _ => m - (intOf i).toNat)
  case atStart => exact HR.out
  case round =>
    obtain ⟨j, A3, c3, rfl, rfl, hj, ho, hb⟩ := hrel
    have HB := Lib.hid hb
    have HO := Lib.hid ho
    have hlen := fitR_len HF.out j
    rw [HML.out] at hj
    clear hb ho HR
    by_cases hlt : j < m
    · obtain ⟨g1, o1, rfl, hg1, hc1⟩ := Uns.at_ (Rws.below HU.out HB.out (Nat.le_refl _)) hlt
      obtain ⟨a0, a1, a2, a3, a4⟩ := hc1 j hlt
      have hjl : j < row.length := by rw [HML.out]; exact hlt
      have hfit := Pl.fit_take row cs HF.out j _ (getD_of_get hjl)
      have hlv := Pl.leave_take row cs j _ (getD_of_get hjl)
      obtain ⟨u, hu⟩ : ∃ u, u = row.getD j default := ⟨_, rfl⟩
      rw [← hu] at a0 a1 a2 a3 a4 hfit hlv
      obtain ⟨T, hT⟩ : ∃ T, T = Pl.leave (row.take j) cs := ⟨_, rfl⟩
      obtain ⟨T2, hT2⟩ : ∃ T2, T2 = Pl.leave (row.take (j + 1)) cs := ⟨_, rfl⟩
      rw [← hT, ← hT2] at hlv
      rw [← hT] at hfit hlen HO
      have HT2 := Lib.hid hT2
      have HTE := Lib.hid hT.symm
      have z0 : (0 : Int) ≤ (j : Int) := by omega
      have z1 : (j : Int) < (m : Int) := by omega
      rw [HTE.out]
      obtain ⟨K, hK⟩ : ∃ K, K = T.length := ⟨_, rfl⟩
      rw [← hK] at HO hlen hfit ⊢
      rw [HNL.out] at hlen
      clear hc1 hu hT hT2
      rcases Pl.fit_cases hfit with ⟨x, y, rfl⟩ | ⟨p, ch, x, y, rfl, hpl, hmay⟩ | ⟨p, ch, x, y, rfl, hpl, hmay⟩
      · rw [Pl.behind_nop] at hlv
        have HLV := Lib.hid hlv
        simp only at a0 a1 a2 a3 a4
        have HBX := Lib.hid (below_box wr (.cells #[.int .i64 0, .int .i64 0, .int .i32 0, .int .u32 x, .int .u64 y] 57))
        have HK := Lib.hid hK
        clear hfit hlv hK
        go_wp2_with fail
        go_roundw
        case rel =>
          refine ⟨j + 1, A3, c3, by go_num, ?_, by rw [HML.out]; omega, ?_, below_then' HB.out HBX.out HB.out.size⟩
          · rw [← HT2.out, HLV.out, ← HK.out]
          · rw [← HT2.out, HLV.out, ← HK.out]; exact OwnC.then_ HO.out HBX.out
        case measure => simp [intOf]; omega
      · rw [Pl.behind_ins] at hlv
        have hinl : T2 = T.take p ++ [ch] ++ T.drop p := by rw [hlv]; unfold Pl.insL; simp
        have hl2 : T2.length = K + 1 := by rw [hlv, Pl.len_insL (by omega)]; omega
        simp only at a0 a1 a2 a3 a4
        obtain ⟨W5, hW5⟩ : ∃ W5, W5 = wr.alloc (.cells #[.int .i64 1, .int .i64 (p : Int), .int .i32 ch, .int .u32 x, .int .u64 y] 57) := ⟨_, rfl⟩
        have hb5 : Below wr.heap.size wr W5 := by rw [hW5]; exact below_box _ _
        have hs5 : W5.heap.size = wr.heap.size + 1 := by rw [hW5]; simp
        obtain ⟨W6, hW6⟩ : ∃ W6, W6 = W5.alloc (.cells #[.int .i32 ch] 25) := ⟨_, rfl⟩
        have hb6 : Below W5.heap.size W5 W6 := by rw [hW6]; exact below_box _ _
        have hV : Crs W6 W6.heap.size (some ⟨W5.heap.size, 0, none⟩) 1 1 [ch] := by
          rw [hW6]
          exact (crs_lit W5 [ch] (fun y hy => by simp at hy; rw [hy]; exact may_j hmay) (by simp [maxLen])).crs.2
        have hs6 : w.heap.size ≤ W6.heap.size := Nat.le_trans HB.out.size (Nat.le_trans hb5.size hb6.size)
        have ho6 : OwnC W6 w.heap.size (.slice A3 K c3) T := OwnC.then_ (OwnC.then_ HO.out hb5) hb6
        have HI := Lib.hid (insC_any W6 w.heap.size A3 K c3 T ho6 hs6 p (by omega) _ 1 1 [ch] hV (fun _ g hg ad had e => by cases had; have := (HO.out.lt g hg).2; have := hb5.size; simp only at e; omega) (by omega))
        have HOT := Lib.hid ho6
        have HB6 := Lib.hid (below_then' (below_then' HB.out hb5 HB.out.size) hb6 (Nat.le_trans HB.out.size hb5.size))
        rw [← hinl, hs5] at HI
        have HL2 := Lib.hid hl2
        have HW := Lib.hid (hW6.trans (by rw [hW5]))
        have HLV := Lib.hid hlv
        have z2 : (0 : Int) ≤ (p : Int) := by omega
        clear hfit hlv hK hinl hb5 hb6 hV hs6 ho6 hl2 hW6 hs5
        go_wp2_with fail
        rw [← HW.out]
        refine HI.out.mono ?_
        rintro e w7 ⟨A7, c7, rfl, ho7, ht7, _⟩
        have HO7 := Lib.hid ho7
        have HB7 := Lib.hid (turned_below HB6.out HOT.out ht7)
        clear ho7 ht7 a0 a1 a2 a3 a4 HI
        go_wp2_with fail
        go_roundw
        case rel =>
          refine ⟨j + 1, A7, c7, by go_num, ?_, by rw [HML.out]; omega, ?_, HB7.out⟩
          · rw [← HT2.out, HL2.out]
          · rw [← HT2.out, HL2.out]; exact HO7.out
        case measure => simp [intOf]; omega
      · rw [Pl.behind_del] at hlv
        have hdel : T2 = T.take p ++ T.drop (p + 1) := by rw [hlv]; unfold Pl.delL; simp
        have hl2 : T2.length = K - 1 := by
          have := Pl.len_delL (p := p) (l := T) (by omega)
          rw [hlv]; omega
        simp only at a0 a1 a2 a3 a4
        obtain ⟨W5, hW5⟩ : ∃ W5, W5 = wr.alloc (.cells #[.int .i64 2, .int .i64 (p : Int), .int .i32 ch, .int .u32 x, .int .u64 y] 57) := ⟨_, rfl⟩
        have hb5 : Below wr.heap.size wr W5 := by rw [hW5]; exact below_box _ _
        have ho5 : OwnC W5 w.heap.size (.slice A3 K c3) T := OwnC.then_ HO.out hb5
        have HI := Lib.hid (delC_any W5 w.heap.size A3 K c3 T ho5 p 1 (by omega))
        have HOT := Lib.hid ho5
        have HB6 := Lib.hid (below_then' HB.out hb5 HB.out.size)
        rw [← hdel] at HI
        have HL2 := Lib.hid hl2
        have HW := Lib.hid hW5
        have z2 : (0 : Int) ≤ (p : Int) := Int.natCast_nonneg p
        have hw1 : wrap64 ((p : Int) + 1) = ((p + 1 : Nat) : Int) := by unfold wrap64; omega
        clear hfit hlv hK hdel hb5 ho5 hl2 hW5
        go_wp2_with fail
        rw [← HW.out]
        try rw [hw1]
        refine HI.out.mono ?_
        rintro e w7 ⟨A7, c7, rfl, ho7, ht7, _⟩
        have HO7 := Lib.hid ho7
        have HB7 := Lib.hid (turned_below HB6.out HOT.out ht7)
        clear ho7 ht7 a0 a1 a2 a3 a4 HI
        go_wp2_with fail
        go_roundw
        case rel =>
          refine ⟨j + 1, A7, c7, by go_num, ?_, by rw [HML.out]; omega, ?_, HB7.out⟩
          · rw [← HT2.out, HL2.out]
          · rw [← HT2.out, HL2.out]; exact HO7.out
        case measure => simp [intOf]; omega
    · have hjm : row.take j = row := List.take_of_length_le (by rw [HML.out]; omega)
      rw [hjm] at HO hlen ⊢
      clear hjm
      go_wp2_with fail
      go_returns
      exact ⟨A3, c3, rfl, HO.out, HB.out⟩
set_option maxRecDepth 100000 in
set_option maxHeartbeats 400000 in
theorem applyR_bad (A : Option Addr) (n c : Nat) (B : Option Addr) (m d : Nat) (row : List Un) (w : World) (h2 : Uns w w.heap.size B m d row) (hn : n ≤ 100000) (hm : m ≤ 1000) (E N : Int) (hf : Pl.longL row n = (N, E)) (hE : E ≠ 0) :
    Calls Try.prog 10 #[.slice A n c, .slice B m d] w fun e w' => e = .returned (.tuple #[.slice none 0 0, .int .i64 E]) ∧ Below w.heap.size w w' := by
  have HL := Lib.hid (long_any B m d row (n : Int) w h2 hm (by omega))
  rw [hf] at HL
  simp only at HL
  have hEb : (E != 0) = true := by rw [bne_iff_ne]; exact hE
  clear h2 hf hE
  go_enter Try.func10, Try.ntmps10
  go_wp2_with fail
  refine HL.out.mono ?_
  rintro e w1 ⟨rfl, hb⟩
  have HB1 := Lib.hid hb
  clear hb
  go_wp2_with fail
  go_returns
  exact ⟨rfl, HB1.out⟩
end Go.Proofs.Ytfjnliebgndemaa
