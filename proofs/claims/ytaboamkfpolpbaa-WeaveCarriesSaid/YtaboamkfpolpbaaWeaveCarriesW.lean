/-
  The walk of WeaveCarries: whatever row, whatever bytes and whatever number come in, it returns true; nothing that was there turned. Conditions: those that it states.
-/
import Derived.Test.YtaboamkfpolpbaaWvU
namespace Go.Proofs.Ytaboamkfpolpbaa
open Go.RowKit
open Pl (Un)

namespace weaveCarries
/-- between one unit and the next -/
def FlR (w : World) (m : Nat) (s i : Value) (wr : World) : Prop :=
  ∃ (j n : Nat) (A : Option Addr) (c : Nat) (out : List Un), i = .int .i64 (j : Int) ∧ s = .slice A n c ∧ n = out.length ∧ j ≤ m ∧ n ≤ j ∧ j ≤ 60 ∧ (∀ u ∈ out, Pl.Good u) ∧ OwnU wr w.heap.size (.slice A n c) out ∧ Below w.heap.size w wr
theorem wr_new (w : World) : Wi.Wr (w.alloc (.cells #[.pointer none, .int .i64 0] 57)) w.heap.size (fun b => b = w.heap.size) [] :=
  ⟨rfl, fun b hb => by simp [hb], Or.inl ⟨by rw [heap_alloc_new], rfl⟩⟩
theorem own_apart {W : World} {base n c : Nat} {A : Option Addr} {l : List Un} (h : OwnU W base (.slice A n c) l) : Apart (fun b => b = W.heap.size) A n := by
  intro hn ad had e
  obtain ⟨g, rfl, _, h2⟩ := OwnR.pos_ h hn
  cases had
  simp only at e
  omega
theorem len_recs {l : List Un} (h : ∀ u ∈ l, Pl.Good u) (hl : l.length ≤ 60) : (Pl.recs l).length ≤ 3010 := by
  have h1 := Pl.enc10 (n := l.length) (by omega)
  have h2 := Pl.len_flat h
  unfold Pl.recs
  rw [List.length_append]
  omega
set_option maxRecDepth 100000 in
set_option maxHeartbeats 4000000 in
theorem walk (w : World) (B : Option Addr) (m d : Nat) (l : List Un) (hA : Units w w.heap.size B m d l) (B' : Option Addr) (m' d' : Nat) (bh : List Nat) (hB : Wi.Bys w w.heap.size B' m' d' bh) (hm' : m' ≤ 140737488351232) (most : Nat) (hmo : most < 256) :
    Calls Try.prog 8 #[.slice B m d, .slice B' m' d', .int .u8 (most : Int)] w fun e w' => e = .returned (.bool true) ∧ Below w.heap.size w w' := by
  have A_0 := Lib.hid hA.1
  have HUA := Lib.hid hA.2
  have HLEN := Lib.hid hA.1.len
  have B_0 := Lib.hid hB
  have HM := Lib.hid hm'
  clear hA hB hm'
  go_enter Try.func8, Try.ntmps8
  go_wp2_with fail
  have HR := Lib.hid (show FlR w m (.slice none 0 0) (.int .i64 ((0 : Nat) : Int)) w from ⟨0, 0, none, 0, [], rfl, rfl, rfl, Nat.zero_le _, Nat.le_refl _, Nat.zero_le _, (fun u hu => by cases hu), OwnR.nil_ _ _ _ _ _, Below.refl _ _⟩)
  go_loopw [7, 15] (fun s i wr => FlR w m s i wr) (fun _ i _ => m - (intOf i).toNat)
  case atStart => exact HR.out
  case round =>
    obtain ⟨j, n, A, c, out, rfl, rfl, hnl, hj, hnj, hj60, hg, ho, hb⟩ := hrel
    have HNL := Lib.hid hnl
    have HG := Lib.hid hg
    have HO := Lib.hid ho
    have HB := Lib.hid hb
    clear hnl hg ho hb HR
    by_cases hlt : j < m
    · have z0 : (0 : Int) ≤ (j : Int) := Int.natCast_nonneg j
      have z1 : (j : Int) < (m : Int) := Int.ofNat_lt.2 hlt
      have hjl : j < l.length := by rw [HLEN.out]; exact hlt
      obtain ⟨g1, o1, rfl, hg1, hc1⟩ := Uns.at_ (Rws.below A_0.out HB.out (Nat.le_refl _)) hlt
      obtain ⟨a0, a1, a2, a3, a4⟩ := hc1 j hlt
      have hub := HUA.out _ (mem_getD hjl)
      obtain ⟨u, hu⟩ : ∃ u, u = l.getD j default := ⟨_, rfl⟩
      rw [← hu] at a0 a1 a2 a3 a4 hub
      by_cases h60 : j = 60
      · have hq : ((j : Int) == 60) = true := by rw [h60]; rfl
        obtain ⟨k, p, ch, x, y⟩ := u
        simp only at a0 a1 a2 a3 a4
        obtain ⟨WX, hWX⟩ : ∃ WX, WX = wr.alloc (.cells #[.int .i64 k, .int .i64 p, .int .i32 ch, .int .u32 x, .int .u64 y] 36) := ⟨_, rfl⟩
        have hbx : Below wr.heap.size wr WX := by rw [hWX]; exact below_box _ _
        have HBX := Lib.hid (below_then' HB.out hbx HB.out.size)
        have HOX := Lib.hid (OwnR.then_ HO.out hbx)
        have HWX := Lib.hid hWX
        have hsx : WX.heap.size = wr.heap.size + 1 := by rw [hWX]; simp
        have HSX := Lib.hid hsx
        clear hub hu hc1 hbx hWX h60 hsx
        have HN60 := Lib.hid (show out.length ≤ 60 by rw [← HNL.out]; omega)
        have hb2 := below_box WX (.cells #[.pointer none, .int .i64 0] 57)
        obtain ⟨W2, hW2⟩ : ∃ W2, W2 = World.alloc WX (.cells #[.pointer none, .int .i64 0] 57) := ⟨_, rfl⟩
        rw [← hW2] at hb2
        have HO2 := Lib.hid (OwnR.then_ HOX.out hb2)
        have HB2 := Lib.hid (below_then' HBX.out hb2 HBX.out.size)
        have HWR := Lib.hid (write_any (WX).heap.size (fun b => b = (WX).heap.size) W2 A n c out (by rw [hW2]; exact wr_new _) (OwnU.uns HO2.out) HG.out (by omega) (own_apart HOX.out))
        have HW2 := Lib.hid hW2
        clear hb2 hW2
        go_wp2_with fail
        rw [← HWX.out, ← HSX.out, ← HW2.out]
        refine HWR.out.mono ?_
        rintro e w3 ⟨rfl, F1, hWr, hT, hF1, _⟩
        have HB3 := Lib.hid (hT.below HB2.out HB2.out.size (fun b hb => by rw [hb]; exact HBX.out.size))
        have HO3 := Lib.hid (show OwnU w3 w.heap.size (.slice A n c) out from OwnR.tn HO2.out (tn_of_wi hT) (fun g hg e => by have := (OwnR.lt HOX.out g hg).2; omega))
        have HRL := Lib.hid (len_recs HG.out HN60.out)
        have HOUT := Lib.hid (Wi.out_any (WX).heap.size F1 (Pl.recs out) w3 hWr (by have := HRL.out; omega))
        clear hWr hT hF1 HO2 HB2 HWR
        go_wp2_with fail
        refine HOUT.out.mono ?_
        rintro e w4 ⟨A4, c4, rfl, hV4, hb4⟩
        have HV4 := Lib.hid hV4
        have HB4 := Lib.hid (below_then' HB3.out hb4 HB3.out.size)
        have HO4 := Lib.hid (OwnR.then_ HO3.out hb4)
        have HBY := Lib.hid (B_0.out.below HB4.out (Nat.le_refl _))
        have hz3 := HB3.out.size
        have hz4 := hb4.size
        have HB34 := Lib.hid hb4
        clear hV4 hb4 HOUT
        go_wp2_with (at_builtin; refine Wi.wpList_append_bys _ rfl (.tmp 36) (.tmp 37) rfl w3.heap.size _ _ _ (Pl.recs out) rfl HV4.out w.heap.size _ _ _ bh rfl HBY.out (by have := HRL.out; have := HM.out; omega) hz4 ?_)
        intro A5 c5 w5 hV5 hg5 _ _
        have hb35 := Wi.below_append HV4.out hg5 HB34.out hz4
        have HO5 := Lib.hid (OwnR.then_ HO3.out hb35)
        have HB5 := Lib.hid (below_then' HB3.out hb35 hz3)
        have HNEW := Lib.hid (Wi.new_any A5 _ c5 _ w5 hV5.bys.2 (by have := HRL.out; have := HM.out; omega))
        have HZ35 := Lib.hid hb35.size
        have HOL := Lib.hid (show ∀ g, Value.ownBlock (.slice A n c) = some g → g < w3.heap.size from fun g hg => (OwnR.lt HO3.out g hg).2)
        clear hV5 hg5 hb35 hz3 hz4 HBY HV4 HO4 HB34 HB4
        go_wp2_with fail
        refine HNEW.out.mono ?_
        rintro e w6 ⟨p6, F2, rfl, hR6, hb6, hF2⟩
        have HO6 := Lib.hid (OwnR.then_ HO5.out hb6)
        have HB6 := Lib.hid (below_then' HB5.out hb6 HB5.out.size)
        have HR6 := Lib.hid hR6
        have HF2 := Lib.hid hF2
        have emo : IntKind.i64.wrap (most : Int) = (most : Int) := IntWalk.i64_in _ (by omega)
        have zmo : (0:Int) ≤ (most : Int) := Int.natCast_nonneg most
        clear hb6 hF2 HNEW
        by_cases hmn : n ≤ most
        · have HREAD := Lib.hid (read_good (some ⟨p6, 0, none⟩) F2 out bh most w6 HG.out HN60.out (by rw [← HNL.out]; exact hmn) (by omega) hR6)
          clear hR6
          go_wp2_with fail
          refine HREAD.out.mono ?_
          rintro e w7 ⟨A7, c7, rfl, ho7, hR7, hT7⟩
          have HB7 := Lib.hid (hT7.below HB6.out HB6.out.size (fun b hb => by have := HF2.out b (HR6.out.pt b hb); have := HB5.out.size; omega))
          have HO7 := Lib.hid (OwnR.tn HO6.out (tn_of_wi hT7) (fun g hg hb => by have := HF2.out g (HR6.out.pt g hb); have := HOL.out g hg; have := HZ35.out; omega))
          have HX7 := Lib.hid ho7
          have HR7 := Lib.hid hR7
          have hle : ¬ ((most : Int) < (n : Int)) := by omega
          have hle2 : (n : Int) ≤ (most : Int) := by omega
          have HLEq := Lib.hid HNL.out
          clear ho7 hR7 hT7 HREAD
          go_wp2_with fail
          refine (awake_any w7).mono ?_
          rintro e w8 ⟨rfl, hb8⟩
          have HB8 := Lib.hid (below_then' HB7.out hb8 HB7.out.size)
          have heq := equalU_any A7 A out.length c7 n c out out w8 (OwnU.uns (OwnR.then_ HX7.out hb8)) (OwnU.uns (OwnR.then_ HO7.out hb8))
          rw [decide_eq_true rfl] at heq
          have HEQ := Lib.hid heq
          have HR8 := Lib.hid (HR7.out.below hb8)
          clear heq hb8
          go_wp2_with fail
          refine HEQ.out.mono ?_
          rintro e w9 ⟨rfl, hb9⟩
          have HB9 := Lib.hid (below_then' HB8.out hb9 HB8.out.size)
          have hR9 := HR8.out.below hb9
          have HERR := Lib.hid (Wi.err_any _ F2 bh 0 w9 hR9)
          have hleft := Wi.left_any _ F2 bh 0 w9 hR9
          rw [B_0.out.len] at hleft
          have HLEFT := Lib.hid hleft
          clear hb9 hR9 hleft HEQ
          go_wp2_with fail
          refine HERR.out.mono ?_
          rintro e w10 ⟨rfl, hw⟩
          subst hw
          go_wp2_with fail
          refine HLEFT.out.mono ?_
          rintro e w11 ⟨rfl, nd, rfl⟩
          go_wp2_with fail
          go_ret
          exact ⟨rfl, ⟨HB9.out.os, HB9.out.tape, HB9.out.output, HB9.out.size, HB9.out.block⟩⟩
        · have HREAD := Lib.hid (read_long (some ⟨p6, 0, none⟩) F2 out bh most w6 HN60.out (by rw [← HNL.out]; omega) hR6)
          clear hR6
          go_wp2_with fail
          refine HREAD.out.mono ?_
          rintro e w7 ⟨rfl, hR7, hT7⟩
          have HB7 := Lib.hid (hT7.below HB6.out HB6.out.size (fun b hb => by have := HF2.out b (HR6.out.pt b hb); have := HB5.out.size; omega))
          have HR7 := Lib.hid hR7
          have hle : (most : Int) < (n : Int) := by omega
          clear hR7 hT7 HREAD
          go_wp2_with fail
          refine (awake_any w7).mono ?_
          rintro e w8 ⟨rfl, hb8⟩
          have HB8 := Lib.hid (below_then' HB7.out hb8 HB7.out.size)
          have HERR := Lib.hid (Wi.err_any _ F2 [] 3 w8 (HR7.out.below hb8))
          clear hb8
          go_wp2_with fail
          refine HERR.out.mono ?_
          rintro e w10 ⟨rfl, hw⟩
          subst hw
          go_wp2_with fail
          go_ret
          exact ⟨rfl, HB8.out⟩
      · have hq : ((j : Int) == 60) = false := by rw [beq_eq_false_iff_ne]; omega
        have HMS := Lib.hid (fi_meas hlt)
        have hj61 : j + 1 ≤ 60 := by omega
        obtain ⟨k, p, ch, x, y⟩ := u
        simp only at a0 a1 a2 a3 a4
        obtain ⟨W1, hW1⟩ : ∃ W1, W1 = wr.alloc (.cells #[.int .i64 k, .int .i64 p, .int .i32 ch, .int .u32 x, .int .u64 y] 36) := ⟨_, rfl⟩
        have hb1 : Below wr.heap.size wr W1 := by rw [hW1]; exact below_box _ _
        have HB1 := Lib.hid (below_then' HB.out hb1 HB.out.size)
        have HO1 := Lib.hid (OwnR.then_ HO.out hb1)
        have HU1 := Lib.hid (show UAt W1 wr.heap.size k p ch x y by rw [hW1]; exact uat_new _ _ _ _ _ _)
        have HW1 := Lib.hid hW1
        have HUB := Lib.hid hub
        by_cases hok : Pl.Okay ⟨k, p, ch, x, y⟩
        · have hmay := okay_any ⟨k, p, ch, x, y⟩ W1
          rw [decide_eq_true hok] at hmay
          simp only [uval] at hmay
          have HMAY := Lib.hid hmay
          have HOK := Lib.hid hok
          clear hc1 hu hW1 hb1 hub hok hmay
          go_wp2_with fail
          rw [← HW1.out]
          refine HMAY.out.mono ?_
          rintro e w2 ⟨rfl, hb2⟩
          have HB2 := Lib.hid (below_then' HB1.out hb2 HB1.out.size)
          have HO2 := Lib.hid (OwnR.then_ HO1.out hb2)
          have HU2 := Lib.hid (HU1.out.then_ hb2)
          obtain ⟨c0, c1, c2, c3, c4⟩ := HU2.out.cells
          clear hb2 HMAY a0 a1 a2 a3 a4
          by_cases hp : p ≤ 2147483648
          · have hbx := below_box w2 (.cells #[.int .i64 k, .int .i64 p, .int .i32 ch, .int .u32 x, .int .u64 y] 36)
            have HRW := Lib.hid (unit_row w2 k p ch x y)
            have HOW := Lib.hid (OwnR.then_ HO2.out hbx)
            have HBW := Lib.hid (below_then' HB2.out hbx HB2.out.size)
            have HGU := Lib.hid (Pl.good_of HOK.out HUB.out hp)
            clear hbx
            go_wp2_with (at_builtin; refine wpList_append_rws encU_len encU_one Try.underlying22 infoUn (by decide) (by decide) (World.alloc w2 (.cells #[.int .i64 k, .int .i64 p, .int .i32 ch, .int .u32 x, .int .u64 y] 36)) rfl (.tmp 29) (.tmp 31) rfl w.heap.size A n c out (by rfl) HOW.out _ (some ⟨w2.heap.size, 0, none⟩) 1 1 [⟨k, p, ch, x, y⟩] (by rfl) (OwnU.uns HRW.out) (by unfold maxLen; omega) (by omega) HBW.out.size ?_)
            intro A3 c3 w3 hO3 hg3 hat3
            have HO3 := Lib.hid (show OwnU w3 w.heap.size (.slice A3 (n + 1) c3) (out ++ [⟨k, p, ch, x, y⟩]) from hO3)
            have HB3 := Lib.hid (OwnR.grownBelow HOW.out hg3 HBW.out HBW.out.size)
            clear hO3 hg3 hat3
            go_wp2_with fail
            go_roundw
            case rel => exact ⟨j + 1, n + 1, A3, c3, _, by go_num, rfl, by rw [List.length_append, ← HNL.out]; rfl, by omega, by omega, hj61, fun u hu => by
              rcases List.mem_append.1 hu with h | h
              · exact HG.out u h
              · rw [List.mem_singleton.1 h]; exact HGU.out, HO3.out, HB3.out⟩
            case measure => simp [intOf]; exact HMS.out
          · go_wp2_with fail
            go_roundw
            case rel => exact ⟨j + 1, n, A, c, out, by go_num, rfl, HNL.out, by omega, by omega, hj61, HG.out, HO2.out, HB2.out⟩
            case measure => simp [intOf]; exact HMS.out
        · have hmay := okay_any ⟨k, p, ch, x, y⟩ W1
          rw [decide_eq_false hok] at hmay
          simp only [uval] at hmay
          have HMAY := Lib.hid hmay
          clear hc1 hu hW1 hb1 hub hok hmay
          go_wp2_with fail
          rw [← HW1.out]
          refine HMAY.out.mono ?_
          rintro e w2 ⟨rfl, hb2⟩
          have HB2 := Lib.hid (below_then' HB1.out hb2 HB1.out.size)
          have HO2 := Lib.hid (OwnR.then_ HO1.out hb2)
          clear hb2 HMAY a0 a1 a2 a3 a4
          go_wp2_with fail
          go_roundw
          case rel => exact ⟨j + 1, n, A, c, out, by go_num, rfl, HNL.out, by omega, by omega, hj61, HG.out, HO2.out, HB2.out⟩
          case measure => simp [intOf]; exact HMS.out
    · have HOX := Lib.hid HO.out
      have HBX := Lib.hid HB.out
      have HN60 := Lib.hid (show out.length ≤ 60 by rw [← HNL.out]; omega)
      have hb2 := below_box wr (.cells #[.pointer none, .int .i64 0] 57)
      obtain ⟨W2, hW2⟩ : ∃ W2, W2 = World.alloc wr (.cells #[.pointer none, .int .i64 0] 57) := ⟨_, rfl⟩
      rw [← hW2] at hb2
      have HO2 := Lib.hid (OwnR.then_ HOX.out hb2)
      have HB2 := Lib.hid (below_then' HBX.out hb2 HBX.out.size)
      have HWR := Lib.hid (write_any (wr).heap.size (fun b => b = (wr).heap.size) W2 A n c out (by rw [hW2]; exact wr_new _) (OwnU.uns HO2.out) HG.out (by omega) (own_apart HOX.out))
      have HW2 := Lib.hid hW2
      clear hb2 hW2
      go_wp2_with fail
      rw [← HW2.out]
      refine HWR.out.mono ?_
      rintro e w3 ⟨rfl, F1, hWr, hT, hF1, _⟩
      have HB3 := Lib.hid (hT.below HB2.out HB2.out.size (fun b hb => by rw [hb]; exact HBX.out.size))
      have HO3 := Lib.hid (show OwnU w3 w.heap.size (.slice A n c) out from OwnR.tn HO2.out (tn_of_wi hT) (fun g hg e => by have := (OwnR.lt HOX.out g hg).2; omega))
      have HRL := Lib.hid (len_recs HG.out HN60.out)
      have HOUT := Lib.hid (Wi.out_any (wr).heap.size F1 (Pl.recs out) w3 hWr (by have := HRL.out; omega))
      clear hWr hT hF1 HO2 HB2 HWR
      go_wp2_with fail
      refine HOUT.out.mono ?_
      rintro e w4 ⟨A4, c4, rfl, hV4, hb4⟩
      have HV4 := Lib.hid hV4
      have HB4 := Lib.hid (below_then' HB3.out hb4 HB3.out.size)
      have HO4 := Lib.hid (OwnR.then_ HO3.out hb4)
      have HBY := Lib.hid (B_0.out.below HB4.out (Nat.le_refl _))
      have hz3 := HB3.out.size
      have hz4 := hb4.size
      have HB34 := Lib.hid hb4
      clear hV4 hb4 HOUT
      go_wp2_with (at_builtin; refine Wi.wpList_append_bys _ rfl (.tmp 36) (.tmp 37) rfl w3.heap.size _ _ _ (Pl.recs out) rfl HV4.out w.heap.size _ _ _ bh rfl HBY.out (by have := HRL.out; have := HM.out; omega) hz4 ?_)
      intro A5 c5 w5 hV5 hg5 _ _
      have hb35 := Wi.below_append HV4.out hg5 HB34.out hz4
      have HO5 := Lib.hid (OwnR.then_ HO3.out hb35)
      have HB5 := Lib.hid (below_then' HB3.out hb35 hz3)
      have HNEW := Lib.hid (Wi.new_any A5 _ c5 _ w5 hV5.bys.2 (by have := HRL.out; have := HM.out; omega))
      have HZ35 := Lib.hid hb35.size
      have HOL := Lib.hid (show ∀ g, Value.ownBlock (.slice A n c) = some g → g < w3.heap.size from fun g hg => (OwnR.lt HO3.out g hg).2)
      clear hV5 hg5 hb35 hz3 hz4 HBY HV4 HO4 HB34 HB4
      go_wp2_with fail
      refine HNEW.out.mono ?_
      rintro e w6 ⟨p6, F2, rfl, hR6, hb6, hF2⟩
      have HO6 := Lib.hid (OwnR.then_ HO5.out hb6)
      have HB6 := Lib.hid (below_then' HB5.out hb6 HB5.out.size)
      have HR6 := Lib.hid hR6
      have HF2 := Lib.hid hF2
      have emo : IntKind.i64.wrap (most : Int) = (most : Int) := IntWalk.i64_in _ (by omega)
      have zmo : (0:Int) ≤ (most : Int) := Int.natCast_nonneg most
      clear hb6 hF2 HNEW
      by_cases hmn : n ≤ most
      · have HREAD := Lib.hid (read_good (some ⟨p6, 0, none⟩) F2 out bh most w6 HG.out HN60.out (by rw [← HNL.out]; exact hmn) (by omega) hR6)
        clear hR6
        go_wp2_with fail
        refine HREAD.out.mono ?_
        rintro e w7 ⟨A7, c7, rfl, ho7, hR7, hT7⟩
        have HB7 := Lib.hid (hT7.below HB6.out HB6.out.size (fun b hb => by have := HF2.out b (HR6.out.pt b hb); have := HB5.out.size; omega))
        have HO7 := Lib.hid (OwnR.tn HO6.out (tn_of_wi hT7) (fun g hg hb => by have := HF2.out g (HR6.out.pt g hb); have := HOL.out g hg; have := HZ35.out; omega))
        have HX7 := Lib.hid ho7
        have HR7 := Lib.hid hR7
        have hle : ¬ ((most : Int) < (n : Int)) := by omega
        have hle2 : (n : Int) ≤ (most : Int) := by omega
        have HLEq := Lib.hid HNL.out
        clear ho7 hR7 hT7 HREAD
        go_wp2_with fail
        refine (awake_any w7).mono ?_
        rintro e w8 ⟨rfl, hb8⟩
        have HB8 := Lib.hid (below_then' HB7.out hb8 HB7.out.size)
        have heq := equalU_any A7 A out.length c7 n c out out w8 (OwnU.uns (OwnR.then_ HX7.out hb8)) (OwnU.uns (OwnR.then_ HO7.out hb8))
        rw [decide_eq_true rfl] at heq
        have HEQ := Lib.hid heq
        have HR8 := Lib.hid (HR7.out.below hb8)
        clear heq hb8
        go_wp2_with fail
        refine HEQ.out.mono ?_
        rintro e w9 ⟨rfl, hb9⟩
        have HB9 := Lib.hid (below_then' HB8.out hb9 HB8.out.size)
        have hR9 := HR8.out.below hb9
        have HERR := Lib.hid (Wi.err_any _ F2 bh 0 w9 hR9)
        have hleft := Wi.left_any _ F2 bh 0 w9 hR9
        rw [B_0.out.len] at hleft
        have HLEFT := Lib.hid hleft
        clear hb9 hR9 hleft HEQ
        go_wp2_with fail
        refine HERR.out.mono ?_
        rintro e w10 ⟨rfl, hw⟩
        subst hw
        go_wp2_with fail
        refine HLEFT.out.mono ?_
        rintro e w11 ⟨rfl, nd, rfl⟩
        go_wp2_with fail
        go_ret
        exact ⟨rfl, ⟨HB9.out.os, HB9.out.tape, HB9.out.output, HB9.out.size, HB9.out.block⟩⟩
      · have HREAD := Lib.hid (read_long (some ⟨p6, 0, none⟩) F2 out bh most w6 HN60.out (by rw [← HNL.out]; omega) hR6)
        clear hR6
        go_wp2_with fail
        refine HREAD.out.mono ?_
        rintro e w7 ⟨rfl, hR7, hT7⟩
        have HB7 := Lib.hid (hT7.below HB6.out HB6.out.size (fun b hb => by have := HF2.out b (HR6.out.pt b hb); have := HB5.out.size; omega))
        have HR7 := Lib.hid hR7
        have hle : (most : Int) < (n : Int) := by omega
        clear hR7 hT7 HREAD
        go_wp2_with fail
        refine (awake_any w7).mono ?_
        rintro e w8 ⟨rfl, hb8⟩
        have HB8 := Lib.hid (below_then' HB7.out hb8 HB7.out.size)
        have HERR := Lib.hid (Wi.err_any _ F2 [] 3 w8 (HR7.out.below hb8))
        clear hb8
        go_wp2_with fail
        refine HERR.out.mono ?_
        rintro e w10 ⟨rfl, hw⟩
        subst hw
        go_wp2_with fail
        go_ret
        exact ⟨rfl, HB8.out⟩
end weaveCarries
end Go.Proofs.Ytaboamkfpolpbaa
