/-
  The walk of WeavePlaces: whatever length, whatever place and whatever row come in, it returns true; nothing that was there turned. Conditions: those that it states.
-/
import Derived.Test.YtaboamkfpolpbaaWvJ
namespace Go.Proofs.Ytaboamkfpolpbaa
open Go.RowKit
open Pl (Un)

namespace weavePlaces
set_option maxRecDepth 100000 in
set_option maxHeartbeats 4000000 in
theorem walk (w : World) (n : Nat) (hn : n < 256) (pos : Nat) (hp : pos < 256) (B : Option Addr) (m d : Nat) (l : List Un) (hB : Units w w.heap.size B m d l) :
    Calls Try.prog 7 #[.int .u8 (n : Int), .int .u8 (pos : Int), .slice B m d] w fun e w' => e = .returned (.bool true) ∧ Below w.heap.size w w' := by
  obtain ⟨K, hK⟩ : ∃ K, K = n % 41 := ⟨_, rfl⟩
  have hK40 : K ≤ 40 := by omega
  have hk1 : (n : Int) % 41 = (K : Int) := by omega
  obtain ⟨a, ha⟩ : ∃ a, a = pos % (K + 1) := ⟨_, rfl⟩
  have haK : a ≤ K := by have := Nat.mod_lt pos (show 0 < K + 1 by omega); omega
  have hk2 : wrap64 ((K : Int) + 1) = ((K + 1 : Nat) : Int) := by unfold wrap64; omega
  have hk3 : (pos : Int) % ((K : Int) + 1) = (a : Int) := by rw [ha, Int.natCast_emod]; rfl
  have HK2 := Lib.hid hk2
  have HK3 := Lib.hid hk3
  have HK4 := Lib.hid (And.intro hK40 haK)
  have B_0 := Lib.hid hB.1
  have HUB := Lib.hid hB.2
  have HP := Lib.hid hp
  clear hB hK ha hk2 hk3 haK hK40 hp
  go_enter Try.func7, Try.ntmps7
  go_wp2_with fail
  rw [hk1]
  clear hk1 hn
  go_loopw [8, 21] (fun s i wr => TxR w K s i wr) (fun _ i _ => K - (intOf i).toNat)
  case atStart => exact ⟨0, none, 0, rfl, rfl, Nat.zero_le _, OwnC.nil_ _ _, Below.refl _ _⟩
  case round =>
    obtain ⟨j, A3, c3, rfl, rfl, hj, ho, hb⟩ := hrel
    have HB := Lib.hid hb
    have HO := Lib.hid ho
    have hK40 := HK4.out.1
    clear hb ho
    by_cases hlt : j < K
    · have hwa : wrap64 (1000 + (j : Int)) = 1000 + (j : Int) := by unfold wrap64; omega
      have hwc : IntKind.i32.wrap (1000 + (j : Int)) = 1000 + (j : Int) := by rw [IntKind.wrap_i32]; omega
      have z1 : (j : Int) < (K : Int) := by omega
      have hJ : Pl.J (1000 + (j : Int)) := by unfold Pl.J; omega
      have HJN := Lib.hid (show j + 1 ≤ K from hlt)
      have HSR := Lib.hid (show Crs (wr.alloc (.cells #[.int .i32 (1000 + (j : Int))] 30)) (wr.alloc (.cells #[.int .i32 (1000 + (j : Int))] 30)).heap.size (some ⟨wr.heap.size, 0, none⟩) 1 1 [1000 + (j : Int)] from (crs_lit wr [1000 + (j : Int)] (fun y hy => by simp at hy; rw [hy]; exact hJ) (by simp [maxLen])).crs.2)
      have HOW := Lib.hid (show OwnC (wr.alloc (.cells #[.int .i32 (1000 + (j : Int))] 30)) w.heap.size (.slice A3 j c3) (Pl.txt j) from OwnC.then_ HO.out (below_box wr _))
      have HBW := Lib.hid (below_then' HB.out (below_box wr (.cells #[.int .i32 (1000 + (j : Int))] 30)) HB.out.size)
      clear hJ
      go_wp2_with (at_builtin; refine wpList_append_crs (wr.alloc (.cells #[.int .i32 (1000 + (j : Int))] 30)) rfl (.tmp 24) (.tmp 28) rfl w.heap.size A3 j c3 (Pl.txt j) (by rfl) HOW.out _ (some ⟨wr.heap.size, 0, none⟩) 1 1 [1000 + (j : Int)] (by rfl) HSR.out (by omega) HBW.out.size ?_)
      intro A4 c4 w4 hO4 hg4 hat4
      have HO4 := Lib.hid (show OwnC w4 w.heap.size (.slice A4 (j + 1) c4) (Pl.txt (j + 1)) by rw [Pl.txt_succ]; exact hO4)
      have HB4 := Lib.hid (below_appendC HOW.out hg4 HBW.out HBW.out.size)
      clear hO4 hg4 hat4
      go_wp2_with fail
      go_roundw
      case rel => exact ⟨j + 1, A4, c4, by go_num, rfl, HJN.out, HO4.out, HB4.out⟩
      case measure => simp [intOf]; exact fi_meas hlt
    · have hjn : j = K := by omega
      subst hjn
      have T_0 := HO
      have hk2 := HK2.out
      have hk3 := HK3.out
      have hp := HP.out
      have hk5 : ¬ (j : Int) + 1 = 0 := by omega
      have haK := HK4.out.2
      have haK2 : (a : Int) ≤ (j : Int) := by omega
      clear HO hlt
      have B_00 := B_0
      clear B_0
      have B_0 := Lib.hid (Rws.then_ B_00.out HB.out)
      clear B_00
      go_wp2_with fail
      rw [hk3]
      refine ((fit_any B m d l j 2 wr B_0.out HUB.out (by omega))).mono ?_
      rintro e w_1 ⟨A1, c1, lb, rfl, hlb, ho, hbr, hb⟩
      clear B_0
      have T_2 := Lib.hid (OwnC.then_ T_0.out hb)
      have HB_3 := Lib.hid (below_then' HB.out hb HB.out.size)
      clear T_0 HB
      have LB_4 := Lib.hid (ho)
      have HFR := Lib.hid (Pl.br_fit hbr (Pl.len_txt j))
      have HST := Lib.hid (Pl.br_strange Pl.az_strange hbr)
      have HLN := Lib.hid hlb
      obtain ⟨q, hq1, hq2, hq3⟩ := Pl.place_cut lb (a : Int) (Pl.txt j) a (by rw [Pl.len_txt]; omega) HFR.out HST.out (Pl.cut_txt j a) (by rw [Pl.len_txt]; exact haK)
      have HQ := Lib.hid (And.intro hq1 hq3)
      clear hb ho hbr hlb hq1 hq3 hk2 hk3 hp hk5
      go_wp2_with fail
      refine ((applyR_fit _ j _ (Pl.txt j) _ _ _ lb w_1 (by have h := (OwnC.crs T_2.out).2; exact h) (OwnU.uns LB_4.out) (by omega) (by have := HLN.out; omega) HFR.out)).mono ?_
      rintro e w_5 ⟨A5, c5, rfl, ho, hb⟩
      have T_6 := Lib.hid (OwnC.then_ T_2.out hb)
      have LB_7 := Lib.hid (OwnR.then_ LB_4.out hb)
      have HB_8 := Lib.hid (below_then' HB_3.out hb HB_3.out.size)
      clear T_2 LB_4 HB_3
      have hc := ho.crs.2
      have Q_9 := Lib.hid (hc)
      clear T_6
      clear hb ho hc
      obtain ⟨N, hN⟩ : ∃ k, k = (Pl.leave lb (Pl.txt j)).length := ⟨_, rfl⟩
      rw [← hN] at hq2 Q_9 ⊢
      have HN := Lib.hid hN
      clear hN
      go_wp2_with fail
      refine ((place_any (a : Int) _ _ _ lb w_5 (OwnU.uns LB_7.out))).mono ?_
      rintro e w_10 ⟨rfl, hb⟩
      have LB_11 := Lib.hid (OwnR.then_ LB_7.out hb)
      have Q_12 := Lib.hid (Crs.then_ Q_9.out hb)
      have HB_13 := Lib.hid (below_then' HB_8.out hb HB_8.out.size)
      clear LB_7 Q_9 HB_8
      clear LB_11
      clear hb
      rw [HQ.out.1]
      have z2 : ¬ ((q : Int) < 0) := by omega
      have z3 : ¬ ((N : Int) < (q : Int)) := by omega
      have hcap := (Q_12.out).cap
      have hle := (Q_12.out).le
      unfold maxLen at hcap
      go_wp2_with fail
      go_loopw [62] (fun i wr => SeR w_10 N i wr) (fun i _ => N - (intOf i).toNat)
      case atStart => exact ⟨0, rfl, Nat.zero_le _, Below.refl _ _⟩
      case round =>
        obtain ⟨t, rfl, ht, hb⟩ := hrel
        have HB2 := Lib.hid hb
        by_cases hlt : t < N
        · obtain ⟨g, o, rfl, hg, hc⟩ := ((Q_12.out).below hb (Nat.le_refl _)).at_ hlt
          have a0 := hc t hlt
          have hJ := (Q_12.out).getJ t
          obtain ⟨x, hx⟩ : ∃ x, x = (Pl.leave lb (Pl.txt j)).getD t 0 := ⟨_, rfl⟩
          have hcut := HQ.out.2 t x (by rw [hx]; exact get_of_getD (by rw [← HN.out]; exact hlt))
          rw [← hx] at a0 hJ
          unfold Pl.J at hJ
          have hw0 : wrap64 x = x := by unfold wrap64; omega
          have hw1 : wrap64 (x - 1000) = x - 1000 := by unfold wrap64; omega
          have z4 : (0 : Int) ≤ (t : Int) := Int.natCast_nonneg t
          have z5 : (t : Int) < (N : Int) := Int.ofNat_lt.2 hlt
          have HMS := Lib.hid (fi_meas hlt)
          have HJN := Lib.hid (show t + 1 ≤ N from hlt)
          clear hc hx hb
          by_cases h1 : 1000 ≤ x
          · by_cases h2 : x < 2000
            · have h3 := hcut h1 h2
              clear hcut hJ
              by_cases h4 : x - 1000 < (a : Int)
              · have h5 : (t : Int) < (q : Int) := Int.ofNat_lt.2 (h3.1 (by omega))
                have h6 : ¬ (q : Int) ≤ (t : Int) := Int.not_le.2 h5
                have h7 : ¬ (a : Int) ≤ x - 1000 := Int.not_le.2 h4
                clear h3
                go_wp2_with fail
                go_roundw
                case rel => exact ⟨t + 1, by go_num, HJN.out, HB2.out⟩
                case measure => simp [intOf]; exact HMS.out
              · have h5 : (q : Int) ≤ (t : Int) := Int.not_lt.1 fun h => h4 (by have := h3.2 (Int.ofNat_lt.1 h); omega)
                replace h4 := Int.not_lt.1 h4
                have h6 : ¬ (t : Int) < (q : Int) := Int.not_lt.2 h5
                have h7 : ¬ x - 1000 < (a : Int) := Int.not_lt.2 h4
                clear h3
                go_wp2_with fail
                go_roundw
                case rel => exact ⟨t + 1, by go_num, HJN.out, HB2.out⟩
                case measure => simp [intOf]; exact HMS.out
            · clear hcut hJ
              go_wp2_with fail
              go_roundw
              case rel => exact ⟨t + 1, by go_num, HJN.out, HB2.out⟩
              case measure => simp [intOf]; exact HMS.out
          · clear hcut hJ
            go_wp2_with fail
            go_roundw
            case rel => exact ⟨t + 1, by go_num, HJN.out, HB2.out⟩
            case measure => simp [intOf]; exact HMS.out
        · clear hb
          have HB3 := Lib.hid (below_then' HB_13.out HB2.out HB_13.out.size)
          go_wp2_with fail
          refine (awake_any _).mono ?_
          rintro e w9 ⟨rfl, hb⟩
          have HB4 := Lib.hid (below_then' HB3.out hb HB3.out.size)
          clear hb
          go_wp2_with fail
          go_ret
          exact ⟨rfl, HB4.out⟩
end weavePlaces
end Go.Proofs.Ytaboamkfpolpbaa
