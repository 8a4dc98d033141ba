/-
  LeaseHolds's walk: who sets its lease again and again is there, from 64 ticks behind the last one on no more: it returns true; nothing that was there turns. Conditions: what the law is given can be read as data.
-/
import Derived.Test.YtjplchajopkpcaaLsW
import Derived.Test.YtjplchajopkpcaaLsO
namespace Go.Proofs.Ytjplchajopkpcaa.leaseHolds
open Go.RowKit

theorem live_one (C u t : Int) : Pl.liveM [(C, u)] C t = decide (t < u) := Pl.live_some (by simp [Pl.getM]) t
theorem set_same (C u now : Int) (h : now ≤ 1099511627776) (hu : u ≤ now + 64) : Pl.setL [(C, u)] C now = (0, [(C, now + 64)]) := by
  rw [Pl.setL_old (u := u) (by omega) (by simp [Pl.getM]), if_neg (by omega)]
  simp [Pl.putM, Pl.delM, Pl.insM]
theorem set_drop (C O u now : Int) (h : now ≤ 1099511627776) (hne : O ≠ C) : ∃ M, Pl.setL [(C, u)] O now = (0, M) ∧ Pl.dropL M O = (0, [(C, u)]) := by
  have hg : Pl.getM [(C, u)] O = none := Pl.get_none.2 (by simpa using fun e => hne e.symm)
  refine ⟨Pl.putM [(C, u)] O (now + 64), Pl.setL_new (by omega) hg (by simp), ?_⟩
  have hr : Pl.Rising [(C, u)] := List.pairwise_singleton _ _
  have h1 : Pl.getM (Pl.putM [(C, u)] O (now + 64)) O = some (now + 64) := by rw [Pl.get_put hr, if_pos rfl]
  unfold Pl.dropL
  rw [if_neg (by rw [h1]; simp)]
  congr 1
  refine Pl.mks_ext (Pl.rising_del (Pl.rising_put hr _ _) _) hr fun d => ?_
  rw [Pl.get_del (Pl.rising_put hr _ _), Pl.get_put hr]
  by_cases e : d = O
  · rw [if_pos e, e, hg]
  · rw [if_neg e, if_neg e]
/-- between one step and the next -/
def HoR (W : World) (p b : Nat) (C : Int) (n : Nat) (nw la i : Value) (wr : World) : Prop := ∃ j now last : Nat, i = .int .i64 (j : Int) ∧ nw = .int .u64 (now : Int) ∧ la = .int .u64 (last : Int) ∧ j ≤ n ∧ j ≤ 40 ∧ now ≤ 255 * j ∧ last ≤ now ∧ LeasesO wr W.heap.size p b [(C, (last : Int) + 64)] ∧ Below W.heap.size W wr
/-- between one tick and the next -/
def HiR (w1 : World) (was now : Nat) (t : Value) (wr : World) : Prop := ∃ k : Nat, t = .int .u64 (k : Int) ∧ was ≤ k ∧ k ≤ now + 1 ∧ wr = w1
set_option maxRecDepth 100000 in
set_option maxHeartbeats 4000000 in
theorem walk (W : World) (C : Int) (hC : 0 ≤ C ∧ C < 4294967296) (O : Int) (hO : 0 ≤ O ∧ O < 4294967296) (A : Option Addr) (n c : Nat) (L : List Int) (hL : Rws encB W W.heap.size A n c L ∧ ∀ o ∈ L, 0 ≤ o ∧ o < 256) :
    Calls Try.prog 4 #[.int .u32 C, .int .u32 O, .slice A n c] W fun e w' => e = .returned (.bool true) ∧ Below W.heap.size W w' := by
  obtain ⟨hrow, hby⟩ := hL
  have hle := hrow.le
  have hcap := hrow.cap
  unfold maxLen at hcap
  have HROW := Lib.hid hrow
  have HBY := Lib.hid hby
  have HC := Lib.hid hC
  have HO := Lib.hid hO
  have HN := Lib.hid (new_none W)
  have HWK := fun w => Lib.hid (wakes_any w)
  clear hrow hby hC hO
  go_enter Try.func4, Try.ntmps4
  go_wp2_with fail
  refine HN.out.mono ?_
  rintro e w1 ⟨p, b, rfl, h1, hb1⟩
  have HL := Lib.hid (live_own h1 HC.out (now := 0) (by decide) (r := false) rfl)
  have HS := Lib.hid (set_own h1 hb1 HC.out (now := 0) (by decide) (r := 0) (M' := [(C, (0 : Int) + 64)]) (Pl.setL_new (by decide) rfl (by decide)))
  clear h1 hb1 HN
  go_wp2_with fail
  refine HL.out.mono ?_
  rintro e w2 ⟨rfl, hw⟩
  rw [hw]
  clear hw w2 HL
  go_wp2_with fail
  refine HS.out.mono ?_
  rintro e w2 ⟨rfl, h2, hb2⟩
  have HX := Lib.hid (show HoR W p b C n (.int .u64 ((0 : Nat) : Int)) (.int .u64 ((0 : Nat) : Int)) (.int .i64 ((0 : Nat) : Int)) w2 from ⟨0, 0, 0, rfl, rfl, rfl, Nat.zero_le _, Nat.zero_le _, Nat.zero_le _, Nat.le_refl _, h2, hb2⟩)
  clear h2 hb2 HS
  go_wp2_with fail
  go_loopw [9, 10, 11] (fun nw la i wr => HoR W p b C n nw la i wr) (fun _ _ i _ => n - (intOf i).toNat)
  case atStart => exact HX.out
  case round =>
    obtain ⟨j, now, last, rfl, rfl, rfl, hj, hj40, hnow, hlast, hl, hb⟩ := hrel
    have HLJ := Lib.hid hl
    have HBJ := Lib.hid hb
    by_cases hlt : j < n
    · have z1 : decide ((j : Int) < (n : Int)) = true := decide_eq_true (by omega)
      have z3 : (j : Int) < (n : Int) := by omega
      have z0 : (0 : Int) ≤ (j : Int) := Int.natCast_nonneg _
      by_cases h40 : j < 40
      · have z2 : decide ((j : Int) < 40) = true := decide_eq_true (by omega)
        have hrw := Rws.then_ HROW.out hb
        obtain ⟨g, o, rfl, _, hc⟩ := Rws.at_ encB_len hrw hlt
        have a0 := hc j hlt 0 _ (by decide) rfl
        have hy := HBY.out (L.getD j default) (by rw [List.getD_eq_getElem?_getD, List.getElem?_eq_getElem (by rw [hrw.len]; exact hlt)]; exact List.getElem_mem _)
        obtain ⟨s, hs⟩ : ∃ s : Nat, L.getD j default = (s : Int) := ⟨(L.getD j default).toNat, by omega⟩
        rw [hs] at a0 hy
        have HSS := Lib.hid hs
        simp only [Nat.mul_one, Nat.add_zero] at a0
        have hs256 : s < 256 := by omega
        obtain ⟨nx, hnx⟩ : ∃ z : Nat, z = now + s := ⟨_, rfl⟩
        have w1' : IntKind.u64.wrap ((now : Int) + (s : Int)) = (nx : Int) := by rw [IntKind.wrap_u64]; omega
        have HNX := Lib.hid (show nx = now + s ∧ nx ≤ 255 * (j + 1) ∧ nx ≤ 10200 from ⟨hnx, by omega, by omega⟩)
        have HMS := Lib.hid (show n - (j + 1) < n - j by omega)
        obtain ⟨u, hu⟩ : ∃ u : Int, u = (last : Int) + 64 := ⟨_, rfl⟩
        have hwu : IntKind.u64.wrap ((last : Int) + 64) = u := by rw [IntKind.wrap_u64]; omega
        have HU := Lib.hid (show u = (last : Int) + 64 ∧ last ≤ now ∧ now ≤ 10200 from ⟨hu, hlast, by omega⟩)
        rw [← hu] at HLJ
        have HLT := Lib.hid (And.intro hlt h40)
        clear hl hb hrw hc hy hs hnx hu hnow hlast hj hj40 hlt h40
        go_wp2_with fail
        go_loopw [13] (fun t w9 => HiR wr now nx t w9) (fun t _ => nx + 1 - (intOf t).toNat)
        case atStart => exact ⟨now, rfl, Nat.le_refl _, by have := HNX.out; omega, rfl⟩
        case round =>
          obtain ⟨k, rfl, hk1, hk2, hw⟩ := hrel
          rw [hw]
          clear hw
          by_cases hkn : k ≤ nx
          · have y1 : decide ((k : Int) ≤ (nx : Int)) = true := decide_eq_true (by omega)
            have y1n : decide (k ≤ nx) = true := decide_eq_true hkn
            obtain ⟨lv, hlv⟩ : ∃ lv, lv = decide ((k : Int) < u) := ⟨_, rfl⟩
            have HLV := Lib.hid (live_own HLJ.out HC.out (now := (k : Int)) (by omega) (r := lv) (by rw [hlv]; exact live_one C u _))
            have y2 := hlv.symm
            have hwk : IntKind.u64.wrap ((k : Int) + 1) = ((k + 1 : Nat) : Int) := by rw [IntKind.wrap_u64]; have := HNX.out; omega
            have HMK := Lib.hid (show nx + 1 - (k + 1) < nx + 1 - k by omega)
            have HK := Lib.hid (And.intro hk1 hkn)
            clear hlv hk1 hk2 hkn
            go_wp2_with fail
            refine HLV.out.mono ?_
            rintro e w9 ⟨rfl, hw⟩
            rw [hw]
            clear hw w9
            go_wp2_with fail
            go_roundw
            case rel => exact ⟨k + 1, by go_num, by have := HK.out; omega, by have := HK.out; omega, rfl⟩
            case measure => simp [intOf]; (have := HMK.out; omega)
          · have y1 : decide ((k : Int) ≤ (nx : Int)) = false := decide_eq_false (by omega)
            have y1n : decide (k ≤ nx) = false := decide_eq_false hkn
            clear hk1 hk2 hkn
            by_cases hOC : O = C
            · have y2 : (O != C) = false := by rw [hOC]; simp
              have HL3 := HLJ
              have HB3 := HBJ
              clear hOC
              have hrw := Rws.then_ HROW.out HB3.out
              obtain ⟨g', o', e, _, hc⟩ := Rws.at_ encB_len hrw HLT.out.1
              cases e
              have a1 := hc j HLT.out.1 0 _ (by decide) rfl
              rw [HSS.out] at a1
              simp only [Nat.mul_one, Nat.add_zero] at a1
              clear hrw hc
              by_cases hs64 : s < 64
              · have v1 : decide ((s : Int) < 64) = true := decide_eq_true (by omega)
                have HS5 := Lib.hid (set_own HL3.out HB3.out HC.out (now := (nx : Int)) (by omega) (set_same C u nx (by have := HNX.out; omega) (by have := HNX.out; have := HU.out; omega)))
                clear hs64
                go_wp2_with fail
                refine HS5.out.mono ?_
                rintro e w6 ⟨rfl, h6, hb6⟩
                have HL6 := Lib.hid h6
                have HB6 := Lib.hid hb6
                clear h6 hb6 HS5
                go_wp2_with fail
                go_roundw
                case rel => exact ⟨j + 1, nx, nx, by go_num, rfl, rfl, HLT.out.1, HLT.out.2, HNX.out.2.1, Nat.le_refl _, HL6.out, HB6.out⟩
                case measure => simp [intOf]; (have := HMS.out; omega)
              · have v1 : decide ((s : Int) < 64) = false := decide_eq_false (by omega)
                clear hs64
                go_wp2_with fail
                go_roundw
                case rel => exact ⟨j + 1, nx, last, by go_num, rfl, rfl, HLT.out.1, HLT.out.2, HNX.out.2.1, by have := HNX.out; have := HU.out; omega, by rw [← HU.out.1]; exact HL3.out, HB3.out⟩
                case measure => simp [intOf]; (have := HMS.out; omega)
            · have y2 : (O != C) = true := by simpa using hOC
              obtain ⟨M3, hs3, hd3⟩ := set_drop C O u (now : Int) (by have := HU.out; omega) hOC
              have HS3 := Lib.hid (set_own HLJ.out HBJ.out HO.out (now := (now : Int)) (by omega) hs3)
              have HD3 := fun w (h : LeasesO w W.heap.size p b M3) (hb : Below W.heap.size W w) => Lib.hid (drop_own h hb HO.out hd3)
              clear hOC hs3 hd3
              go_wp2_with fail
              refine HS3.out.mono ?_
              rintro e w4 ⟨rfl, h4, hb4⟩
              have HD4 := Lib.hid (HD3 w4 h4 hb4).out
              clear h4 hb4 HS3 HD3
              go_wp2_with fail
              refine HD4.out.mono ?_
              rintro e w5 ⟨rfl, h5, hb5⟩
              have HL3 := Lib.hid h5
              have HB3 := Lib.hid hb5
              clear h5 hb5 HD4
              have hrw := Rws.then_ HROW.out HB3.out
              obtain ⟨g', o', e, _, hc⟩ := Rws.at_ encB_len hrw HLT.out.1
              cases e
              have a1 := hc j HLT.out.1 0 _ (by decide) rfl
              rw [HSS.out] at a1
              simp only [Nat.mul_one, Nat.add_zero] at a1
              clear hrw hc
              by_cases hs64 : s < 64
              · have v1 : decide ((s : Int) < 64) = true := decide_eq_true (by omega)
                have HS5 := Lib.hid (set_own HL3.out HB3.out HC.out (now := (nx : Int)) (by omega) (set_same C u nx (by have := HNX.out; omega) (by have := HNX.out; have := HU.out; omega)))
                clear hs64
                go_wp2_with fail
                refine HS5.out.mono ?_
                rintro e w6 ⟨rfl, h6, hb6⟩
                have HL6 := Lib.hid h6
                have HB6 := Lib.hid hb6
                clear h6 hb6 HS5
                go_wp2_with fail
                go_roundw
                case rel => exact ⟨j + 1, nx, nx, by go_num, rfl, rfl, HLT.out.1, HLT.out.2, HNX.out.2.1, Nat.le_refl _, HL6.out, HB6.out⟩
                case measure => simp [intOf]; (have := HMS.out; omega)
              · have v1 : decide ((s : Int) < 64) = false := decide_eq_false (by omega)
                clear hs64
                go_wp2_with fail
                go_roundw
                case rel => exact ⟨j + 1, nx, last, by go_num, rfl, rfl, HLT.out.1, HLT.out.2, HNX.out.2.1, by have := HNX.out; have := HU.out; omega, by rw [← HU.out.1]; exact HL3.out, HB3.out⟩
                case measure => simp [intOf]; (have := HMS.out; omega)
      · have z2 : decide ((j : Int) < 40) = false := decide_eq_false (by omega)
        clear h40
        obtain ⟨u, hu⟩ : ∃ u : Int, u = (last : Int) + 64 := ⟨_, rfl⟩
        have hwu : IntKind.u64.wrap ((last : Int) + 64) = u := by rw [IntKind.wrap_u64]; omega
        obtain ⟨u1, hu1⟩ : ∃ z : Int, z = u - 1 := ⟨_, rfl⟩
        have hwu1 : IntKind.u64.wrap (u - 1) = u1 := by rw [IntKind.wrap_u64]; omega
        obtain ⟨um, hum⟩ : ∃ z : Int, z = (last : Int) + 1099511627776 := ⟨_, rfl⟩
        have hwum : IntKind.u64.wrap ((last : Int) + 1099511627776) = um := by rw [IntKind.wrap_u64]; omega
        rw [← hu] at hl
        have HV1 := Lib.hid (live_own hl HC.out (now := u1) (by omega) (r := true) (by rw [live_one]; exact decide_eq_true (by omega)))
        have HV2 := Lib.hid (live_own hl HC.out (now := u) (by omega) (r := false) (by rw [live_one]; exact decide_eq_false (by omega)))
        have HV3 := Lib.hid (live_own hl HC.out (now := um) (by omega) (r := false) (by rw [live_one]; exact decide_eq_false (by omega)))
        clear hl hb hu hu1 hum hnow hlast hlt
        have HBE := HBJ
        go_wp2_with fail
        refine HV1.out.mono ?_
        rintro e w9 ⟨rfl, hw⟩
        rw [hw]
        clear hw w9 HV1
        go_wp2_with fail
        refine HV2.out.mono ?_
        rintro e w9 ⟨rfl, hw⟩
        rw [hw]
        clear hw w9 HV2
        go_wp2_with fail
        refine HV3.out.mono ?_
        rintro e w9 ⟨rfl, hw⟩
        rw [hw]
        clear hw w9 HV3
        go_wp2_with fail
        refine (HWK _).out.mono ?_
        rintro e w9 ⟨rfl, hb9⟩
        have HB9 := Lib.hid (below_then HBE.out hb9)
        clear hb9
        go_wp2_with fail
        go_ret
        exact ⟨rfl, HB9.out⟩
    · have z1 : decide ((j : Int) < (n : Int)) = false := decide_eq_false (by omega)
      have z1n : decide (j < n) = false := decide_eq_false hlt
      obtain ⟨u, hu⟩ : ∃ u : Int, u = (last : Int) + 64 := ⟨_, rfl⟩
      have hwu : IntKind.u64.wrap ((last : Int) + 64) = u := by rw [IntKind.wrap_u64]; omega
      obtain ⟨u1, hu1⟩ : ∃ z : Int, z = u - 1 := ⟨_, rfl⟩
      have hwu1 : IntKind.u64.wrap (u - 1) = u1 := by rw [IntKind.wrap_u64]; omega
      obtain ⟨um, hum⟩ : ∃ z : Int, z = (last : Int) + 1099511627776 := ⟨_, rfl⟩
      have hwum : IntKind.u64.wrap ((last : Int) + 1099511627776) = um := by rw [IntKind.wrap_u64]; omega
      rw [← hu] at hl
      have HV1 := Lib.hid (live_own hl HC.out (now := u1) (by omega) (r := true) (by rw [live_one]; exact decide_eq_true (by omega)))
      have HV2 := Lib.hid (live_own hl HC.out (now := u) (by omega) (r := false) (by rw [live_one]; exact decide_eq_false (by omega)))
      have HV3 := Lib.hid (live_own hl HC.out (now := um) (by omega) (r := false) (by rw [live_one]; exact decide_eq_false (by omega)))
      clear hl hb hu hu1 hum hnow hlast hlt
      have HBE := HBJ
      go_wp2_with fail
      refine HV1.out.mono ?_
      rintro e w9 ⟨rfl, hw⟩
      rw [hw]
      clear hw w9 HV1
      go_wp2_with fail
      refine HV2.out.mono ?_
      rintro e w9 ⟨rfl, hw⟩
      rw [hw]
      clear hw w9 HV2
      go_wp2_with fail
      refine HV3.out.mono ?_
      rintro e w9 ⟨rfl, hw⟩
      rw [hw]
      clear hw w9 HV3
      go_wp2_with fail
      refine (HWK _).out.mono ?_
      rintro e w9 ⟨rfl, hb9⟩
      have HB9 := Lib.hid (below_then HBE.out hb9)
      clear hb9
      go_wp2_with fail
      go_ret
      exact ⟨rfl, HB9.out⟩
end Go.Proofs.Ytjplchajopkpcaa.leaseHolds
