/-
  Leases: Set, Copy, New. Conditions: those that each states.
-/
import Derived.Test.YtjplchajopkpcaaLsM
import Derived.Test.YtjplchajopkpcaaLsT
namespace Go.Proofs.Ytjplchajopkpcaa
open Go.RowKit

theorem LeasesW.put {w w1 : World} {p b : Nat} {M : Pl.Mks} (h : LeasesW w p b M) {c v : Int} (hc : 0 ≤ c ∧ c < 4294967296) (hv : 0 ≤ v ∧ v ≤ 1099511627840) (ho : w1.ownsMap Try.prog 25 (plainElem (H := Unit) Try.prog 26) b (Pl.putM M c v).length (datL (Pl.putM M c v))) (ht : Tn (fun i => i = b) w w1) (hf : (Pl.putM M c v).length ≤ 16) : LeasesW w1 p b (Pl.putM M c v) :=
  ⟨ht.old h.blk h.ne, ho, h.ok.put hc hv, hf⟩
set_option maxRecDepth 100000 in
set_option maxHeartbeats 1000000 in
theorem set_any {w : World} {p b : Nat} {M : Pl.Mks} (h : LeasesW w p b M) {c : Int} (hc : 0 ≤ c ∧ c < 4294967296) (now : Int) (h0 : 0 ≤ now) :
    Calls Try.prog 11 #[.pointer (some ⟨p, 0, none⟩), .int .u32 c, .int .u64 now] w fun e w' => e = .returned (.int .i64 (Pl.setL M c now).1) ∧ LeasesW w' p b (Pl.setL M c now).2 ∧ Tn (fun i => i = b) w w' := by
  have HN := Lib.hid (none_leases h)
  have HL := look_ok h.own hc
  have hln := fun ty => h.own.len Try.underlying61 ty
  simp only [sizeL_dat] at hln
  have c0 := h.cell
  have HH := Lib.hid h
  obtain ⟨n, hn⟩ : ∃ n, n = M.length := ⟨_, rfl⟩
  rw [← hn] at hln
  have HNN := Lib.hid hn
  by_cases hlate : 1099511627776 < now
  · have z1 : decide (now > 1099511627776) = true := decide_eq_true hlate
    have z2 : decide (1099511627776 < now) = true := decide_eq_true hlate
    have HE := Lib.hid (Pl.setL_late (L := M) (x := c) hlate)
    obtain ⟨g1, hg1⟩ : ∃ g, g = (Pl.getM M c).getD 0 := ⟨_, rfl⟩
    obtain ⟨g2, hg2⟩ : ∃ g, g = (Pl.getM M c).isSome := ⟨_, rfl⟩
    rw [← hg1, ← hg2] at HL
    clear h hc hlate hn hg1 hg2 h0
    go_enter Try.func11, Try.ntmps11
    go_wp2_with fail
    refine HN.out.mono ?_
    rintro e w' ⟨rfl, hw⟩
    rw [hw]
    clear hw w'
    go_wp2_with fail
    go_ret
    rw [HE.out]
    exact ⟨rfl, HH.out, Tn.refl _ _⟩
  · have z1 : decide (now > 1099511627776) = false := decide_eq_false hlate
    have z2 : decide (1099511627776 < now) = false := decide_eq_false hlate
    obtain ⟨t, ht⟩ : ∃ t, t = now + 64 := ⟨_, rfl⟩
    have hw : IntKind.u64.wrap (now + 64) = t := by rw [IntKind.wrap_u64]; omega
    have ht64 : 64 ≤ t ∧ t ≤ 1099511627840 := by omega
    cases hg : Pl.getM M c with
    | none =>
      rw [hg] at HL
      by_cases hf : 16 ≤ n
      · have y1 : decide ((n : Int) ≥ 16) = true := decide_eq_true (by omega)
        have y2 : decide ((16 : Int) ≤ (n : Int)) = true := decide_eq_true (by omega)
        have HE := Lib.hid (Pl.setL_full hlate hg (by omega))
        clear h hc hlate hn hf hg ht ht64 h0 hw
        go_enter Try.func11, Try.ntmps11
        go_wp2_with fail
        refine HN.out.mono ?_
        rintro e w' ⟨rfl, hw⟩
        rw [hw]
        clear hw w'
        go_wp2_with fail
        go_ret
        rw [HE.out]
        exact ⟨rfl, HH.out, Tn.refl _ _⟩
      · have y1 : decide ((n : Int) ≥ 16) = false := decide_eq_false (by omega)
        have y2 : decide ((16 : Int) ≤ (n : Int)) = false := decide_eq_false (by omega)
        have HE := Lib.hid (Pl.setL_new hlate hg (by omega))
        rw [← ht] at HE
        obtain ⟨w1, hst, ho1, ht1⟩ := storeL h.own h.ok.len hc (v := t) (by omega)
        have H1 := Lib.hid (h.put hc (by omega) ho1 ht1 (Nat.le_trans (Pl.len_put_le _ _ _) (by omega)))
        have HT1 := Lib.hid ht1
        have hmax : (if t < (0 : Int) then (0 : Int) else t) = t := if_neg (by omega)
        have hmax2 : (if (0 : Int) < t then t else (0 : Int)) = t := if_pos (by omega)
        clear h hc hlate hn hf hg ht ht64 h0 ho1 ht1
        go_enter Try.func11, Try.ntmps11
        go_wp2_with fail
        refine HN.out.mono ?_
        rintro e w' ⟨rfl, hww⟩
        rw [hww]
        clear hww w'
        go_wp2_with fail
        go_ret
        rw [HE.out]
        exact ⟨rfl, H1.out, HT1.out⟩
    | some u =>
      rw [hg] at HL
      have hu := h.ok.tick _ ((Pl.get_iff h.ok.up).1 hg)
      simp only at hu
      by_cases hut : t < u
      · have HE := Lib.hid (show Pl.setL M c now = (0, Pl.putM M c u) by rw [Pl.setL_old hlate hg, if_pos (by omega)])
        have y1 : (if u < t then t else u) = u := if_neg (by omega)
        have y2 : (if t < u then u else t) = u := if_pos hut
        obtain ⟨w1, hst, ho1, ht1⟩ := storeL h.own h.ok.len hc (v := u) (by omega)
        have H1 := Lib.hid (h.put hc hu ho1 ht1 (Nat.le_trans (Pl.len_put_old h.ok.up hg) h.few))
        have HT1 := Lib.hid ht1
        clear h hc hlate hn hg ht ht64 h0 ho1 ht1 hut hu
        go_enter Try.func11, Try.ntmps11
        go_wp2_with fail
        refine HN.out.mono ?_
        rintro e w' ⟨rfl, hww⟩
        rw [hww]
        clear hww w'
        go_wp2_with fail
        go_ret
        rw [HE.out]
        exact ⟨rfl, H1.out, HT1.out⟩
      · have HE := Lib.hid (show Pl.setL M c now = (0, Pl.putM M c t) by rw [Pl.setL_old hlate hg, if_neg (by omega), ht])
        have y1 : (if u < t then t else u) = t := by split <;> omega
        have y2 : (if t < u then u else t) = t := if_neg hut
        obtain ⟨w1, hst, ho1, ht1⟩ := storeL h.own h.ok.len hc (v := t) (by omega)
        have H1 := Lib.hid (h.put hc (by omega) ho1 ht1 (Nat.le_trans (Pl.len_put_old h.ok.up hg) h.few))
        have HT1 := Lib.hid ht1
        clear h hc hlate hn hg ht ht64 h0 ho1 ht1 hut hu
        go_enter Try.func11, Try.ntmps11
        go_wp2_with fail
        refine HN.out.mono ?_
        rintro e w' ⟨rfl, hww⟩
        rw [hww]
        clear hww w'
        go_wp2_with fail
        go_ret
        rw [HE.out]
        exact ⟨rfl, H1.out, HT1.out⟩
end Go.Proofs.Ytjplchajopkpcaa
