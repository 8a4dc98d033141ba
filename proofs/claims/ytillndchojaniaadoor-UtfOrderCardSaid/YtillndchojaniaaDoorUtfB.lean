/-
  Contracts of copybookref04.one and Size. Condition: a code point that may be (one).
-/
import Derived.Test.YtillndchojaniaaDoorUtfA
namespace Go.Proofs.YtillndchojaniaaDoor
open Go.RowKit

theorem ret_lit (w : World) (bs : List Nat) (ho : Pl.Oct bs) (hl : bs.length ≤ 4) : RetRow w bs (.returned (.slice (some ⟨w.heap.size, 0, none⟩) bs.length bs.length)) (w.alloc (.cells (cellsOf bs).toArray 5)) :=
  ⟨w.heap.size, bs.length, rfl, own_lit w bs ho (by unfold maxLen; omega), (Below.refl _ w).alloc (Nat.le_refl _) _⟩
set_option maxRecDepth 100000 in
set_option maxHeartbeats 400000 in
theorem rone_any (c : Int) (w : World) (hc : Pl.May c) : Calls Tryd.prog 23 #[.int .i32 c] w (RetRow w (Pl.uno c)) := by
  have hle := hc.le
  obtain ⟨n, rfl⟩ : ∃ n : Nat, c = (n : Int) := ⟨c.toNat, by omega⟩
  have e0 : Pl.uno (n : Int) = Pl.one n := by simp [Pl.uno]
  rw [e0]
  have HO := Lib.hid (Pl.oct_one (n := n) (by omega))
  clear hc e0
  by_cases h1 : n < 128
  · have HE := Lib.hid (show Pl.one n = [n] by rw [Pl.one, if_pos h1])
    rw [HE.out] at HO ⊢
    have HR := Lib.hid (ret_lit w _ HO.out (by simp))
    go_enter Tryd.func23, Tryd.ntmps23
    go_wp2_with fail
    go_ret
    exact HR.out
  · by_cases h2 : n < 2048
    · have HE := Lib.hid (show Pl.one n = [192 + n / 64, 128 + n % 64] by rw [Pl.one, if_neg h1, if_pos h2])
      rw [HE.out] at HO ⊢
      have HR := Lib.hid (ret_lit w _ HO.out (by simp))
      go_enter Tryd.func23, Tryd.ntmps23
      go_wp2_with fail
      go_ret
      have h := HR.out
      simp only [cellsOf, List.map_cons, List.map_nil, Int.natCast_add, Int.natCast_ediv, Int.natCast_emod, Int.cast_ofNat_Int] at h
      exact h
    · obtain ⟨b, hb⟩ : ∃ b, b = n / 64 := ⟨_, rfl⟩
      obtain ⟨a, ha⟩ : ∃ a, a = n / 4096 := ⟨_, rfl⟩
      obtain ⟨d, hd⟩ : ∃ d, d = b % 64 := ⟨_, rfl⟩
      obtain ⟨e, he⟩ : ∃ e, e = n % 64 := ⟨_, rfl⟩
      have i2 : (n : Int) / 64 = (b : Int) := by omega
      have i3 : (n : Int) / 4096 = (a : Int) := by omega
      have i4 : (b : Int) % 64 = (d : Int) := by omega
      have i5 : (n : Int) % 64 = (e : Int) := by omega
      have l4 : d < 64 := by omega
      have l5 : e < 64 := by omega
      by_cases h3 : n < 65536
      · have HE := Lib.hid (show Pl.one n = [224 + a, 128 + d, 128 + e] by rw [Pl.one, if_neg h1, if_neg h2, if_pos h3, ha, hd, he, hb])
        rw [HE.out] at HO ⊢
        have HR := Lib.hid (ret_lit w _ HO.out (by simp))
        have l3 : a < 16 := by omega
        clear ha hb hd he
        have d1 : decide ((n : Int) < 128) = false := by rw [decide_eq_false_iff_not]; omega
        have d2 : decide ((n : Int) < 2048) = false := by rw [decide_eq_false_iff_not]; omega
        have d3 : decide ((n : Int) < 65536) = true := by rw [decide_eq_true_iff]; omega
        have c1 : (2048 : Int) ≤ (n : Int) := by omega
        clear h1 h2 h3 hle
        go_enter Tryd.func23, Tryd.ntmps23
        go_wp2_with fail
        go_ret
        exact HR.out
      · obtain ⟨f, hf⟩ : ∃ f, f = n / 262144 := ⟨_, rfl⟩
        obtain ⟨p, hp⟩ : ∃ p, p = a % 64 := ⟨_, rfl⟩
        have i6 : (n : Int) / 262144 = (f : Int) := by omega
        have i7 : (a : Int) % 64 = (p : Int) := by omega
        have l6 : f < 8 := by omega
        have l7 : p < 64 := by omega
        have HE := Lib.hid (show Pl.one n = [240 + f, 128 + p, 128 + d, 128 + e] by rw [Pl.one, if_neg h1, if_neg h2, if_neg h3, hf, hp, ha, hd, he, hb])
        rw [HE.out] at HO ⊢
        have HR := Lib.hid (ret_lit w _ HO.out (by simp))
        clear ha hb hd he hf hp
        have d1 : decide ((n : Int) < 128) = false := by rw [decide_eq_false_iff_not]; omega
        have d2 : decide ((n : Int) < 2048) = false := by rw [decide_eq_false_iff_not]; omega
        have d3 : decide ((n : Int) < 65536) = false := by rw [decide_eq_false_iff_not]; omega
        have c1 : (2048 : Int) ≤ (n : Int) := by omega
        clear h1 h2 h3 hle
        go_enter Tryd.func23, Tryd.ntmps23
        go_wp2_with fail
        go_ret
        exact HR.out

set_option maxRecDepth 100000 in
set_option maxHeartbeats 400000 in
theorem rsize_any (c : Int) (w : World) (hc : Pl.J c) :
    Calls Tryd.prog 19 #[.int .i32 c] w fun e w' => e = .returned (.int .i64 ((Pl.size c : Nat) : Int)) ∧ Below w.heap.size w w' := by
  have HM := Lib.hid (rmay_any c w hc)
  by_cases hm : Pl.May c
  · have HO := Lib.hid (rone_any c w hm)
    rw [decide_eq_true hm] at HM
    have HS := Lib.hid (Pl.size_may hm)
    clear hm
    go_enter Tryd.func19, Tryd.ntmps19
    go_wp2_with fail
    refine HM.out.mono ?_
    rintro e w' ⟨rfl, rfl⟩
    go_wp2_with fail
    refine HO.out.mono ?_
    rintro e w1 ⟨g, cap, rfl, hO, hb⟩
    go_wp2_with fail
    go_ret
    exact ⟨ret_int (by rw [HS.out]), hb⟩
  · rw [decide_eq_false hm] at HM
    rw [Pl.size_not hm]
    clear hm
    go_enter Tryd.func19, Tryd.ntmps19
    go_wp2_with fail
    refine HM.out.mono ?_
    rintro e w' ⟨rfl, rfl⟩
    go_wp2_with fail
    go_ret
    exact ⟨rfl, Below.refl _ _⟩
end Go.Proofs.YtillndchojaniaaDoor
