/-
  slices.insertionSortOrdered at uint32. Conditions: rows of at most a million.
-/
import Derived.Test.YtjplchajopkpcaaSrA
namespace Go.Proofs.Ytjplchajopkpcaa
open Go.RowKit Go.Sort

section
variable {a b i j : Nat} {d : Array Int}
theorem ins_go (hj : a < j) (hl : ltInt d[j]! d[j - 1]! = true) : insInner ltInt a j d = insInner ltInt a (j - 1) (swp d j (j - 1)) := by
  cases j with
  | zero => omega
  | succ j =>
    simp only [Nat.add_sub_cancel] at hl ⊢
    rw [insInner, if_pos (by simp [hl]; omega)]
theorem ins_stop (h : j ≤ a ∨ ltInt d[j]! d[j - 1]! = false) : insInner ltInt a j d = d := by
  cases j with
  | zero => rfl
  | succ j =>
    simp only [Nat.add_sub_cancel] at h
    rw [insInner, if_neg]
    rcases h with h | h
    · simp; omega
    · simp [h]
theorem insO_go (h : i < b) : insOuter ltInt a b i d = insOuter ltInt a b (i + 1) (insInner ltInt a i d) := by rw [insOuter, if_pos h]
theorem insO_stop (h : ¬ i < b) : insOuter ltInt a b i d = d := by rw [insOuter, if_neg h]
end
/-- between two rounds of the outer loop -/
def InO (w0 : World) (base g n c a b : Nat) (d : Array Int) (v : Value) (w : World) : Prop := ∃ (i : Nat) (dk : Array Int), v = .int .i64 (i : Int) ∧ a < i ∧ i ≤ b + 1 ∧ Sr w0 base g n c dk w ∧ insOuter ltInt a b i dk = insertionSort ltInt d a b
/-- between two rounds of the inner loop -/
def InI (w0 : World) (base g n c a i : Nat) (R : Array Int) (v : Value) (w : World) : Prop := ∃ (j : Nat) (dk : Array Int), v = .int .i64 (j : Int) ∧ a ≤ j ∧ j ≤ i ∧ Sr w0 base g n c dk w ∧ insInner ltInt a j dk = R
set_option maxRecDepth 100000 in
set_option maxHeartbeats 4000000 in
theorem insSort_any {w0 w : World} {base g n c a b : Nat} {d : Array Int} (h : Sr w0 base g n c d w) (hab : a ≤ b) (hb : b ≤ n) (hn : n ≤ 1000000) :
    Calls Try.prog 40 #[.slice (some ⟨g, 0, none⟩) n c, .int .i64 (a : Int), .int .i64 (b : Int)] w fun e w' => e = .returned (.tuple #[]) ∧ Sr w0 base g n c (insertionSort ltInt d a b) w' := by
  have HS := Lib.hid h
  have HW1 := Lib.hid (show wrap64 ((a : Int) + 1) = ((a + 1 : Nat) : Int) by unfold wrap64; omega)
  have H0 := Lib.hid (show a < a + 1 ∧ a + 1 ≤ b + 1 by omega)
  have HAB := Lib.hid hab
  have HB := Lib.hid hb
  have HN := Lib.hid hn
  clear h hab hb hn
  go_enter Try.func40, Try.ntmps40
  go_wp2_with fail
  go_loopw [6] (fun v wr => InO w0 base g n c a b d v wr) (fun v _ => b + 1 - (intOf v).toNat)
  case atStart => exact ⟨a + 1, d, by rw [HW1.out], H0.out.1, H0.out.2, HS.out, rfl⟩
  case round =>
    obtain ⟨i, dk, rfl, hai, hib, hs, he⟩ := hrel
    have HE := Lib.hid he
    have HS1 := Lib.hid hs
    have HAI := Lib.hid hai
    have HIB := Lib.hid hib
    clear he hs hai hib
    by_cases hlt : i < b
    · have z1 : decide ((i : Int) < (b : Int)) = true := decide_eq_true (by omega)
      have HLT := Lib.hid hlt
      clear hlt
      have HN1 := Lib.hid (show a < i + 1 ∧ i + 1 ≤ b + 1 ∧ b + 1 - (i + 1) < b + 1 - i by have := HAI.out; have := HLT.out; omega)
      have hi9 : i < 1000000 := by have := HB.out; have := HN.out; have := HLT.out; omega
      go_wp2_with fail
      go_loopw [7] (fun v wr2 => InI w0 base g n c a i (insInner ltInt a i dk) v wr2) (fun v _ => (intOf v).toNat)
      case atStart => exact ⟨i, dk, rfl, Nat.le_of_lt HAI.out, Nat.le_refl _, HS1.out, rfl⟩
      case round =>
        obtain ⟨j, dj, rfl, haj, hji, hs, he⟩ := hrel
        have HS2 := Lib.hid hs
        have HE2 := Lib.hid he
        have HAJ := Lib.hid haj
        have HJI := Lib.hid hji
        clear he hs haj hji z1
        have hjn : j < n := by have := HJI.out; have := HLT.out; have := HB.out; omega
        by_cases hja : a < j
        · have q1 : decide ((j : Int) > (a : Int)) = true := decide_eq_true (by omega)
          have q2 : decide ((a : Int) < (j : Int)) = true := decide_eq_true (by omega)
          have q3 : decide (a < j) = true := decide_eq_true hja
          obtain ⟨jm, hjm⟩ : ∃ q, q = j - 1 := ⟨_, rfl⟩
          have HJN := Lib.hid hjn
          have HJM := Lib.hid hjm
          have HJA := Lib.hid hja
          have HJ := Lib.hid (show jm < n ∧ a ≤ jm ∧ jm ≤ i ∧ jm < j by have := HJI.out; omega)
          have l1 : (0 : Int) ≤ (j : Int) := Int.natCast_nonneg _
          have l2 : (j : Int) < (n : Int) := Int.ofNat_lt.2 hjn
          have l3 : (0 : Int) ≤ (jm : Int) := Int.natCast_nonneg _
          have l4 : (jm : Int) < (n : Int) := Int.ofNat_lt.2 HJ.out.1
          have c1 := HS2.out.cell hjn
          have c2 := HS2.out.cell HJ.out.1
          have hm : wrap64 ((j : Int) - 1) = (jm : Int) := by have := HN.out; clear l1 l2 l3 l4 q1 q2 q3; unfold wrap64; omega
          have hm2 : IntKind.i64.wrap ((j : Int) - 1) = (jm : Int) := by have := HN.out; clear l1 l2 l3 l4 q1 q2 q3 hm; rw [IntKind.wrap_i64]; omega
          obtain ⟨x, hx⟩ : ∃ x, x = dj[j]! := ⟨_, rfl⟩
          obtain ⟨y, hy⟩ : ∃ y, y = dj[jm]! := ⟨_, rfl⟩
          rw [← hx] at c1
          rw [← hy] at c2
          have HX := Lib.hid hx
          have HY := Lib.hid hy
          clear hjm hja hx hy hjn
          cases hl : ltInt x y with
          | true =>
            have HL := fun w => Lib.hid (less_u hl w)
            have HL0 := Lib.hid hl
            go_wp2_with fail
            go_quiet ((go_at_call 46; exact quiet_u (HL _).out))
            go_wp2_with fail
            have hs3 := HS2.out.drewN nq
            generalize wr.drewN nq = W at hs3 ⊢
            have HS3 := Lib.hid hs3
            clear hs3 c1 c2 HL hl q1 q2 q3
            have c1 := HS3.out.cell HJN.out
            have c2 := HS3.out.cell HJ.out.1
            have f1 := HS3.out.fro (j := j)
            have f2 := HS3.out.fro (j := jm)
            rw [← HX.out] at c1
            rw [← HY.out] at c2
            obtain ⟨u, c3⟩ := HS3.out.cell2 (i := j) HJ.out.1 (.int .u32 y)
            have hs4 := (HS3.out.swap (i := j) (j := jm) HJN.out HJ.out.1).drew
            rw [← HX.out, ← HY.out] at hs4
            go_region
            generalize ((W.setCell ⟨g, j, none⟩ (.int .u32 y)).setCell ⟨g, jm, none⟩ (.int .u32 x)).drew = W4 at hs4 ⊢
            have HS4 := Lib.hid hs4
            clear hs4 c1 c2 c3 f1 f2
            go_wp2_with fail
            go_roundw
            case rel => exact ⟨jm, swp dj j jm, by first | rfl | go_num, HJ.out.2.1, HJ.out.2.2.1, HS4.out, by
              rw [← HE2.out, ins_go HJA.out (by rw [← HJM.out, ← HX.out, ← HY.out]; exact HL0.out), ← HJM.out]⟩
            case measure => simp only [intOf, Int.toNat_natCast]; exact HJ.out.2.2.2
          | false =>
            have HL := fun w => Lib.hid (less_u hl w)
            have HST := Lib.hid (show dj = insInner ltInt a i dk by rw [← HE2.out, ins_stop (.inr (by rw [← HJM.out, ← HX.out, ← HY.out]; exact hl))])
            go_wp2_with fail
            go_quiet ((go_at_call 46; exact quiet_u (HL _).out))
            have hs3 := HS2.out.drewN nq
            generalize wr.drewN nq = W at hs3 ⊢
            have HS3 := Lib.hid hs3
            clear hs3 c1 c2 HL hl q1 q2 q3
            go_wp2_with fail
            go_roundw
            case rel => exact ⟨i + 1, dj, by go_num, HN1.out.1, HN1.out.2.1, HS3.out, by rw [← HE.out, insO_go HLT.out, ← HST.out]⟩
            case measure => simp [intOf]; (have := HN1.out; omega)
        · have q1 : decide ((j : Int) > (a : Int)) = false := decide_eq_false (by omega)
          have q2 : decide ((a : Int) < (j : Int)) = false := decide_eq_false (by omega)
          have q3 : decide (a < j) = false := decide_eq_false hja
          have HST := Lib.hid (show dj = insInner ltInt a i dk by rw [← HE2.out, ins_stop (.inl (by omega))])
          go_wp2_with fail
          go_quiet (fail)
          have hs3 := HS2.out.drewN nq
          generalize wr.drewN nq = W at hs3 ⊢
          have HS3 := Lib.hid hs3
          clear hs3 q1 q2 q3
          go_wp2_with fail
          go_roundw
          case rel => exact ⟨i + 1, dj, by go_num, HN1.out.1, HN1.out.2.1, HS3.out, by rw [← HE.out, insO_go HLT.out, ← HST.out]⟩
          case measure => simp [intOf]; (have := HN1.out; omega)
    · have z1 : decide ((i : Int) < (b : Int)) = false := decide_eq_false (by omega)
      have HLT := Lib.hid hlt
      clear hlt
      go_wp2_with fail
      rw [insO_stop HLT.out] at HE
      rw [← HE.out]
      exact ⟨rfl, _, results_none (by kernel_rfl) _ _ _, rfl, HS1.out⟩
end Go.Proofs.Ytjplchajopkpcaa
