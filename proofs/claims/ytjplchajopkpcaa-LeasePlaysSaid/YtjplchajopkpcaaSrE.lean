/-
  slices.partialInsertionSortOrdered at uint32. Conditions: fewer than fifty.
-/
import Derived.Test.YtjplchajopkpcaaSrD
namespace Go.Proofs.Ytjplchajopkpcaa
open Go.RowKit Go.Sort

section
variable {i b : Nat} {d : Array Int}
theorem scan_go (h : i < b) (hl : ltInt d[i]! d[i - 1]! = false) : scanSorted ltInt d b i = scanSorted ltInt d b (i + 1) := by rw [scanSorted, if_pos (by simp [h, hl])]
theorem scan_stop (h : ¬ i < b ∨ ltInt d[i]! d[i - 1]! = true) : scanSorted ltInt d b i = i := by
  rw [scanSorted, if_neg]
  rcases h with h | h <;> simp [h]
end
theorem partial_is {a b : Nat} {d : Array Int} (hl : b - a < 50) : partialInsertionSort ltInt d a b = (d, decide (scanSorted ltInt d b (a + 1) = b)) := by
  unfold partialInsertionSort
  rw [partialIns]
  simp only
  by_cases h : scanSorted ltInt d b (a + 1) = b
  · rw [if_pos h, decide_eq_true h]
  · rw [if_neg h, if_pos hl, decide_eq_false h]
/-- between two rounds of the scan -/
def ScI (w0 : World) (base g n c a b R : Nat) (d : Array Int) (v : Value) (w : World) : Prop := ∃ i : Nat, v = .int .i64 (i : Int) ∧ a < i ∧ i ≤ b ∧ Sr w0 base g n c d w ∧ scanSorted ltInt d b i = R
/-- at the one round of the outer loop -/
def ScO (w0 : World) (base g n c a : Nat) (d : Array Int) (v7 v8 : Value) (w : World) : Prop := v7 = .int .i64 ((a + 1 : Nat) : Int) ∧ v8 = .int .i64 0 ∧ Sr w0 base g n c d w
set_option maxRecDepth 100000 in
set_option maxHeartbeats 4000000 in
theorem partial_u {w0 w : World} {base g n c a b : Nat} {d : Array Int} (h : Sr w0 base g n c d w) (hab : a < b) (hb : b ≤ n) (hn : n ≤ 1000000) (hl : b - a < 50) :
    Calls Try.prog 45 #[.slice (some ⟨g, 0, none⟩) n c, .int .i64 (a : Int), .int .i64 (b : Int)] w fun e w' => e = .returned (.bool (partialInsertionSort ltInt d a b).2) ∧ (partialInsertionSort ltInt d a b).1 = d ∧ Sr w0 base g n c d w' := by
  rw [partial_is hl]
  simp only
  obtain ⟨R, hR⟩ : ∃ R, R = scanSorted ltInt d b (a + 1) := ⟨_, rfl⟩
  rw [← hR]
  have HR := Lib.hid hR
  have HS := Lib.hid h
  have HAB := Lib.hid hab
  have ha9 : a < 1000000 := by omega
  have HB := Lib.hid (show b ≤ n ∧ n ≤ 1000000 from ⟨hb, hn⟩)
  obtain ⟨L, hL⟩ : ∃ L, L = b - a := ⟨_, rfl⟩
  have e1 := wr4 (a := a) (b := b) (L := L) (by omega) (by omega)
  have z5 : decide ((L : Int) < 50) = true := decide_eq_true (by omega)
  have z6 : decide (L < 50) = true := decide_eq_true (by omega)
  clear h hab hb hn hl hR hL
  go_enter Try.func45, Try.ntmps45
  go_wp2_with fail
  go_loopw [7, 8] (fun v7 v8 wr => ScO w0 base g n c a d v7 v8 wr) (fun v7 v8 _ => 0)
  case atStart => exact ⟨by go_num, rfl, HS.out⟩
  case round =>
    obtain ⟨rfl, rfl, hs⟩ := hrel
    have HS1 := Lib.hid hs
    clear hs
    go_wp2_with fail
    go_loopw [7] (fun v wr2 => ScI w0 base g n c a b R d v wr2) (fun v _ => b - (intOf v).toNat)
    case atStart => exact ⟨a + 1, by first | rfl | go_num, Nat.lt_succ_self _, HAB.out, HS1.out, HR.out.symm⟩
    case round =>
      obtain ⟨i, rfl, hai, hib, hs, he⟩ := hrel
      have HE := Lib.hid he
      have HS2 := Lib.hid hs
      clear he hs
      by_cases hlt : i < b
      · have hi9 : i < 1000000 := by have := HB.out; omega
        have hi0 : 0 < i := by omega
        obtain ⟨im, him⟩ : ∃ q, q = i - 1 := ⟨_, rfl⟩
        have HI := Lib.hid (show i < b ∧ a < i + 1 ∧ i + 1 ≤ b ∧ b - (i + 1) < b - i ∧ im = i - 1 by omega)
        have hin : i < n := by have := HB.out; omega
        have him2 : im < n := by omega
        have c1 := HS2.out.cell hin
        have c2 := HS2.out.cell him2
        have z1 : decide ((i : Int) < (b : Int)) = true := decide_eq_true (by omega)
        have z2 : decide (i < b) = true := decide_eq_true hlt
        have hne := Lib.hid (show ((i : Int) == (b : Int)) = false by simp; omega)
        have l2 : (i : Int) < (n : Int) := Int.ofNat_lt.2 hin
        have l4 : (im : Int) < (n : Int) := Int.ofNat_lt.2 him2
        have hm : wrap64 ((i : Int) - 1) = (im : Int) := wr4 (L := im) (a := 1) (by omega) (by omega)
        have hm2 : IntKind.i64.wrap ((i : Int) - 1) = (im : Int) := wr6 (L := im) (a := 1) (by omega) (by omega)
        obtain ⟨x, hx⟩ : ∃ x, x = d[i]! := ⟨_, rfl⟩
        obtain ⟨y, hy⟩ : ∃ y, y = d[im]! := ⟨_, rfl⟩
        rw [← hx] at c1
        rw [← hy] at c2
        have HX := Lib.hid hx
        have HY := Lib.hid hy
        clear him hx hy hin him2 hlt hai hib
        cases hl : ltInt x y with
        | true =>
          have HL := fun w => Lib.hid (less_u hl w)
          have HST := Lib.hid (show i = R by rw [← HE.out, scan_stop (.inr (by rw [← HI.out.2.2.2.2, ← HX.out, ← HY.out]; exact hl))])
          clear hl
          go_wp2_with fail
          go_quiet ((go_at_call 46; exact quiet_u (HL _).out))
          have hs3 := HS2.out.drewN nq
          generalize wr.drewN nq = W at hs3 ⊢
          have HS3 := Lib.hid hs3
          have zne := hne.out
          clear hs3 c1 c2 HL z1 z2
          go_wp2_with fail
          go_ret
          exact ⟨by rw [decide_eq_false (by rw [← HST.out]; have := HI.out; omega)] <;> rfl, trivial, HS3.out⟩
        | false =>
          have HL := fun w => Lib.hid (less_u hl w)
          have HST := Lib.hid (show scanSorted ltInt d b (i + 1) = R by rw [← HE.out, scan_go HI.out.1 (by rw [← HI.out.2.2.2.2, ← HX.out, ← HY.out]; exact hl)])
          clear hl
          go_wp2_with fail
          go_quiet ((go_at_call 46; exact quiet_u (HL _).out))
          have hs3 := HS2.out.drewN nq
          generalize wr.drewN nq = W at hs3 ⊢
          have HS3 := Lib.hid hs3
          clear hs3 c1 c2 HL z1 z2 hm hm2
          go_wp2_with fail
          go_roundw
          case rel => exact ⟨i + 1, by go_num, HI.out.2.1, HI.out.2.2.1, HS3.out, HST.out⟩
          case measure => simp [intOf]; (have := HI.out; omega)
      · have hib2 : i = b := by omega
        subst hib2
        have z1 : decide ((i : Int) < (i : Int)) = false := by simp
        have zq : ((i : Int) == (i : Int)) = true := by simp
        have HST := Lib.hid (show i = R by rw [← HE.out, scan_stop (.inl hlt)])
        clear hlt hib hai
        go_wp2_with fail
        go_quiet (fail)
        have hs3 := HS2.out.drewN nq
        generalize wr.drewN nq = W at hs3 ⊢
        have HS3 := Lib.hid hs3
        clear hs3
        go_wp2_with fail
        go_ret
        exact ⟨by rw [decide_eq_true HST.out.symm] <;> rfl, trivial, HS3.out⟩
end Go.Proofs.Ytjplchajopkpcaa
