/-
  slices.reverseRangeOrdered, order2Ordered, medianOrdered, choosePivotOrdered at uint32. Conditions: rows of at most a million; below fifty for the pivot.
-/
import Derived.Test.YtjplchajopkpcaaSrA
namespace Go.Proofs.Ytjplchajopkpcaa
open Go.RowKit Go.Sort

section
variable {i j : Nat} {d : Array Int}
theorem rev_go (h : i < j) : reverseLoop i j d = reverseLoop (i + 1) (j - 1) (swp d i j) := by rw [reverseLoop, if_pos h]
theorem rev_stop (h : ¬ i < j) : reverseLoop i j d = d := by rw [reverseLoop, if_neg h]
end
/-- between two rounds -/
def RvO (w0 : World) (base g n c : Nat) (R : Array Int) (vi vj : Value) (w : World) : Prop := ∃ (i j : Nat) (dk : Array Int), vi = .int .i64 (i : Int) ∧ vj = .int .i64 (j : Int) ∧ i < n ∧ j < n ∧ Sr w0 base g n c dk w ∧ reverseLoop i j dk = R
set_option maxRecDepth 100000 in
set_option maxHeartbeats 4000000 in
theorem reverse_u {w0 w : World} {base g n c a b : Nat} {d : Array Int} (h : Sr w0 base g n c d w) (hab : a < b) (hb : b ≤ n) (hn : n ≤ 1000000) :
    Calls Try.prog 44 #[.slice (some ⟨g, 0, none⟩) n c, .int .i64 (a : Int), .int .i64 (b : Int)] w fun e w' => e = .returned (.tuple #[]) ∧ Sr w0 base g n c (reverseRange d a b) w' := by
  have HS := Lib.hid h
  obtain ⟨bm, rfl⟩ : ∃ q, b = q + 1 := ⟨b - 1, by omega⟩
  have H0 := Lib.hid (show a < n ∧ bm < n ∧ reverseLoop a bm d = reverseRange d a (bm + 1) from ⟨by omega, by omega, rfl⟩)
  have hbm : bm < 1000000 := by omega
  clear h hab hb
  go_enter Try.func44, Try.ntmps44
  go_wp2_with fail
  go_loopw [6, 7] (fun vi vj wr => RvO w0 base g n c (reverseRange d a (bm + 1)) vi vj wr) (fun vi vj _ => (intOf vj).toNat)
  case atStart => exact ⟨a, bm, d, rfl, by go_num, H0.out.1, H0.out.2.1, HS.out, H0.out.2.2⟩
  case round =>
    obtain ⟨i, j, dk, rfl, rfl, hi, hj, hs, he⟩ := hrel
    have HE := Lib.hid he
    have HS1 := Lib.hid hs
    clear he hs hbm
    by_cases hlt : i < j
    · have HLT := Lib.hid hlt
      have HI := Lib.hid hi
      have HJ := Lib.hid hj
      have HM := Lib.hid (show i + 1 < n ∧ j - 1 < n ∧ j - 1 < j by omega)
      have hi9 : i < 1000000 := by omega
      have hj9 : j < 1000000 := by omega
      have hj0 : 0 < j := by omega
      have l1 : (i : Int) < (n : Int) := Int.ofNat_lt.2 hi
      have l2 : (j : Int) < (n : Int) := Int.ofNat_lt.2 hj
      have c1 := HS1.out.cell hi
      have c2 := HS1.out.cell hj
      have f1 := HS1.out.fro (j := i)
      have f2 := HS1.out.fro (j := j)
      obtain ⟨x, hx⟩ : ∃ x, x = dk[i]! := ⟨_, rfl⟩
      obtain ⟨y, hy⟩ : ∃ y, y = dk[j]! := ⟨_, rfl⟩
      have hs4 := (HS1.out.swap (i := i) (j := j) hi hj).drew
      rw [← hx] at c1 hs4
      rw [← hy] at c2 hs4
      obtain ⟨u, c3⟩ := HS1.out.cell2 (i := i) hj (.int .u32 y)
      clear hx hy hi hj
      go_wp2_with fail
      go_region
      generalize ((wr.setCell ⟨g, i, none⟩ (.int .u32 y)).setCell ⟨g, j, none⟩ (.int .u32 x)).drew = W4 at hs4 ⊢
      have HS4 := Lib.hid hs4
      clear hs4 c1 c2 c3 f1 f2
      go_wp2_with fail
      go_roundw
      case rel => exact ⟨i + 1, j - 1, swp dk i j, by go_num, by go_num, HM.out.1, HM.out.2.1, HS4.out, by rw [← HE.out, rev_go HLT.out]⟩
      case measure => simp [intOf]; (have := HM.out; omega)
    · have HST := Lib.hid (rev_stop (d := dk) hlt)
      go_wp2_with fail
      rw [HST.out] at HE
      rw [← HE.out]
      exact ⟨rfl, _, results_none (by kernel_rfl) _ _ _, rfl, HS1.out⟩
/-- the counter of the pivot beside the row -/
structure Cnt (w0 : World) (base g n c : Nat) (d : Array Int) (k s : Nat) (w : World) : Prop where
  row : Sr w0 base g n c d w
  blk : w.heap[k]? = some (.cells #[.int .i64 (s : Int)] 3 (0, 0))
  new : w0.heap.size ≤ k
  ne : k ≠ g
section
variable {w0 w w' : World} {base g n c k s : Nat} {d : Array Int}
theorem Cnt.cell (h : Cnt w0 base g n c d k s w) : w.cell? ⟨k, 0, none⟩ = some (.int .i64 (s : Int)) := cell0 (r := []) h.blk
theorem Cnt.fro (h : Cnt w0 base g n c d k s w) : w.frozen? ⟨k, 0, none⟩ = false := frozen_of_row w k 0 _ _ h.blk
theorem Cnt.then_ (h : Cnt w0 base g n c d k s w) (hb : Below w.heap.size w w') : Cnt w0 base g n c d k s w' := ⟨h.row.then_ hb, below_old hb h.blk (lt_of_block h.blk), h.new, h.ne⟩
theorem Cnt.drewN (h : Cnt w0 base g n c d k s w) (q : Nat) : Cnt w0 base g n c d k s (w.drewN q) := h.then_ ⟨rfl, rfl, rfl, Nat.le_refl _, fun _ _ => rfl⟩
theorem Cnt.bump (h : Cnt w0 base g n c d k s w) (t : Nat) : Cnt w0 base g n c d k t (w.setCell ⟨k, 0, none⟩ (.int .i64 (t : Int))) :=
  ⟨h.row.tn_ (T := fun i => i = k) ((Tn.refl (fun i => i = k) w).set_ (p := ⟨k, 0, none⟩) (Or.inr rfl) _) (fun b hb e => by have := h.new; omega) (fun e => h.ne e.symm), blk_set h.blk _, h.new, h.ne⟩
end
set_option maxRecDepth 100000 in
set_option maxHeartbeats 4000000 in
theorem order2_u {w0 w : World} {base g n c k s a b : Nat} {d : Array Int} (h : Cnt w0 base g n c d k s w) (ha : a < n) (hb : b < n) (hs : s < 1000000) :
    Calls Try.prog 57 #[.slice (some ⟨g, 0, none⟩) n c, .int .i64 (a : Int), .int .i64 (b : Int), .pointer (some ⟨k, 0, none⟩)] w fun e w' => e = .returned (.tuple #[.int .i64 ((order2 ltInt d a b s).1 : Int), .int .i64 ((order2 ltInt d a b s).2.1 : Int)]) ∧ Cnt w0 base g n c d k (order2 ltInt d a b s).2.2 w' := by
  have HS := Lib.hid h
  have l1 : (a : Int) < (n : Int) := Int.ofNat_lt.2 ha
  have l2 : (b : Int) < (n : Int) := Int.ofNat_lt.2 hb
  have c1 := HS.out.row.cell ha
  have c2 := HS.out.row.cell hb
  obtain ⟨x, hx⟩ : ∃ x, x = d[a]! := ⟨_, rfl⟩
  obtain ⟨y, hy⟩ : ∃ y, y = d[b]! := ⟨_, rfl⟩
  rw [← hx] at c1
  rw [← hy] at c2
  cases hl : ltInt y x with
  | true =>
    have HO := Lib.hid (show order2 ltInt d a b s = (b, a, s + 1) by unfold order2; rw [← hx, ← hy, hl]; rfl)
    have HL := fun w => Lib.hid (less_u hl w)
    clear h hl hx hy ha hb
    go_enter Try.func57, Try.ntmps57
    go_wp2_with fail
    go_quiet ((go_at_call 46; exact quiet_u (HL _).out))
    have hs3 := HS.out.drewN nq
    generalize w.drewN nq = W at hs3 ⊢
    have HS3 := Lib.hid hs3
    have c5 := hs3.cell
    have f5 := hs3.fro
    clear hs3 c1 c2 HL
    go_wp2_with fail
    go_returns
    rw [HO.out]
    exact ⟨rfl, by have := HS3.out.bump (s + 1); simpa using this⟩
  | false =>
    have HO := Lib.hid (show order2 ltInt d a b s = (a, b, s) by unfold order2; rw [← hx, ← hy, hl]; rfl)
    have HL := fun w => Lib.hid (less_u hl w)
    clear h hl hx hy ha hb
    go_enter Try.func57, Try.ntmps57
    go_wp2_with fail
    go_quiet ((go_at_call 46; exact quiet_u (HL _).out))
    have hs3 := HS.out.drewN nq
    generalize w.drewN nq = W at hs3 ⊢
    have HS3 := Lib.hid hs3
    clear hs3 c1 c2 HL
    go_wp2_with fail
    go_returns
    rw [HO.out]
    exact ⟨rfl, HS3.out⟩
end Go.Proofs.Ytjplchajopkpcaa
