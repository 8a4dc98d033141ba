/-
  The statements' own fit: a row brought to fit a length, of one client, at most twenty units. Conditions: the length is at most a thousand.
-/
import Derived.Test.YtaboamkfpolpbaaWvG
namespace Go.Proofs.Ytaboamkfpolpbaa
open Go.RowKit
open Pl (Un)

namespace Pl
/-- how long a text is behind a row brought to fit -/
def endN : List Un → Nat → Nat
  | [], n => n
  | u :: r, n => endN r (if u.k = 1 then n + 1 else if u.k = 2 then n - 1 else n)
theorem endN_snoc (l : List Un) (u : Un) (n : Nat) : endN (l ++ [u]) n = if u.k = 1 then endN l n + 1 else if u.k = 2 then endN l n - 1 else endN l n := by
  induction l generalizing n with
  | nil => rfl
  | cons v l ih => exact ih _
theorem br_snoc {c : Int} {P : Int → Prop} : ∀ {l : List Un} {n : Nat} {u : Un}, Br c P l n → Br c P [u] (endN l n) → Br c P (l ++ [u]) n
  | [], _, _, _, h => h
  | v :: l, n, u, h, hu => by
    obtain ⟨h1, h2⟩ := h
    refine ⟨h1, ?_⟩
    have hu' : Br c P [u] (endN l (if v.k = 1 then n + 1 else if v.k = 2 then n - 1 else n)) := hu
    rcases h2 with ⟨e, a, b, h⟩ | ⟨e, a, b, d, h⟩ | ⟨e, a, b, h⟩
    · rw [if_neg (by omega), if_neg (by omega)] at hu'
      exact Or.inl ⟨e, a, b, br_snoc h hu'⟩
    · rw [if_pos e] at hu'
      exact Or.inr (Or.inl ⟨e, a, b, d, br_snoc h hu'⟩)
    · rw [if_neg (by omega), if_pos e] at hu'
      exact Or.inr (Or.inr ⟨e, a, b, br_snoc h hu'⟩)
theorem endN_le (l : List Un) (n : Nat) : endN l n ≤ n + l.length := by
  induction l generalizing n with
  | nil => exact Nat.le_refl _
  | cons u l ih =>
    refine Nat.le_trans (ih _) ?_
    simp only [List.length_cons]
    split
    · omega
    · split <;> omega
/-- the code points that fit gives an Ins -/
def Az (c : Int) : Prop := 97 ≤ c ∧ c ≤ 112
theorem az_may {c : Int} (h : Az c) : May c := by unfold Az at h; unfold May; omega
theorem may0 : May 0 := by unfold May; omega
end Pl
/-- a number counted round, as int(uint(p) % uint(n)) -/
theorem round_i (p : Int) (n : Nat) (h0 : 0 < n) (hn : n ≤ 100000) : ∃ U q : Nat, IntKind.u64.wrap p = (U : Int) ∧ IntKind.u64.wrap (n : Int) = (n : Int) ∧ (U : Int).tmod (n : Int) = (q : Int) ∧ q < n ∧ IntKind.u64.wrap (q : Int) = (q : Int) ∧ IntKind.i64.wrap (q : Int) = (q : Int) ∧ wrap64 (q : Int) = (q : Int) := by
  obtain ⟨U, hU⟩ : ∃ U, U = (p % 18446744073709551616).toNat := ⟨_, rfl⟩
  obtain ⟨q, hq⟩ : ∃ q, q = U % n := ⟨_, rfl⟩
  have hlt := Nat.mod_lt U h0
  rw [← hq] at hlt
  refine ⟨U, q, ?_, ?_, ?_, hlt, ?_, ?_, ?_⟩
  · rw [IntKind.wrap_u64]; omega
  · rw [IntKind.wrap_u64]; omega
  · rw [hq, Int.ofNat_tmod]
  · rw [IntKind.wrap_u64]; omega
  · rw [IntKind.wrap_i64]; omega
  · unfold wrap64; omega
theorem and15 (x : Int) : ∃ c : Nat, c ≤ 15 ∧ bits BinOp.and IntKind.i32 x 15 = (c : Int) := by
  obtain ⟨c, hc⟩ : ∃ c, c = (BitVec.ofInt 32 x &&& BitVec.ofInt 32 15).toNat := ⟨_, rfl⟩
  have hle : c ≤ 15 := by
    rw [hc, BitVec.toNat_and]
    exact Nat.and_le_right
  refine ⟨c, hle, ?_⟩
  have e : bits BinOp.and IntKind.i32 x 15 = IntKind.i32.wrap ((BitVec.ofInt 32 x &&& BitVec.ofInt 32 15).toNat) := rfl
  rw [e, ← hc, IntKind.wrap_i32]
  omega
/-- in the drawn region: the unit's own cells -/
def FiS (wr : World) (b : Nat) (k p ch q c2 x y : Int) (L : Nat → Bool) (w : World) : Prop :=
  UAt w b (if L 13 = true then 1 else k) (if L 15 = true then q else p) (if L 17 = true then c2 else ch) x y ∧ (L 15 = true → L 1 = true) ∧ (L 17 = true → L 9 = true) ∧ Tn (fun z => z = b) wr w
section
variable {wr w : World} {b i : Nat} {k p ch q c2 x y : Int} {L : Nat → Bool}
theorem rq_other {m i : Nat} (h : m ≠ i) : Rq.up L m i = L i := by simp [Rq.up, h]
theorem rq_same {i : Nat} : Rq.up L i i = true := by simp [Rq.up]
theorem rq_keep {m i : Nat} (h : L i = true) : Rq.up L m i = true := by simp [Rq.up, h]
theorem FiS.stay (h : FiS wr b k p ch q c2 x y L w) (h1 : i ≠ 13) (h2 : i ≠ 15) (h3 : i ≠ 17) : FiS wr b k p ch q c2 x y (Rq.up L i) w := by
  obtain ⟨g1, g2, g3, g4⟩ := h
  unfold FiS
  rw [rq_other h1, rq_other h2, rq_other h3]
  exact ⟨g1, fun h => rq_keep (g2 h), fun h => rq_keep (g3 h), g4⟩
theorem FiS.pos (h : FiS wr b k p ch q c2 x y L w) (hL : L 1 = false) : w.cell? ⟨b, 1, none⟩ = some (.int .i64 p) := by
  have e : L 15 = false := by
    cases e : L 15 with
    | false => rfl
    | true => have := h.2.1 e; rw [hL] at this; cases this
  have := h.1.cells.2.1
  rw [e] at this
  simpa using this
theorem FiS.chr (h : FiS wr b k p ch q c2 x y L w) (hL : L 9 = false) : w.cell? ⟨b, 2, none⟩ = some (.int .i32 ch) := by
  have e : L 17 = false := by
    cases e : L 17 with
    | false => rfl
    | true => have := h.2.2.1 e; rw [hL] at this; cases this
  have := h.1.cells.2.2.1
  rw [e] at this
  simpa using this
theorem FiS.set0 (h : FiS wr b k p ch q c2 x y L w) : FiS wr b k p ch q c2 x y (Rq.up L 13) (w.setCell ⟨b, 0, none⟩ (.int .i64 1)) := by
  obtain ⟨g1, g2, g3, g4⟩ := h
  unfold FiS
  rw [rq_same, rq_other (show 13 ≠ 15 by decide), rq_other (show 13 ≠ 17 by decide), if_pos rfl]
  exact ⟨blk_set (i := 0) g1 (.int .i64 1), fun h => rq_keep (g2 h), fun h => rq_keep (g3 h), Tn.set_ (T := fun z => z = b) g4 (p := ⟨b, 0, none⟩) (Or.inr rfl) _⟩
theorem FiS.set1 (h : FiS wr b k p ch q c2 x y L w) (h1 : L 1 = true) : FiS wr b k p ch q c2 x y (Rq.up L 15) (w.setCell ⟨b, 1, none⟩ (.int .i64 q)) := by
  obtain ⟨g1, g2, g3, g4⟩ := h
  unfold FiS
  rw [rq_same, rq_other (show 15 ≠ 13 by decide), rq_other (show 15 ≠ 17 by decide), if_pos rfl]
  exact ⟨blk_set (i := 1) g1 (.int .i64 q), fun _ => rq_keep h1, fun h => rq_keep (g3 h), Tn.set_ (T := fun z => z = b) g4 (p := ⟨b, 1, none⟩) (Or.inr rfl) _⟩
theorem FiS.set2 (h : FiS wr b k p ch q c2 x y L w) (h1 : L 9 = true) : FiS wr b k p ch q c2 x y (Rq.up L 17) (w.setCell ⟨b, 2, none⟩ (.int .i32 c2)) := by
  obtain ⟨g1, g2, g3, g4⟩ := h
  unfold FiS
  rw [rq_same, rq_other (show 17 ≠ 13 by decide), rq_other (show 17 ≠ 15 by decide), if_pos rfl]
  exact ⟨blk_set (i := 2) g1 (.int .i32 c2), fun h => rq_keep (g2 h), fun _ => rq_keep h1, Tn.set_ (T := fun z => z = b) g4 (p := ⟨b, 2, none⟩) (Or.inr rfl) _⟩
end
theorem fi_meas {m j : Nat} (h : j < m) : m - (j + 1) < m - j := by omega
/-- between one unit and the next -/
def FiR (w : World) (x : Int) (l : List Un) (N : Nat) (s o i : Value) (wr : World) : Prop := ∃ (j : Nat) (A : Option Addr) (c : Nat) (out : List Un), i = .int .i64 (j : Int) ∧ s = .int .i64 ((Pl.endN out N : Nat) : Int) ∧ o = .slice A j c ∧ out.length = j ∧ j ≤ l.length ∧ j ≤ 20 ∧ OwnU wr w.heap.size (.slice A j c) out ∧ Pl.Br x Pl.Az out N ∧ Below w.heap.size w wr
/-- what fit tells -/
def RetF (w : World) (x : Int) (N : Nat) (e : Ending) (w' : World) : Prop := ∃ (A : Option Addr) (c : Nat) (out : List Un), e = .returned (.slice A out.length c) ∧ out.length ≤ 20 ∧ OwnU w' w.heap.size (.slice A out.length c) out ∧ Pl.Br x Pl.Az out N ∧ Below w.heap.size w w'
set_option maxRecDepth 100000 in
set_option maxHeartbeats 2000000 in
theorem fit_any (A : Option Addr) (m c : Nat) (l : List Un) (N : Nat) (x : Int) (w : World) (h : Uns w w.heap.size A m c l) (hl : ∀ u ∈ l, Pl.UnB u) (hN : N ≤ 1000) :
    Calls Try.prog 17 #[.slice A m c, .int .i64 (N : Int), .int .u32 x] w (RetF w x N) := by
  have hcap := h.cap
  have hle := h.le
  unfold maxLen at hcap
  have HU := Lib.hid h
  have HML := Lib.hid h.len
  have HLB := Lib.hid hl
  clear h hl
  go_enter Try.func17, Try.ntmps17
  go_wp2_with fail
  go_loopw [1, 7, 12] (fun s o i wr => FiR w x l N s o i wr) (fun _ _ i _ => m - (intOf i).toNat)
  case atStart => exact ⟨0, none, 0, [], rfl, rfl, rfl, rfl, Nat.zero_le _, Nat.zero_le _, OwnR.nil_ _ _ _ _ _, trivial, Below.refl _ _⟩
  case round =>
    obtain ⟨j, A2, c2, out, rfl, rfl, rfl, hol, hj, hj20, ho, hbr, hb⟩ := hrel
    have HB := Lib.hid hb
    have HO := Lib.hid ho
    have HBR := Lib.hid hbr
    have HOL := Lib.hid hol
    have hen := Pl.endN_le out N
    rw [HML.out] at hj
    obtain ⟨n, hn⟩ : ∃ n, n = Pl.endN out N := ⟨_, rfl⟩
    rw [← hn] at hen ⊢
    have HN := Lib.hid hn
    clear hb ho hbr hol hn
    by_cases hlt : j < m
    · obtain ⟨g1, o1, rfl, hg1, hc1⟩ := Uns.at_ (Rws.below HU.out HB.out (Nat.le_refl _)) hlt
      obtain ⟨a0, a1, a2, a3, a4⟩ := hc1 j hlt
      have hjl : j < l.length := by rw [HML.out]; exact hlt
      have hub := HLB.out _ (mem_getD hjl)
      obtain ⟨u, hu⟩ : ∃ u, u = l.getD j default := ⟨_, rfl⟩
      rw [← hu] at a0 a1 a2 a3 a4 hub
      obtain ⟨k, p, ch, x1, y1⟩ := u
      simp only at a0 a1 a2 a3 a4
      have z0 : (0 : Int) ≤ (j : Int) := by omega
      have z1 : (j : Int) < (m : Int) := by omega
      have HUB := Lib.hid hub
      clear hc1 hu hub
      by_cases h20 : j = 20
      · subst h20
        replace a0 : wr.cell? ⟨g1, o1 + 100, none⟩ = some (.int .i64 k) := a0
        replace a1 : wr.cell? ⟨g1, o1 + 100 + 1, none⟩ = some (.int .i64 p) := a1
        replace a2 : wr.cell? ⟨g1, o1 + 100 + 2, none⟩ = some (.int .i32 ch) := a2
        replace a3 : wr.cell? ⟨g1, o1 + 100 + 3, none⟩ = some (.int .u32 x1) := a3
        replace a4 : wr.cell? ⟨g1, o1 + 100 + 4, none⟩ = some (.int .u64 y1) := a4
        have z1 : (20 : Int) < (m : Int) := by omega
        go_wp2_with fail
        go_ret
        refine ⟨A2, c2, out, ?_, by rw [HOL.out]; exact Nat.le_refl _, ?_, HBR.out, below_then' HB.out (below_box wr _) HB.out.size⟩
        · rw [HOL.out]; rfl
        · rw [HOL.out]; exact OwnR.then_ HO.out (below_box wr _)
      · have hb20 : ((j : Int) == 20) = false := by rw [beq_eq_false_iff_ne]; omega
        have HJ := Lib.hid (show j + 1 ≤ m ∧ j + 1 ≤ 20 from by omega)
        by_cases h2 : k = 2 ∧ 0 < n
        · obtain ⟨rfl, hn0⟩ := h2
          have z2 : (0 : Int) < (n : Int) := by omega
          obtain ⟨U, q, r1, r2, r3, r4, r5, r6, r7⟩ := round_i p n hn0 (by have := HOL.out; omega)
          have hw1 : wrap64 ((n : Int) - 1) = ((n - 1 : Nat) : Int) := by have := HOL.out; unfold wrap64; omega
          have HBR2 := Lib.hid (Pl.br_snoc HBR.out (show Pl.Br x Pl.Az [⟨2, (q : Int), 0, x, 1⟩] (Pl.endN out N) from ⟨rfl, Or.inr (Or.inr ⟨rfl, ⟨q, rfl, by rw [← HN.out]; exact r4⟩, Pl.may0, trivial⟩)⟩))
          have HEN2 := Lib.hid (show Pl.endN (out ++ [⟨2, (q : Int), 0, x, 1⟩]) N = n - 1 from by rw [Pl.endN_snoc, ← HN.out]; rfl)
          obtain ⟨W1, hW1⟩ : ∃ W1, W1 = wr.alloc (.cells #[.int .i64 2, .int .i64 (q : Int), .int .i32 0, .int .u32 x, .int .u64 1] 36) := ⟨_, rfl⟩
          have HSZ := Lib.hid (show W1.heap.size = wr.heap.size + 1 by rw [hW1]; simp)
          have hbb : Below wr.heap.size wr W1 := by rw [hW1]; exact below_box _ _
          have HOO := Lib.hid (OwnR.then_ HO.out hbb)
          have HBB := Lib.hid (below_then' HB.out hbb HB.out.size)
          clear hbb r4
          have HRW := Lib.hid (show OwnU (World.alloc W1 (.cells #[.int .i64 2, .int .i64 (q:Int), .int .i32 0, .int .u32 x, .int .u64 1] 36)) wr.heap.size (.slice (some ⟨(wr.heap.size+1), 0, none⟩) 1 1) [⟨2, (q:Int), 0, x, 1⟩] from by
            have h := unit_row W1 2 (q:Int) 0 x 1
            rw [HSZ.out] at h
            exact OwnR.lower h (by omega))
          have HOW := Lib.hid (show OwnU (World.alloc W1 (.cells #[.int .i64 2, .int .i64 (q:Int), .int .i32 0, .int .u32 x, .int .u64 1] 36)) w.heap.size (.slice A2 j c2) out from OwnR.then_ HOO.out (below_box _ _))
          have HBW := Lib.hid (below_then' HBB.out (below_box W1 (.cells #[.int .i64 2, .int .i64 (q:Int), .int .i32 0, .int .u32 x, .int .u64 1] 36)) HBB.out.size)
          rw [hW1] at HRW HOW HBW
          have hjm : j < m := hlt
          clear hW1
          go_wp2_with (at_builtin; refine wpList_append_rws encU_len encU_one Try.underlying22 infoUn (by decide) (by decide) (World.alloc (wr.alloc (.cells #[.int .i64 2, .int .i64 (q:Int), .int .i32 0, .int .u32 x, .int .u64 1] 36)) (.cells #[.int .i64 2, .int .i64 (q:Int), .int .i32 0, .int .u32 x, .int .u64 1] 36)) rfl (.tmp 64) (.tmp 66) rfl w.heap.size A2 j c2 out (by rfl) HOW.out _ (some ⟨(wr.heap.size+1), 0, none⟩) 1 1 [⟨2, (q:Int), 0, x, 1⟩] (by rfl) (OwnU.uns HRW.out) (by unfold maxLen; omega) (by omega) HBW.out.size ?_)
          intro A3 c3 w3 hO3 hg3 hat3
          have HO3 := Lib.hid (show OwnU w3 w.heap.size (.slice A3 (j + 1) c3) (out ++ [⟨2, (q:Int), 0, x, 1⟩]) from hO3)
          have HB3 := Lib.hid (OwnR.grownBelow HOW.out hg3 HBW.out HBW.out.size)
          clear hO3 hg3 hat3
          go_wp2_with fail
          go_roundw
          case rel => exact ⟨j + 1, A3, c3, _, by go_num, by rw [HEN2.out], rfl, by rw [List.length_append, HOL.out]; rfl, by rw [HML.out]; exact HJ.out.1, HJ.out.2, HO3.out, HBR2.out, HB3.out⟩
          case measure => simp [intOf]; exact fi_meas hlt
        · by_cases h0 : k = 0
          · subst h0
            have HBR2 := Lib.hid (Pl.br_snoc HBR.out (show Pl.Br x Pl.Az [⟨0, 0, 0, x, 1⟩] (Pl.endN out N) from ⟨rfl, Or.inl ⟨rfl, rfl, rfl, trivial⟩⟩))
            have HEN2 := Lib.hid (show Pl.endN (out ++ [⟨0, 0, 0, x, 1⟩]) N = n from by rw [Pl.endN_snoc, ← HN.out]; rfl)
            obtain ⟨W1, hW1⟩ : ∃ W1, W1 = wr.alloc (.cells #[.int .i64 0, .int .i64 0, .int .i32 0, .int .u32 x, .int .u64 1] 36) := ⟨_, rfl⟩
            have HSZ := Lib.hid (show W1.heap.size = wr.heap.size + 1 by rw [hW1]; simp)
            have hbb : Below wr.heap.size wr W1 := by rw [hW1]; exact below_box _ _
            have HOO := Lib.hid (OwnR.then_ HO.out hbb)
            have HBB := Lib.hid (below_then' HB.out hbb HB.out.size)
            clear hbb h2
            have HRW := Lib.hid (show OwnU (World.alloc W1 (.cells #[.int .i64 0, .int .i64 0, .int .i32 0, .int .u32 x, .int .u64 1] 36)) wr.heap.size (.slice (some ⟨(wr.heap.size+1), 0, none⟩) 1 1) [⟨0, 0, 0, x, 1⟩] from by
              have h := unit_row W1 0 0 0 x 1
              rw [HSZ.out] at h
              exact OwnR.lower h (by omega))
            have HOW := Lib.hid (show OwnU (World.alloc W1 (.cells #[.int .i64 0, .int .i64 0, .int .i32 0, .int .u32 x, .int .u64 1] 36)) w.heap.size (.slice A2 j c2) out from OwnR.then_ HOO.out (below_box _ _))
            have HBW := Lib.hid (below_then' HBB.out (below_box W1 (.cells #[.int .i64 0, .int .i64 0, .int .i32 0, .int .u32 x, .int .u64 1] 36)) HBB.out.size)
            rw [hW1] at HRW HOW HBW
            clear hW1
            go_wp2_with (at_builtin; refine wpList_append_rws encU_len encU_one Try.underlying22 infoUn (by decide) (by decide) (World.alloc (wr.alloc (.cells #[.int .i64 0, .int .i64 0, .int .i32 0, .int .u32 x, .int .u64 1] 36)) (.cells #[.int .i64 0, .int .i64 0, .int .i32 0, .int .u32 x, .int .u64 1] 36)) rfl (.tmp 64) (.tmp 66) rfl w.heap.size A2 j c2 out (by rfl) HOW.out _ (some ⟨(wr.heap.size+1), 0, none⟩) 1 1 [⟨0, 0, 0, x, 1⟩] (by rfl) (OwnU.uns HRW.out) (by unfold maxLen; omega) (by omega) HBW.out.size ?_)
            intro A3 c3 w3 hO3 hg3 hat3
            have HO3 := Lib.hid (show OwnU w3 w.heap.size (.slice A3 (j + 1) c3) (out ++ [⟨0, 0, 0, x, 1⟩]) from hO3)
            have HB3 := Lib.hid (OwnR.grownBelow HOW.out hg3 HBW.out HBW.out.size)
            clear hO3 hg3 hat3
            go_wp2_with fail
            go_roundw
            case rel => exact ⟨j + 1, A3, c3, _, by go_num, by rw [HEN2.out], rfl, by rw [List.length_append, HOL.out]; rfl, by rw [HML.out]; exact HJ.out.1, HJ.out.2, HO3.out, HBR2.out, HB3.out⟩
            case measure => simp [intOf]; exact fi_meas hlt
          · have hk0 : (k == 0) = false := by simpa using h0
            obtain ⟨n1, hn1⟩ : ∃ n1, n1 = n + 1 := ⟨_, rfl⟩
            obtain ⟨U, q, r1, r3, r4, r4b, r5, r6, _⟩ := round_i p n1 (by omega) (by have := HOL.out; omega)
            have r0 : ¬ n1 = 0 := by rw [hn1]; exact Nat.succ_ne_zero n
            have hqn : q ≤ n := by rw [hn1] at r4b; exact Nat.lt_succ_iff.1 r4b
            obtain ⟨v15, hv15, r7⟩ := and15 ch
            obtain ⟨c4, hc4⟩ : ∃ c4, c4 = 97 + v15 := ⟨_, rfl⟩
            have r2 : IntKind.i64.wrap ((n : Int) + 1) = (n1 : Int) := by have := HOL.out; rw [IntKind.wrap_i64]; omega
            have r8 : IntKind.i32.wrap (97 + (v15 : Int)) = (c4 : Int) := by rw [IntKind.wrap_i32]; omega
            have hw1 : wrap64 ((n : Int) + 1) = (n1 : Int) := by have := HOL.out; unfold wrap64; omega
            have haz : Pl.Az (c4 : Int) := by unfold Pl.Az; omega
            have HBR2 := Lib.hid (Pl.br_snoc HBR.out (show Pl.Br x Pl.Az [⟨1, (q : Int), (c4 : Int), x, 1⟩] (Pl.endN out N) from ⟨rfl, Or.inr (Or.inl ⟨rfl, ⟨q, rfl, by rw [← HN.out]; exact hqn⟩, Pl.az_may haz, haz, trivial⟩)⟩))
            have HEN2 := Lib.hid (show Pl.endN (out ++ [⟨1, (q : Int), (c4 : Int), x, 1⟩]) N = n1 from by rw [Pl.endN_snoc, ← HN.out, hn1]; rfl)
            obtain ⟨W0, hW0⟩ : ∃ W0, W0 = wr.alloc (.cells #[.int .i64 k, .int .i64 p, .int .i32 ch, .int .u32 x, .int .u64 1] 36) := ⟨_, rfl⟩
            have hbb : Below wr.heap.size wr W0 := by rw [hW0]; exact below_box _ _
            have HSW := Lib.hid (show W0.heap.size = wr.heap.size + 1 by rw [hW0]; simp)
            obtain ⟨b, hb⟩ : ∃ b, b = wr.heap.size := ⟨_, rfl⟩
            have HU0 := Lib.hid (show FiS W0 b k p ch (q : Int) (c4 : Int) x 1 (fun _ => false) W0.drew from ⟨by rw [hb, hW0]; exact uat_new wr k p ch x 1, (fun h => by cases h), (fun h => by cases h), (Tn.refl _ _).drew⟩)
            have HO0 := Lib.hid (OwnR.then_ HO.out hbb)
            have HB0 := Lib.hid (below_then' HB.out hbb HB.out.size)
            have HBW0 := Lib.hid hb
            have HW0 := Lib.hid hW0
            have HKN := Lib.hid h2
            clear hbb r4b hv15 hc4 haz hb hW0 hn1 hqn
            by_cases hk2 : k = 2
            · have hn0 : n = 0 := by
                rcases Nat.eq_zero_or_pos n with h | h
                · exact h
                · exact absurd ⟨hk2, h⟩ h2
              subst hk2
              have z2 : ¬ (0 : Int) < (n : Int) := by rw [hn0]; exact Int.lt_irrefl 0
              clear h2 hn0
              go_wp2_with fail
              rw [← HW0.out, ← HBW0.out]
              clear a0 a1 a2 a3 a4
              refine Rq.wp_region_inv (FiS W0 b _ p ch (q : Int) (c4 : Int) x 1) PR0 (Rq.Wd.at [.is (.pointer (some ⟨b, 1, none⟩)), .is (.int .i64 p), .is (.int .u64 (U : Int)), .is (.int .i64 (n : Int)), .is (.int .i64 (n1 : Int)), .is (.int .u64 (n1 : Int)), .is (.int .u64 (q : Int)), .is (.int .i64 (q : Int)), .is (.pointer (some ⟨b, 2, none⟩)), .is (.int .i32 ch), .is (.int .i32 (v15 : Int)), .is (.int .i32 (c4 : Int)), .is (.pointer (some ⟨b, 0, none⟩)), .any, .is (.pointer (some ⟨b, 1, none⟩)), .any, .is (.pointer (some ⟨b, 2, none⟩)), .any]) (by kernel_rfl) (by kernel_rfl) (Rq.Wd.stays _ _ (fun i q hi => (by rcases i with _ | _ | _ | _ | _ | _ | _ | _ | _ | _ | _ | _ | _ | _ | _ | _ | _ | _ | i <;> simp at hi))) (HU0.out) ⟨?_, ?_, ?_, ?_, ?_, ?_, ?_, ?_, ?_, ?_, ?_, ?_, ?_, ?_, ?_, ?_, ?_, ?_, trivial⟩ ?_
              · intro L a w1 hL hS hb hd
                have e9 := hb 9 (Rq.nw (by decide))
                simp [Act.eval] at e9
                exact Rq.does_pure (Rq.wanted_none rfl) (by simp [execOp, e9, go_sem]) rfl (hS.stay (by decide) (by decide) (by decide)) trivial
              · intro L a w1 hL hS hb hd
                have p22 := (hd ⟨0, .data⟩ (by simp) rfl).2 _ _ rfl rfl
                have e22 : a.tmps[22]?.getD undef = (.pointer (some ⟨b, 1, none⟩)) := Rq.slot p22
                exact Rq.does_pure (Rq.wanted_none rfl) (by simp [execOp, e22, (hS.pos hL), go_sem]) rfl (hS.stay (by decide) (by decide) (by decide)) trivial
              · intro L a w1 hL hS hb hd
                have p23 := (hd ⟨1, .data⟩ (by simp) rfl).2 _ _ rfl rfl
                have e23 : a.tmps[23]?.getD undef = (.int .i64 p) := Rq.slot p23
                exact Rq.does_pure (Rq.wanted_none rfl) (by simp [execOp, e23, r1, go_sem]) rfl (hS.stay (by decide) (by decide) (by decide)) trivial
              · intro L a w1 hL hS hb hd
                have e1 := hb 1 (Rq.nw (by decide))
                simp [Act.eval] at e1
                exact Rq.does_pure (Rq.wanted_none rfl) (by simp [execOp, e1, go_sem]) rfl (hS.stay (by decide) (by decide) (by decide)) trivial
              · intro L a w1 hL hS hb hd
                have p25 := (hd ⟨3, .data⟩ (by simp) rfl).2 _ _ rfl rfl
                have e25 : a.tmps[25]?.getD undef = (.int .i64 (n : Int)) := Rq.slot p25
                exact Rq.does_pure (Rq.wanted_none rfl) (by simp [execOp, e25, r2, go_sem]) rfl (hS.stay (by decide) (by decide) (by decide)) trivial
              · intro L a w1 hL hS hb hd
                have p26 := (hd ⟨4, .data⟩ (by simp) rfl).2 _ _ rfl rfl
                have e26 : a.tmps[26]?.getD undef = (.int .i64 (n1 : Int)) := Rq.slot p26
                exact Rq.does_pure (Rq.wanted_none rfl) (by simp [execOp, e26, r3, go_sem]) rfl (hS.stay (by decide) (by decide) (by decide)) trivial
              · intro L a w1 hL hS hb hd
                have p24 := (hd ⟨2, .data⟩ (by simp) rfl).2 _ _ rfl rfl
                have e24 : a.tmps[24]?.getD undef = (.int .u64 (U : Int)) := Rq.slot p24
                have p27 := (hd ⟨5, .data⟩ (by simp) rfl).2 _ _ rfl rfl
                have e27 : a.tmps[27]?.getD undef = (.int .u64 (n1 : Int)) := Rq.slot p27
                exact Rq.does_pure (Rq.wanted_none rfl) (by simp [execOp, e24, e27, r4, r0, go_sem]) rfl (hS.stay (by decide) (by decide) (by decide)) trivial
              · intro L a w1 hL hS hb hd
                have p28 := (hd ⟨6, .data⟩ (by simp) rfl).2 _ _ rfl rfl
                have e28 : a.tmps[28]?.getD undef = (.int .u64 (q : Int)) := Rq.slot p28
                exact Rq.does_pure (Rq.wanted_none rfl) (by simp [execOp, e28, r6, go_sem]) rfl (hS.stay (by decide) (by decide) (by decide)) trivial
              · intro L a w1 hL hS hb hd
                have e9 := hb 9 (Rq.nw (by decide))
                simp [Act.eval] at e9
                exact Rq.does_pure (Rq.wanted_none rfl) (by simp [execOp, e9, go_sem]) rfl (hS.stay (by decide) (by decide) (by decide)) trivial
              · intro L a w1 hL hS hb hd
                have p30 := (hd ⟨8, .data⟩ (by simp) rfl).2 _ _ rfl rfl
                have e30 : a.tmps[30]?.getD undef = (.pointer (some ⟨b, 2, none⟩)) := Rq.slot p30
                exact Rq.does_pure (Rq.wanted_none rfl) (by simp [execOp, e30, (hS.chr hL), go_sem]) rfl (hS.stay (by decide) (by decide) (by decide)) trivial
              · intro L a w1 hL hS hb hd
                have p31 := (hd ⟨9, .data⟩ (by simp) rfl).2 _ _ rfl rfl
                have e31 : a.tmps[31]?.getD undef = (.int .i32 ch) := Rq.slot p31
                exact Rq.does_pure (Rq.wanted_none rfl) (by simp [execOp, e31, r7, go_sem]) rfl (hS.stay (by decide) (by decide) (by decide)) trivial
              · intro L a w1 hL hS hb hd
                have p32 := (hd ⟨10, .data⟩ (by simp) rfl).2 _ _ rfl rfl
                have e32 : a.tmps[32]?.getD undef = (.int .i32 (v15 : Int)) := Rq.slot p32
                exact Rq.does_pure (Rq.wanted_none rfl) (by simp [execOp, e32, r8, go_sem]) rfl (hS.stay (by decide) (by decide) (by decide)) trivial
              · intro L a w1 hL hS hb hd
                have e9 := hb 9 (Rq.nw (by decide))
                simp [Act.eval] at e9
                exact Rq.does_pure (Rq.wanted_none rfl) (by simp [execOp, e9, go_sem]) rfl (hS.stay (by decide) (by decide) (by decide)) trivial
              · intro L a w1 hL hS hb hd
                have p34 := (hd ⟨12, .data⟩ (by simp) rfl).2 _ _ rfl rfl
                have e34 : a.tmps[34]?.getD undef = (.pointer (some ⟨b, 0, none⟩)) := Rq.slot p34
                have hU := hS.1; have d0 := hU.cells.1; have f2 := fun j => hU.frozen j; exact Rq.does_skip rfl (Rq.wanted_none rfl) (by simp [execOp, e34, go_sem, d0, f2]) trivial (hS.set0) trivial
              · intro L a w1 hL hS hb hd
                have e9 := hb 9 (Rq.nw (by decide))
                simp [Act.eval] at e9
                exact Rq.does_pure (Rq.wanted_none rfl) (by simp [execOp, e9, go_sem]) rfl (hS.stay (by decide) (by decide) (by decide)) trivial
              · intro L a w1 hL hS hb hd
                have p35 := (hd ⟨14, .data⟩ (by simp) rfl).2 _ _ rfl rfl
                have e35 : a.tmps[35]?.getD undef = (.pointer (some ⟨b, 1, none⟩)) := Rq.slot p35
                have p29 := (hd ⟨7, .data⟩ (by simp) rfl).2 _ _ rfl rfl
                have e29 : a.tmps[29]?.getD undef = (.int .i64 (q : Int)) := Rq.slot p29
                have q1 := (hd ⟨1, .phase⟩ (by simp) rfl).1; have hU := hS.1; have d0 := hU.cells.2.1; have f2 := fun j => hU.frozen j; exact Rq.does_skip rfl (Rq.wanted_none rfl) (by simp [execOp, e35, e29, go_sem, d0, f2]) trivial (hS.set1 q1) trivial
              · intro L a w1 hL hS hb hd
                have e9 := hb 9 (Rq.nw (by decide))
                simp [Act.eval] at e9
                exact Rq.does_pure (Rq.wanted_none rfl) (by simp [execOp, e9, go_sem]) rfl (hS.stay (by decide) (by decide) (by decide)) trivial
              · intro L a w1 hL hS hb hd
                have p36 := (hd ⟨16, .data⟩ (by simp) rfl).2 _ _ rfl rfl
                have e36 : a.tmps[36]?.getD undef = (.pointer (some ⟨b, 2, none⟩)) := Rq.slot p36
                have p33 := (hd ⟨11, .data⟩ (by simp) rfl).2 _ _ rfl rfl
                have e33 : a.tmps[33]?.getD undef = (.int .i32 (c4 : Int)) := Rq.slot p33
                have q9 := (hd ⟨9, .phase⟩ (by simp) rfl).1; have hU := hS.1; have d0 := hU.cells.2.2.1; have f2 := fun j => hU.frozen j; exact Rq.does_skip rfl (Rq.wanted_none rfl) (by simp [execOp, e36, e33, go_sem, d0, f2]) trivial (hS.set2 q9) trivial
              · intro L v w5 hS hall hv
                have hU := hS.1
                rw [if_pos (hall 13 (by decide)), if_pos (hall 15 (by decide)), if_pos (hall 17 (by decide))] at hU
                obtain ⟨e0, e1, e2, e3, e4⟩ := hU.cells
                have HOO := Lib.hid (OwnR.tn HO0.out hS.2.2.2 (fun g hg e => by have := (HO.out.lt g hg).2; have := HBW0.out; omega))
                have HBB := Lib.hid (hS.2.2.2.below HB0.out HB0.out.size (fun z hz => by have := HB.out.size; have := HBW0.out; omega))
                have HSZ := Lib.hid (show w5.heap.size = w5.heap.size from rfl)
                have hsz5 := hS.2.2.2.size
                have hsw := HSW.out
                clear hS hall hv hU
                simp only [Rq.putAll, Nat.zero_add, Nat.reduceAdd]
                simp only [Act.put, List.setIfInBounds_toArray, List.set_cons_succ, List.set_cons_zero]
                have HRW := Lib.hid (show OwnU (World.alloc w5 (.cells #[.int .i64 1, .int .i64 (q:Int), .int .i32 (c4:Int), .int .u32 x, .int .u64 1] 36)) wr.heap.size (.slice (some ⟨(w5.heap.size), 0, none⟩) 1 1) [⟨1, (q:Int), (c4:Int), x, 1⟩] from by
                  have h := unit_row w5 1 (q:Int) (c4:Int) x 1
                  rw [HSZ.out] at h
                  exact OwnR.lower h (by omega))
                have HOW := Lib.hid (show OwnU (World.alloc w5 (.cells #[.int .i64 1, .int .i64 (q:Int), .int .i32 (c4:Int), .int .u32 x, .int .u64 1] 36)) w.heap.size (.slice A2 j c2) out from OwnR.then_ HOO.out (below_box _ _))
                have HBW := Lib.hid (below_then' HBB.out (below_box w5 (.cells #[.int .i64 1, .int .i64 (q:Int), .int .i32 (c4:Int), .int .u32 x, .int .u64 1] 36)) HBB.out.size)
                go_wp2_with (at_builtin; refine wpList_append_rws encU_len encU_one Try.underlying22 infoUn (by decide) (by decide) (World.alloc w5 (.cells #[.int .i64 1, .int .i64 (q:Int), .int .i32 (c4:Int), .int .u32 x, .int .u64 1] 36)) rfl (.tmp 64) (.tmp 66) rfl w.heap.size A2 j c2 out (by rfl) HOW.out _ (some ⟨(w5.heap.size), 0, none⟩) 1 1 [⟨1, (q:Int), (c4:Int), x, 1⟩] (by rfl) (OwnU.uns HRW.out) (by unfold maxLen; omega) (by omega) HBW.out.size ?_)
                intro A3 c3 w3 hO3 hg3 hat3
                have HO3 := Lib.hid (show OwnU w3 w.heap.size (.slice A3 (j + 1) c3) (out ++ [⟨1, (q:Int), (c4:Int), x, 1⟩]) from hO3)
                have HB3 := Lib.hid (OwnR.grownBelow HOW.out hg3 HBW.out HBW.out.size)
                clear hO3 hg3 hat3
                go_wp2_with fail
                go_roundw
                case rel => exact ⟨j + 1, A3, c3, _, by go_num, by rw [HEN2.out], rfl, by rw [List.length_append, HOL.out]; rfl, by rw [HML.out]; exact HJ.out.1, HJ.out.2, HO3.out, HBR2.out, HB3.out⟩
                case measure => simp [intOf]; exact fi_meas hlt
            · have hkb : (k == 2) = false := by simpa using hk2
              clear h2
              go_wp2_with fail
              rw [← HW0.out, ← HBW0.out]
              clear a0 a1 a2 a3 a4
              refine Rq.wp_region_inv (FiS W0 b _ p ch (q : Int) (c4 : Int) x 1) PR0 (Rq.Wd.at [.is (.pointer (some ⟨b, 1, none⟩)), .is (.int .i64 p), .is (.int .u64 (U : Int)), .is (.int .i64 (n : Int)), .is (.int .i64 (n1 : Int)), .is (.int .u64 (n1 : Int)), .is (.int .u64 (q : Int)), .is (.int .i64 (q : Int)), .is (.pointer (some ⟨b, 2, none⟩)), .is (.int .i32 ch), .is (.int .i32 (v15 : Int)), .is (.int .i32 (c4 : Int)), .is (.pointer (some ⟨b, 0, none⟩)), .any, .is (.pointer (some ⟨b, 1, none⟩)), .any, .is (.pointer (some ⟨b, 2, none⟩)), .any]) (by kernel_rfl) (by kernel_rfl) (Rq.Wd.stays _ _ (fun i q hi => (by rcases i with _ | _ | _ | _ | _ | _ | _ | _ | _ | _ | _ | _ | _ | _ | _ | _ | _ | _ | i <;> simp at hi))) (HU0.out) ⟨?_, ?_, ?_, ?_, ?_, ?_, ?_, ?_, ?_, ?_, ?_, ?_, ?_, ?_, ?_, ?_, ?_, ?_, trivial⟩ ?_
              · intro L a w1 hL hS hb hd
                have e9 := hb 9 (Rq.nw (by decide))
                simp [Act.eval] at e9
                exact Rq.does_pure (Rq.wanted_none rfl) (by simp [execOp, e9, go_sem]) rfl (hS.stay (by decide) (by decide) (by decide)) trivial
              · intro L a w1 hL hS hb hd
                have p22 := (hd ⟨0, .data⟩ (by simp) rfl).2 _ _ rfl rfl
                have e22 : a.tmps[22]?.getD undef = (.pointer (some ⟨b, 1, none⟩)) := Rq.slot p22
                exact Rq.does_pure (Rq.wanted_none rfl) (by simp [execOp, e22, (hS.pos hL), go_sem]) rfl (hS.stay (by decide) (by decide) (by decide)) trivial
              · intro L a w1 hL hS hb hd
                have p23 := (hd ⟨1, .data⟩ (by simp) rfl).2 _ _ rfl rfl
                have e23 : a.tmps[23]?.getD undef = (.int .i64 p) := Rq.slot p23
                exact Rq.does_pure (Rq.wanted_none rfl) (by simp [execOp, e23, r1, go_sem]) rfl (hS.stay (by decide) (by decide) (by decide)) trivial
              · intro L a w1 hL hS hb hd
                have e1 := hb 1 (Rq.nw (by decide))
                simp [Act.eval] at e1
                exact Rq.does_pure (Rq.wanted_none rfl) (by simp [execOp, e1, go_sem]) rfl (hS.stay (by decide) (by decide) (by decide)) trivial
              · intro L a w1 hL hS hb hd
                have p25 := (hd ⟨3, .data⟩ (by simp) rfl).2 _ _ rfl rfl
                have e25 : a.tmps[25]?.getD undef = (.int .i64 (n : Int)) := Rq.slot p25
                exact Rq.does_pure (Rq.wanted_none rfl) (by simp [execOp, e25, r2, go_sem]) rfl (hS.stay (by decide) (by decide) (by decide)) trivial
              · intro L a w1 hL hS hb hd
                have p26 := (hd ⟨4, .data⟩ (by simp) rfl).2 _ _ rfl rfl
                have e26 : a.tmps[26]?.getD undef = (.int .i64 (n1 : Int)) := Rq.slot p26
                exact Rq.does_pure (Rq.wanted_none rfl) (by simp [execOp, e26, r3, go_sem]) rfl (hS.stay (by decide) (by decide) (by decide)) trivial
              · intro L a w1 hL hS hb hd
                have p24 := (hd ⟨2, .data⟩ (by simp) rfl).2 _ _ rfl rfl
                have e24 : a.tmps[24]?.getD undef = (.int .u64 (U : Int)) := Rq.slot p24
                have p27 := (hd ⟨5, .data⟩ (by simp) rfl).2 _ _ rfl rfl
                have e27 : a.tmps[27]?.getD undef = (.int .u64 (n1 : Int)) := Rq.slot p27
                exact Rq.does_pure (Rq.wanted_none rfl) (by simp [execOp, e24, e27, r4, r0, go_sem]) rfl (hS.stay (by decide) (by decide) (by decide)) trivial
              · intro L a w1 hL hS hb hd
                have p28 := (hd ⟨6, .data⟩ (by simp) rfl).2 _ _ rfl rfl
                have e28 : a.tmps[28]?.getD undef = (.int .u64 (q : Int)) := Rq.slot p28
                exact Rq.does_pure (Rq.wanted_none rfl) (by simp [execOp, e28, r6, go_sem]) rfl (hS.stay (by decide) (by decide) (by decide)) trivial
              · intro L a w1 hL hS hb hd
                have e9 := hb 9 (Rq.nw (by decide))
                simp [Act.eval] at e9
                exact Rq.does_pure (Rq.wanted_none rfl) (by simp [execOp, e9, go_sem]) rfl (hS.stay (by decide) (by decide) (by decide)) trivial
              · intro L a w1 hL hS hb hd
                have p30 := (hd ⟨8, .data⟩ (by simp) rfl).2 _ _ rfl rfl
                have e30 : a.tmps[30]?.getD undef = (.pointer (some ⟨b, 2, none⟩)) := Rq.slot p30
                exact Rq.does_pure (Rq.wanted_none rfl) (by simp [execOp, e30, (hS.chr hL), go_sem]) rfl (hS.stay (by decide) (by decide) (by decide)) trivial
              · intro L a w1 hL hS hb hd
                have p31 := (hd ⟨9, .data⟩ (by simp) rfl).2 _ _ rfl rfl
                have e31 : a.tmps[31]?.getD undef = (.int .i32 ch) := Rq.slot p31
                exact Rq.does_pure (Rq.wanted_none rfl) (by simp [execOp, e31, r7, go_sem]) rfl (hS.stay (by decide) (by decide) (by decide)) trivial
              · intro L a w1 hL hS hb hd
                have p32 := (hd ⟨10, .data⟩ (by simp) rfl).2 _ _ rfl rfl
                have e32 : a.tmps[32]?.getD undef = (.int .i32 (v15 : Int)) := Rq.slot p32
                exact Rq.does_pure (Rq.wanted_none rfl) (by simp [execOp, e32, r8, go_sem]) rfl (hS.stay (by decide) (by decide) (by decide)) trivial
              · intro L a w1 hL hS hb hd
                have e9 := hb 9 (Rq.nw (by decide))
                simp [Act.eval] at e9
                exact Rq.does_pure (Rq.wanted_none rfl) (by simp [execOp, e9, go_sem]) rfl (hS.stay (by decide) (by decide) (by decide)) trivial
              · intro L a w1 hL hS hb hd
                have p34 := (hd ⟨12, .data⟩ (by simp) rfl).2 _ _ rfl rfl
                have e34 : a.tmps[34]?.getD undef = (.pointer (some ⟨b, 0, none⟩)) := Rq.slot p34
                have hU := hS.1; have d0 := hU.cells.1; have f2 := fun j => hU.frozen j; exact Rq.does_skip rfl (Rq.wanted_none rfl) (by simp [execOp, e34, go_sem, d0, f2]) trivial (hS.set0) trivial
              · intro L a w1 hL hS hb hd
                have e9 := hb 9 (Rq.nw (by decide))
                simp [Act.eval] at e9
                exact Rq.does_pure (Rq.wanted_none rfl) (by simp [execOp, e9, go_sem]) rfl (hS.stay (by decide) (by decide) (by decide)) trivial
              · intro L a w1 hL hS hb hd
                have p35 := (hd ⟨14, .data⟩ (by simp) rfl).2 _ _ rfl rfl
                have e35 : a.tmps[35]?.getD undef = (.pointer (some ⟨b, 1, none⟩)) := Rq.slot p35
                have p29 := (hd ⟨7, .data⟩ (by simp) rfl).2 _ _ rfl rfl
                have e29 : a.tmps[29]?.getD undef = (.int .i64 (q : Int)) := Rq.slot p29
                have q1 := (hd ⟨1, .phase⟩ (by simp) rfl).1; have hU := hS.1; have d0 := hU.cells.2.1; have f2 := fun j => hU.frozen j; exact Rq.does_skip rfl (Rq.wanted_none rfl) (by simp [execOp, e35, e29, go_sem, d0, f2]) trivial (hS.set1 q1) trivial
              · intro L a w1 hL hS hb hd
                have e9 := hb 9 (Rq.nw (by decide))
                simp [Act.eval] at e9
                exact Rq.does_pure (Rq.wanted_none rfl) (by simp [execOp, e9, go_sem]) rfl (hS.stay (by decide) (by decide) (by decide)) trivial
              · intro L a w1 hL hS hb hd
                have p36 := (hd ⟨16, .data⟩ (by simp) rfl).2 _ _ rfl rfl
                have e36 : a.tmps[36]?.getD undef = (.pointer (some ⟨b, 2, none⟩)) := Rq.slot p36
                have p33 := (hd ⟨11, .data⟩ (by simp) rfl).2 _ _ rfl rfl
                have e33 : a.tmps[33]?.getD undef = (.int .i32 (c4 : Int)) := Rq.slot p33
                have q9 := (hd ⟨9, .phase⟩ (by simp) rfl).1; have hU := hS.1; have d0 := hU.cells.2.2.1; have f2 := fun j => hU.frozen j; exact Rq.does_skip rfl (Rq.wanted_none rfl) (by simp [execOp, e36, e33, go_sem, d0, f2]) trivial (hS.set2 q9) trivial
              · intro L v w5 hS hall hv
                have hU := hS.1
                rw [if_pos (hall 13 (by decide)), if_pos (hall 15 (by decide)), if_pos (hall 17 (by decide))] at hU
                obtain ⟨e0, e1, e2, e3, e4⟩ := hU.cells
                have HOO := Lib.hid (OwnR.tn HO0.out hS.2.2.2 (fun g hg e => by have := (HO.out.lt g hg).2; have := HBW0.out; omega))
                have HBB := Lib.hid (hS.2.2.2.below HB0.out HB0.out.size (fun z hz => by have := HB.out.size; have := HBW0.out; omega))
                have HSZ := Lib.hid (show w5.heap.size = w5.heap.size from rfl)
                have hsz5 := hS.2.2.2.size
                have hsw := HSW.out
                clear hS hall hv hU
                simp only [Rq.putAll, Nat.zero_add, Nat.reduceAdd]
                simp only [Act.put, List.setIfInBounds_toArray, List.set_cons_succ, List.set_cons_zero]
                have HRW := Lib.hid (show OwnU (World.alloc w5 (.cells #[.int .i64 1, .int .i64 (q:Int), .int .i32 (c4:Int), .int .u32 x, .int .u64 1] 36)) wr.heap.size (.slice (some ⟨(w5.heap.size), 0, none⟩) 1 1) [⟨1, (q:Int), (c4:Int), x, 1⟩] from by
                  have h := unit_row w5 1 (q:Int) (c4:Int) x 1
                  rw [HSZ.out] at h
                  exact OwnR.lower h (by omega))
                have HOW := Lib.hid (show OwnU (World.alloc w5 (.cells #[.int .i64 1, .int .i64 (q:Int), .int .i32 (c4:Int), .int .u32 x, .int .u64 1] 36)) w.heap.size (.slice A2 j c2) out from OwnR.then_ HOO.out (below_box _ _))
                have HBW := Lib.hid (below_then' HBB.out (below_box w5 (.cells #[.int .i64 1, .int .i64 (q:Int), .int .i32 (c4:Int), .int .u32 x, .int .u64 1] 36)) HBB.out.size)
                go_wp2_with (at_builtin; refine wpList_append_rws encU_len encU_one Try.underlying22 infoUn (by decide) (by decide) (World.alloc w5 (.cells #[.int .i64 1, .int .i64 (q:Int), .int .i32 (c4:Int), .int .u32 x, .int .u64 1] 36)) rfl (.tmp 64) (.tmp 66) rfl w.heap.size A2 j c2 out (by rfl) HOW.out _ (some ⟨(w5.heap.size), 0, none⟩) 1 1 [⟨1, (q:Int), (c4:Int), x, 1⟩] (by rfl) (OwnU.uns HRW.out) (by unfold maxLen; omega) (by omega) HBW.out.size ?_)
                intro A3 c3 w3 hO3 hg3 hat3
                have HO3 := Lib.hid (show OwnU w3 w.heap.size (.slice A3 (j + 1) c3) (out ++ [⟨1, (q:Int), (c4:Int), x, 1⟩]) from hO3)
                have HB3 := Lib.hid (OwnR.grownBelow HOW.out hg3 HBW.out HBW.out.size)
                clear hO3 hg3 hat3
                go_wp2_with fail
                go_roundw
                case rel => exact ⟨j + 1, A3, c3, _, by go_num, by rw [HEN2.out], rfl, by rw [List.length_append, HOL.out]; rfl, by rw [HML.out]; exact HJ.out.1, HJ.out.2, HO3.out, HBR2.out, HB3.out⟩
                case measure => simp [intOf]; exact fi_meas hlt
    · go_wp2_with fail
      go_ret
      refine ⟨A2, c2, out, ?_, by rw [HOL.out]; exact hj20, ?_, HBR.out, HB.out⟩
      · rw [HOL.out]; rfl
      · rw [HOL.out]; exact HO.out
end Go.Proofs.Ytaboamkfpolpbaa
