/-
  The statements' own fit: a row brought to fit a length, of one client, at most twenty units. Conditions: the length is at most a thousand.
-/
import Derived.Test.YtfjnliebgndemaaWvG
namespace Go.Proofs.Ytfjnliebgndemaa
open Go.RowKit
open Pl (Un)

namespace Pl
/-- how long a text is behind a row brought to fit -/
def endN : List Un → Nat → Nat
  | [], n => n
  | u :: r, n => endN r (if u.k = 1 then n + 1 else if u.k = 2 then n - 1 else n)
theorem endN_snoc (l : List Un) (u : Un) (n : Nat) : endN (l ++ [u]) n = if u.k = 1 then endN l n + 1 else if u.k = 2 then endN l n - 1 else endN l n := by
  induction l generalizing n with
  | nil => rfl
  | cons v l ih => exact ih _
theorem br_snoc {c : Int} {P : Int → Prop} : ∀ {l : List Un} {n : Nat} {u : Un}, Br c P l n → Br c P [u] (endN l n) → Br c P (l ++ [u]) n
  | [], _, _, _, h => h
  | v :: l, n, u, h, hu => by
    obtain ⟨h1, h2⟩ := h
    refine ⟨h1, ?_⟩
    have hu' : Br c P [u] (endN l (if v.k = 1 then n + 1 else if v.k = 2 then n - 1 else n)) := hu
    rcases h2 with ⟨e, a, b, h⟩ | ⟨e, a, b, d, h⟩ | ⟨e, a, b, h⟩
    · rw [if_neg (by omega), if_neg (by omega)] at hu'
      exact Or.inl ⟨e, a, b, br_snoc h hu'⟩
    · rw [if_pos e] at hu'
      exact Or.inr (Or.inl ⟨e, a, b, d, br_snoc h hu'⟩)
    · rw [if_neg (by omega), if_pos e] at hu'
      exact Or.inr (Or.inr ⟨e, a, b, br_snoc h hu'⟩)
theorem endN_le (l : List Un) (n : Nat) : endN l n ≤ n + l.length := by
  induction l generalizing n with
  | nil => exact Nat.le_refl _
  | cons u l ih =>
    refine Nat.le_trans (ih _) ?_
    simp only [List.length_cons]
    split
    · omega
    · split <;> omega
/-- the code points that fit gives an Ins -/
def Az (c : Int) : Prop := 97 ≤ c ∧ c ≤ 112
theorem az_may {c : Int} (h : Az c) : May c := by unfold Az at h; unfold May; omega
theorem may0 : May 0 := by unfold May; omega
end Pl
/-- a number counted round, as int(uint(p) % uint(n)) -/
theorem round_i (p : Int) (n : Nat) (h0 : 0 < n) (hn : n ≤ 100000) : ∃ U q : Nat, IntKind.u64.wrap p = (U : Int) ∧ IntKind.u64.wrap (n : Int) = (n : Int) ∧ (U : Int).tmod (n : Int) = (q : Int) ∧ q < n ∧ IntKind.u64.wrap (q : Int) = (q : Int) ∧ IntKind.i64.wrap (q : Int) = (q : Int) ∧ wrap64 (q : Int) = (q : Int) := by
  obtain ⟨U, hU⟩ : ∃ U, U = (p % 18446744073709551616).toNat := ⟨_, rfl⟩
  obtain ⟨q, hq⟩ : ∃ q, q = U % n := ⟨_, rfl⟩
  have hlt := Nat.mod_lt U h0
  rw [← hq] at hlt
  refine ⟨U, q, ?_, ?_, ?_, hlt, ?_, ?_, ?_⟩
  · rw [IntKind.wrap_u64]; omega
  · rw [IntKind.wrap_u64]; omega
  · rw [hq, Int.ofNat_tmod]
  · rw [IntKind.wrap_u64]; omega
  · rw [IntKind.wrap_i64]; omega
  · unfold wrap64; omega
theorem and15 (x : Int) : ∃ c : Nat, c ≤ 15 ∧ bits BinOp.and IntKind.i32 x 15 = (c : Int) := by
  obtain ⟨c, hc⟩ : ∃ c, c = (BitVec.ofInt 32 x &&& BitVec.ofInt 32 15).toNat := ⟨_, rfl⟩
  have hle : c ≤ 15 := by
    rw [hc, BitVec.toNat_and]
    exact Nat.and_le_right
  refine ⟨c, hle, ?_⟩
  have e : bits BinOp.and IntKind.i32 x 15 = IntKind.i32.wrap ((BitVec.ofInt 32 x &&& BitVec.ofInt 32 15).toNat) := rfl
  rw [e, ← hc, IntKind.wrap_i32]
  omega
/-- in the drawn region: the unit's own cells -/
def FiS (wr : World) (b : Nat) (k p ch q c2 x y : Int) (L : Nat → Bool) (w : World) : Prop :=
  UAt w b (if L 13 = true then 1 else k) (if L 15 = true then q else p) (if L 17 = true then c2 else ch) x y ∧ (L 15 = true → L 1 = true) ∧ (L 17 = true → L 9 = true) ∧ Tn (fun z => z = b) wr w
section
variable {wr w : World} {b i : Nat} {k p ch q c2 x y : Int} {L : Nat → Bool}
theorem rq_other {m i : Nat} (h : m ≠ i) : Rq.up L m i = L i := by simp [Rq.up, h]
theorem rq_same {i : Nat} : Rq.up L i i = true := by simp [Rq.up]
theorem rq_keep {m i : Nat} (h : L i = true) : Rq.up L m i = true := by simp [Rq.up, h]
theorem FiS.stay (h : FiS wr b k p ch q c2 x y L w) (h1 : i ≠ 13) (h2 : i ≠ 15) (h3 : i ≠ 17) : FiS wr b k p ch q c2 x y (Rq.up L i) w := by
  obtain ⟨g1, g2, g3, g4⟩ := h
  unfold FiS
  rw [rq_other h1, rq_other h2, rq_other h3]
  exact ⟨g1, fun h => rq_keep (g2 h), fun h => rq_keep (g3 h), g4⟩
theorem FiS.pos (h : FiS wr b k p ch q c2 x y L w) (hL : L 1 = false) : w.cell? ⟨b, 1, none⟩ = some (.int .i64 p) := by
  have e : L 15 = false := by
    cases e : L 15 with
    | false => rfl
    | true => have := h.2.1 e; rw [hL] at this; cases this
  have := h.1.cells.2.1
  rw [e] at this
  simpa using this
theorem FiS.chr (h : FiS wr b k p ch q c2 x y L w) (hL : L 9 = false) : w.cell? ⟨b, 2, none⟩ = some (.int .i32 ch) := by
  have e : L 17 = false := by
    cases e : L 17 with
    | false => rfl
    | true => have := h.2.2.1 e; rw [hL] at this; cases this
  have := h.1.cells.2.2.1
  rw [e] at this
  simpa using this
theorem FiS.set0 (h : FiS wr b k p ch q c2 x y L w) : FiS wr b k p ch q c2 x y (Rq.up L 13) (w.setCell ⟨b, 0, none⟩ (.int .i64 1)) := by
  obtain ⟨g1, g2, g3, g4⟩ := h
  unfold FiS
  rw [rq_same, rq_other (show 13 ≠ 15 by decide), rq_other (show 13 ≠ 17 by decide), if_pos rfl]
  exact ⟨blk_set (i := 0) g1 (.int .i64 1), fun h => rq_keep (g2 h), fun h => rq_keep (g3 h), Tn.set_ (T := fun z => z = b) g4 (p := ⟨b, 0, none⟩) (Or.inr rfl) _⟩
theorem FiS.set1 (h : FiS wr b k p ch q c2 x y L w) (h1 : L 1 = true) : FiS wr b k p ch q c2 x y (Rq.up L 15) (w.setCell ⟨b, 1, none⟩ (.int .i64 q)) := by
  obtain ⟨g1, g2, g3, g4⟩ := h
  unfold FiS
  rw [rq_same, rq_other (show 15 ≠ 13 by decide), rq_other (show 15 ≠ 17 by decide), if_pos rfl]
  exact ⟨blk_set (i := 1) g1 (.int .i64 q), fun _ => rq_keep h1, fun h => rq_keep (g3 h), Tn.set_ (T := fun z => z = b) g4 (p := ⟨b, 1, none⟩) (Or.inr rfl) _⟩
theorem FiS.set2 (h : FiS wr b k p ch q c2 x y L w) (h1 : L 9 = true) : FiS wr b k p ch q c2 x y (Rq.up L 17) (w.setCell ⟨b, 2, none⟩ (.int .i32 c2)) := by
  obtain ⟨g1, g2, g3, g4⟩ := h
  unfold FiS
  rw [rq_same, rq_other (show 17 ≠ 13 by decide), rq_other (show 17 ≠ 15 by decide), if_pos rfl]
  exact ⟨blk_set (i := 2) g1 (.int .i32 c2), fun h => rq_keep (g2 h), fun _ => rq_keep h1, Tn.set_ (T := fun z => z = b) g4 (p := ⟨b, 2, none⟩) (Or.inr rfl) _⟩
end
theorem fi_meas {m j : Nat} (h : j < m) : m - (j + 1) < m - j := by omega
/-- between one unit and the next -/
def FiR (w : World) (x : Int) (l : List Un) (N : Nat) (s o i : Value) (wr : World) : Prop := ∃ (j : Nat) (A : Option Addr) (c : Nat) (out : List Un), i = .int .i64 (j : Int) ∧ s = .int .i64 ((Pl.endN out N : Nat) : Int) ∧ o = .slice A j c ∧ out.length = j ∧ j ≤ l.length ∧ j ≤ 20 ∧ OwnU wr w.heap.size (.slice A j c) out ∧ Pl.Br x Pl.Az out N ∧ Below w.heap.size w wr
/-- what fit tells -/
def RetF (w : World) (x : Int) (N : Nat) (e : Ending) (w' : World) : Prop := ∃ (A : Option Addr) (c : Nat) (out : List Un), e = .returned (.slice A out.length c) ∧ out.length ≤ 20 ∧ OwnU w' w.heap.size (.slice A out.length c) out ∧ Pl.Br x Pl.Az out N ∧ Below w.heap.size w w'
end Go.Proofs.Ytfjnliebgndemaa
