/-
  weave.Place, weave.Past, slices.Index, the statements' own ins and del. Conditions: rows of at most a thousand units.
-/
import Derived.Test.YtfjnliebgndemaaWvE
namespace Go.Proofs.Ytfjnliebgndemaa
open Go.RowKit
open Pl (Un)

def PlR (w : World) (row : List Un) (pos : Int) (s i : Value) (wr : World) : Prop := ∃ j : Nat, i = .int .i64 (j : Int) ∧ s = .int .i64 (Pl.placeR pos (row.take j)) ∧ j ≤ row.length ∧ Below w.heap.size w wr
set_option maxRecDepth 100000 in
set_option maxHeartbeats 1000000 in
theorem place_any (pos : Int) (B : Option Addr) (m d : Nat) (row : List Un) (w : World) (h : Uns w w.heap.size B m d row) :
    Calls Try.prog 15 #[.int .i64 pos, .slice B m d] w fun e w' => e = .returned (.int .i64 (Pl.placeR pos row)) ∧ Below w.heap.size w w' := by
  have hcap := h.cap
  have hle := h.le
  unfold maxLen at hcap
  have HU := Lib.hid h
  have HML := Lib.hid h.len
  clear h
  go_enter Try.func15, Try.ntmps15
  go_wp2_with fail
  go_loopw [0, 9] (fun s i wr => PlR w row pos s i wr) (fun _ i _ => m - (intOf i).toNat)
  case atStart => exact ⟨0, rfl, rfl, Nat.zero_le _, Below.refl _ _⟩
  case round =>
    obtain ⟨j, rfl, rfl, hj, hb⟩ := hrel
    have HB := Lib.hid hb
    rw [HML.out] at hj
    clear hb
    by_cases hlt : j < m
    · obtain ⟨g1, o1, rfl, hg1, hc1⟩ := Uns.at_ (Rws.below HU.out HB.out (Nat.le_refl _)) hlt
      obtain ⟨a0, a1, a2, a3, a4⟩ := hc1 j hlt
      have hjl : j < row.length := by rw [HML.out]; exact hlt
      have hpt := Pl.place_take row pos j _ (getD_of_get hjl)
      obtain ⟨u, hu⟩ : ∃ u, u = row.getD j default := ⟨_, rfl⟩
      rw [← hu] at a0 a1 a2 a3 a4 hpt
      obtain ⟨q, hq⟩ : ∃ q, q = Pl.placeR pos (row.take j) := ⟨_, rfl⟩
      rw [← hq] at hpt ⊢
      obtain ⟨k, p, ch, x, y⟩ := u
      simp only at a0 a1 a2 a3 a4 hpt
      have z0 : (0 : Int) ≤ (j : Int) := by omega
      have z1 : (j : Int) < (m : Int) := by omega
      have HB2 := Lib.hid (below_alloc HB.out (.cells #[.int .i64 k, .int .i64 p, .int .i32 ch, .int .u32 x, .int .u64 y] 57))
      have HPT := Lib.hid hpt
      clear hc1 hu hpt hq
      by_cases hk : k = 1
      · subst hk
        by_cases hp : p ≤ q
        · have HE := Lib.hid (HPT.out.trans (if_pos ⟨rfl, hp⟩))
          go_wp2_with fail
          go_roundw
          case rel => exact ⟨j + 1, by go_num, by rw [HE.out], by rw [HML.out]; omega, HB2.out⟩
          case measure => simp [intOf]; omega
        · have HE := Lib.hid (HPT.out.trans ((if_neg (fun h => hp h.2)).trans (if_neg (fun h => by have := h.1; omega))))
          go_wp2_with fail
          go_roundw
          case rel => exact ⟨j + 1, by go_num, by rw [HE.out], by rw [HML.out]; omega, HB2.out⟩
          case measure => simp [intOf]; omega
      · have HN := Lib.hid (HPT.out.trans (if_neg (fun h => hk h.1)))
        have hkb : (k == 1) = false := by simpa using hk
        by_cases hk2 : k = 2
        · subst hk2
          by_cases hp : p < q
          · have HE := Lib.hid (HN.out.trans (if_pos ⟨rfl, hp⟩))
            go_wp2_with fail
            go_roundw
            case rel => exact ⟨j + 1, by go_num, by rw [HE.out], by rw [HML.out]; omega, HB2.out⟩
            case measure => simp [intOf]; omega
          · have HE := Lib.hid (HN.out.trans (if_neg (fun h => hp h.2)))
            go_wp2_with fail
            go_roundw
            case rel => exact ⟨j + 1, by go_num, by rw [HE.out], by rw [HML.out]; omega, HB2.out⟩
            case measure => simp [intOf]; omega
        · have HE := Lib.hid (HN.out.trans (if_neg (fun h => hk2 h.1)))
          have hkb2 : (k == 2) = false := by simpa using hk2
          go_wp2_with fail
          go_roundw
          case rel => exact ⟨j + 1, by go_num, by rw [HE.out], by rw [HML.out]; omega, HB2.out⟩
          case measure => simp [intOf]; omega
    · have hjm : row.take j = row := List.take_of_length_le (by rw [HML.out]; omega)
      rw [hjm]
      clear hjm
      go_wp2_with fail
      go_ret
      exact ⟨rfl, HB.out⟩
/-! ### the first place of a code point -/
def InR (w : World) (cs : List Int) (x : Int) (i : Value) (wr : World) : Prop := ∃ j : Nat, i = .int .i64 (j : Int) ∧ j ≤ cs.length ∧ (∀ t, t < j → cs.getD t 0 ≠ x) ∧ Below w.heap.size w wr
/-! ### rows behind rows -/
/-- a row as a value, and what it reads as -/
structure RowV where
  A : Option Addr
  n : Nat
  c : Nat
  l : List Un
instance : Inhabited RowV := ⟨⟨none, 0, 0, []⟩⟩
def RowV.val (q : RowV) : Value := .slice q.A q.n q.c
/-- rows in a row -/
def RowsV (w : World) (B : Option Addr) (R : List RowV) : Prop :=
  0 < R.length → ∃ g, B = some ⟨g, 0, none⟩ ∧ g < w.heap.size ∧ ∀ j, j < R.length → w.cell? ⟨g, j, none⟩ = some (R.getD j default).val ∧ Uns w w.heap.size (R.getD j default).A (R.getD j default).n (R.getD j default).c (R.getD j default).l ∧ (R.getD j default).n ≤ 1000
theorem RowsV.then_ {w w' : World} {B : Option Addr} {R : List RowV} (h : RowsV w B R) (hb : Below w.heap.size w w') : RowsV w' B R := fun h0 => by
  obtain ⟨g, e, hg, hc⟩ := h h0
  exact ⟨g, e, Nat.lt_of_lt_of_le hg hb.size, fun j hj => ⟨(hb.cell (p := ⟨g, j, none⟩) hg).trans (hc j hj).1, Rws.then_ (hc j hj).2.1 hb, (hc j hj).2.2⟩⟩
theorem pastR_append (a : List Un) (x y : List (List Un)) : Pl.pastR a (x ++ y) = Pl.pastR (Pl.pastR a x) y := by
  induction x generalizing a with
  | nil => rfl
  | cons b x ih => exact ih _
theorem len_pastR (a : List Un) (x : List (List Un)) : (Pl.pastR a x).length = a.length := by
  induction x generalizing a with
  | nil => rfl
  | cons b x ih => exact (ih _).trans (both_len1 a b)
def PaR (w : World) (la : List Un) (R : List RowV) (s i : Value) (wr : World) : Prop := ∃ (j : Nat) (A : Option Addr) (c : Nat), i = .int .i64 (j : Int) ∧ s = .slice A la.length c ∧ j ≤ R.length ∧ OwnU wr w.heap.size (.slice A la.length c) (Pl.pastR la ((R.take j).map RowV.l)) ∧ Below w.heap.size w wr
end Go.Proofs.Ytfjnliebgndemaa
