/-
  slices.Index at code points; weave.Past, for any rows of units. Conditions: rows of at most a thousand units.
-/
import Derived.Test.YtlnekhkdncccgaaWvE
namespace Go.Proofs.Ytlnekhkdncccgaa
open Go.RowKit
open Pl (Un)

/-! ### the first place of a code point -/
def InR (w : World) (cs : List Int) (x : Int) (i : Value) (wr : World) : Prop := ∃ j : Nat, i = .int .i64 (j : Int) ∧ j ≤ cs.length ∧ (∀ t, t < j → cs.getD t 0 ≠ x) ∧ Below w.heap.size w wr
set_option maxRecDepth 100000 in
set_option maxHeartbeats 400000 in
theorem indexC_any (A : Option Addr) (n c : Nat) (cs : List Int) (x : Int) (w : World) (h : Crs w w.heap.size A n c cs) :
    Calls Try.prog 27 #[.slice A n c, .int .i32 x] w fun e w' => ∃ r : Int, e = .returned (.int .i64 r) ∧ (r = -1 ∧ (∀ t, t < cs.length → cs.getD t 0 ≠ x) ∨ ∃ i : Nat, r = (i : Int) ∧ cs[i]? = some x ∧ ∀ t, t < i → cs.getD t 0 ≠ x) ∧ Below w.heap.size w w' := by
  have hcap := h.cap
  have hle := h.le
  unfold maxLen at hcap
  have HC := Lib.hid h
  have HL := Lib.hid h.len
  clear h
  go_enter Try.func27, Try.ntmps27
  go_wp2_with fail
  go_loopw [8] (fun i wr => InR w cs x i wr) (fun i _ => n - (intOf i).toNat)
  case atStart => exact ⟨0, rfl, Nat.zero_le _, (fun t ht => by omega), Below.refl _ _⟩
  case round =>
    obtain ⟨j, rfl, hj, hs, hb⟩ := hrel
    have HB := Lib.hid hb
    have HS := Lib.hid hs
    rw [HL.out] at hj
    clear hb hs
    by_cases hlt : j < n
    · obtain ⟨g1, o1, rfl, hg1, hc1⟩ := (HC.out.below HB.out (Nat.le_refl _)).at_ hlt
      have a0 := hc1 j hlt
      have hjl : j < cs.length := by rw [HL.out]; exact hlt
      have hget : cs[j]? = some (cs.getD j 0) := by rw [List.getD_eq_getElem?_getD, List.getElem?_eq_getElem hjl]; rfl
      obtain ⟨y, hy⟩ : ∃ y, y = cs.getD j 0 := ⟨_, rfl⟩
      rw [← hy] at a0 hget
      have z0 : (0 : Int) ≤ (j : Int) := by omega
      have z1 : (j : Int) < (n : Int) := by omega
      by_cases hxy : x = y
      · subst hxy
        have HG := Lib.hid hget
        clear hc1 hy hget
        go_wp2_with fail
        go_ret
        exact ⟨_, rfl, Or.inr ⟨j, rfl, HG.out, HS.out⟩, HB.out⟩
      · have HN := Lib.hid (show ∀ t, t < j + 1 → cs.getD t 0 ≠ x from fun t ht => by
          rcases Nat.lt_or_ge t j with h1 | h1
          · exact HS.out t h1
          · obtain rfl : t = j := by omega
            rw [← hy]; exact fun e => hxy e.symm)
        have hne : (x == y) = false := by simpa using hxy
        clear hc1 hy hget
        go_wp2_with fail
        go_roundw
        case rel => exact ⟨j + 1, by go_num, by rw [HL.out]; omega, HN.out, HB.out⟩
        case measure => simp [intOf]; omega
    · have hjn : j = n := by omega
      have HN := Lib.hid (show ∀ t, t < cs.length → cs.getD t 0 ≠ x from fun t ht => HS.out t (by rw [HL.out] at ht; omega))
      clear hjn
      go_wp2_with fail
      go_ret
      exact ⟨_, rfl, Or.inl ⟨rfl, HN.out⟩, HB.out⟩
/-! ### rows behind rows -/
/-- a row as a value, and what it reads as -/
structure RowV where
  A : Option Addr
  n : Nat
  c : Nat
  l : List Un
instance : Inhabited RowV := ⟨⟨none, 0, 0, []⟩⟩
def RowV.val (q : RowV) : Value := .slice q.A q.n q.c
/-- rows in a row -/
def RowsV (w : World) (B : Option Addr) (R : List RowV) : Prop :=
  0 < R.length → ∃ g, B = some ⟨g, 0, none⟩ ∧ g < w.heap.size ∧ ∀ j, j < R.length → w.cell? ⟨g, j, none⟩ = some (R.getD j default).val ∧ Uns w w.heap.size (R.getD j default).A (R.getD j default).n (R.getD j default).c (R.getD j default).l ∧ (R.getD j default).n ≤ 1000
theorem RowsV.then_ {w w' : World} {B : Option Addr} {R : List RowV} (h : RowsV w B R) (hb : Below w.heap.size w w') : RowsV w' B R := fun h0 => by
  obtain ⟨g, e, hg, hc⟩ := h h0
  exact ⟨g, e, Nat.lt_of_lt_of_le hg hb.size, fun j hj => ⟨(hb.cell (p := ⟨g, j, none⟩) hg).trans (hc j hj).1, Rws.then_ (hc j hj).2.1 hb, (hc j hj).2.2⟩⟩
theorem pastR_append (a : List Un) (x y : List (List Un)) : Pl.pastR a (x ++ y) = Pl.pastR (Pl.pastR a x) y := by
  induction x generalizing a with
  | nil => rfl
  | cons b x ih => exact ih _
theorem len_pastR (a : List Un) (x : List (List Un)) : (Pl.pastR a x).length = a.length := by
  induction x generalizing a with
  | nil => rfl
  | cons b x ih => exact (ih _).trans (both_len1 a b)
def PaR (w : World) (la : List Un) (R : List RowV) (s i : Value) (wr : World) : Prop := ∃ (j : Nat) (A : Option Addr) (c : Nat), i = .int .i64 (j : Int) ∧ s = .slice A la.length c ∧ j ≤ R.length ∧ OwnU wr w.heap.size (.slice A la.length c) (Pl.pastR la ((R.take j).map RowV.l)) ∧ Below w.heap.size w wr
set_option maxRecDepth 100000 in
set_option maxHeartbeats 1000000 in
theorem past_any (A : Option Addr) (n c : Nat) (la : List Un) (B : Option Addr) (d : Nat) (R : List RowV) (w : World) (h1 : Uns w w.heap.size A n c la) (h2 : RowsV w B R) (hn : n ≤ 1000) (hR : R.length ≤ 1000) :
    Calls Try.prog 44 #[.slice A n c, .slice B R.length d] w (RetU w (Pl.pastR la (R.map RowV.l))) := by
  have HC := Lib.hid (cloneU_any A n c la w h1 hn)
  have HR := Lib.hid h2
  have HNL := Lib.hid h1.len
  obtain ⟨m, hm⟩ : ∃ m, m = R.length := ⟨_, rfl⟩
  have HM := Lib.hid hm
  rw [← hm] at hR ⊢
  have HLP := Lib.hid (len_pastR la (R.map RowV.l))
  clear h1 h2 hm
  go_enter Try.func44, Try.ntmps44
  go_wp2_with fail
  refine HC.out.mono ?_
  rintro e w1 ⟨A1, c1, rfl, ho, hb⟩
  have HST := Lib.hid (show PaR w la R (.slice A1 la.length c1) (.int .i64 ((0 : Nat) : Int)) w1 from ⟨0, A1, c1, rfl, rfl, Nat.zero_le _, ho, hb⟩)
  clear ho hb
  go_wp2_with fail
  go_loopw [0, 11] (fun s i wr => PaR w la R s i wr) (fun _ i _ => m - (intOf i).toNat)
  case atStart => exact HST.out
  case round =>
    obtain ⟨j, A3, c3, rfl, rfl, hj, ho, hb⟩ := hrel
    have HB := Lib.hid hb
    have HO := Lib.hid ho
    rw [← HM.out] at hj
    clear HST
    by_cases hlt : j < m
    · have hjl : j < R.length := by rw [← HM.out]; exact hlt
      obtain ⟨g, rfl, hg, hc⟩ := HR.out.then_ hb (by omega)
      obtain ⟨a0, hU, hq⟩ := hc j hjl
      have hget : R[j]? = some (R.getD j default) := by rw [List.getD_eq_getElem?_getD, List.getElem?_eq_getElem hjl]; rfl
      obtain ⟨⟨A4, n4, c4, l4⟩, hr⟩ : ∃ r, r = R.getD j default := ⟨_, rfl⟩
      rw [← hr] at a0 hU hq hget
      simp only [RowV.val] at a0 hU hq
      have HP := Lib.hid (show (Pl.bothR (Pl.pastR la ((R.take j).map RowV.l)) l4).1 = Pl.pastR la ((R.take (j + 1)).map RowV.l) from by
        rw [List.take_add_one, hget, List.map_append, pastR_append]; rfl)
      have HBO := Lib.hid (both_any wr A3 la.length c3 _ A4 n4 c4 l4 ho.uns hU (by rw [HNL.out]; exact hn) hq)
      have HL2 := Lib.hid (len_pastR la ((R.take j).map RowV.l))
      have z0 : (0 : Int) ≤ (j : Int) := by omega
      have z1 : (j : Int) < (m : Int) := by omega
      clear hc hr hU hget ho hb
      go_wp2_with fail
      refine HBO.out.mono ?_
      rintro e w2 ⟨A5, c5, A6, c6, rfl, ho5, _, _, hb2⟩
      rw [HP.out] at ho5
      rw [HL2.out] at ho5 ⊢
      have HO5 := Lib.hid (OwnR.lower ho5 HB.out.size)
      have HB5 := Lib.hid (below_then' HB.out hb2 HB.out.size)
      clear ho5 hb2 a0
      go_wp2_with fail
      go_roundw
      case rel => exact ⟨j + 1, A5, c5, by go_num, rfl, by rw [← HM.out]; omega, HO5.out, HB5.out⟩
      case measure => simp [intOf]; omega
    · have hjm : R.take j = R := List.take_of_length_le (by rw [← HM.out]; omega)
      rw [hjm] at HO
      clear hjm ho hb
      go_wp2_with fail
      go_ret
      exact ⟨A3, c3, by rw [HLP.out]; rfl, by rw [HLP.out]; exact HO.out, HB.out⟩
end Go.Proofs.Ytlnekhkdncccgaa

