/-
  The document's own Past and Same. Conditions: rows of at most a thousand units.
-/
import Derived.Test.YtlnekhkdncccgaaWvN
namespace Go.Proofs.Ytlnekhkdncccgaa
open Go.RowKit
open Pl (Un)

def URel (w : World) (n : Nat) (xs bs : List Un) (i : Value) (wr : World) : Prop := ∃ j : Nat, i = .int .i64 (j : Int) ∧ j ≤ n ∧ Below w.heap.size w wr ∧ ∀ t, t < j → xs.getD t default = bs.getD t default
theorem ext_getU {xs bs : List Un} (hl : xs.length = bs.length) (h : ∀ t, t < xs.length → xs.getD t default = bs.getD t default) : xs = bs := by
  refine List.ext_getElem hl fun i h1 h2 => ?_
  have := h i h1
  rwa [List.getD_eq_getElem?_getD, List.getD_eq_getElem?_getD, List.getElem?_eq_getElem h1, List.getElem?_eq_getElem h2] at this

set_option maxRecDepth 100000 in
set_option maxHeartbeats 1000000 in
theorem past6_any (A : Option Addr) (n c : Nat) (la : List Un) (B : Option Addr) (d : Nat) (R : List RowV) (w : World) (h1 : Uns w w.heap.size A n c la) (h2 : RowsV w B R) (hn : n ≤ 1000) (hR : R.length ≤ 1000) :
    Calls Try.prog 45 #[.slice A n c, .slice B R.length d] w (RetU w (Pl.pastR la (R.map RowV.l))) := by
  have HC := Lib.hid (ownU_any A n c la w h1 hn)
  have HR := Lib.hid h2
  have HNL := Lib.hid h1.len
  obtain ⟨m, hm⟩ : ∃ m, m = R.length := ⟨_, rfl⟩
  have HM := Lib.hid hm
  rw [← hm] at hR ⊢
  have HLP := Lib.hid (len_pastR la (R.map RowV.l))
  clear h1 h2 hm
  go_enter Try.func45, Try.ntmps45
  go_wp2_with fail
  refine HC.out.mono ?_
  rintro e w1 ⟨A1, c1, rfl, ho, hb⟩
  have HST := Lib.hid (show PaR w la R (.slice A1 la.length c1) (.int .i64 ((0 : Nat) : Int)) w1 from ⟨0, A1, c1, rfl, rfl, Nat.zero_le _, ho, hb⟩)
  clear ho hb
  go_wp2_with fail
  go_loopw [5, 6] (fun s i wr => PaR w la R s i wr) (fun _ i _ => m - (intOf i).toNat)
  case atStart => exact HST.out
  case round =>
    obtain ⟨j, A3, c3, rfl, rfl, hj, ho, hb⟩ := hrel
    have HB := Lib.hid hb
    have HO := Lib.hid ho
    rw [← HM.out] at hj
    clear HST
    by_cases hlt : j < m
    · have hjl : j < R.length := by rw [← HM.out]; exact hlt
      obtain ⟨g, rfl, hg, hc⟩ := HR.out.then_ hb (by omega)
      obtain ⟨a0, hU, hq⟩ := hc j hjl
      have hget : R[j]? = some (R.getD j default) := by rw [List.getD_eq_getElem?_getD, List.getElem?_eq_getElem hjl]; rfl
      obtain ⟨⟨A4, n4, c4, l4⟩, hr⟩ : ∃ r, r = R.getD j default := ⟨_, rfl⟩
      rw [← hr] at a0 hU hq hget
      simp only [RowV.val] at a0 hU hq
      have HP := Lib.hid (show (Pl.bothR (Pl.pastR la ((R.take j).map RowV.l)) l4).1 = Pl.pastR la ((R.take (j + 1)).map RowV.l) from by
        rw [List.take_add_one, hget, List.map_append, pastR_append]; rfl)
      have HBO := Lib.hid (both6_any wr A3 la.length c3 _ A4 n4 c4 l4 ho.uns hU (by rw [HNL.out]; exact hn) hq)
      have HL2 := Lib.hid (len_pastR la ((R.take j).map RowV.l))
      have z0 : (0 : Int) ≤ (j : Int) := by omega
      have z1 : (j : Int) < (m : Int) := by omega
      clear hc hr hU hget ho hb
      go_wp2_with fail
      refine HBO.out.mono ?_
      rintro e w2 ⟨A5, c5, A6, c6, rfl, ho5, _, _, hb2⟩
      rw [HP.out] at ho5
      rw [HL2.out] at ho5 ⊢
      have HO5 := Lib.hid (OwnR.lower ho5 HB.out.size)
      have HB5 := Lib.hid (below_then' HB.out hb2 HB.out.size)
      clear ho5 hb2 a0
      go_wp2_with fail
      go_roundw
      case rel => exact ⟨j + 1, A5, c5, by go_num, rfl, by rw [← HM.out]; omega, HO5.out, HB5.out⟩
      case measure => simp [intOf]; omega
    · have hjm : R.take j = R := List.take_of_length_le (by rw [← HM.out]; omega)
      rw [hjm] at HO
      clear hjm ho hb
      go_wp2_with fail
      go_ret
      exact ⟨A3, c3, by rw [HLP.out]; rfl, by rw [HLP.out]; exact HO.out, HB.out⟩
set_option maxRecDepth 100000 in
set_option maxHeartbeats 400000 in
theorem sameU_any (A A' : Option Addr) (n c m c' : Nat) (xs bs : List Un) (w : World) (h1 : Uns w w.heap.size A n c xs) (h2 : Uns w w.heap.size A' m c' bs) :
    Calls Try.prog 17 #[.slice A n c, .slice A' m c'] w fun e w' => e = .returned (.bool (decide (xs = bs))) ∧ Below w.heap.size w w' := by
  have hcap1 := h1.cap
  have hle1 := h1.le
  have hcap2 := h2.cap
  have hle2 := h2.le
  unfold maxLen at hcap1 hcap2
  have HL1 := Lib.hid h1.len
  have HL2 := Lib.hid h2.len
  by_cases hnm : n = m
  · subst hnm
    have H1 := Lib.hid h1
    have H2 := Lib.hid h2
    clear h1 h2
    go_enter Try.func17, Try.ntmps17
    go_wp2_with fail
    go_loopw [5] (fun i wr => URel w n xs bs i wr) (fun i _ => n - (intOf i).toNat)
    case atStart => exact ⟨0, rfl, Nat.zero_le _, Below.refl _ _, fun t ht => by omega⟩
    case round =>
      obtain ⟨j, rfl, hj, hb, hs⟩ := hrel
      have HB := Lib.hid hb
      have HS := Lib.hid hs
      clear hb hs
      by_cases hlt : j < n
      · obtain ⟨g1, o1, rfl, hg1, hc1⟩ := Uns.at_ (Rws.below H1.out HB.out (Nat.le_refl _)) hlt
        obtain ⟨g2, o2, rfl, hg2, hc2⟩ := Uns.at_ (Rws.below H2.out HB.out (Nat.le_refl _)) hlt
        obtain ⟨a0, a1, a2, a3, a4⟩ := hc1 j hlt
        obtain ⟨b0, b1, b2, b3, b4⟩ := hc2 j hlt
        have HNX := Lib.hid (show xs.getD j default = bs.getD j default → ∀ t, t < j + 1 → xs.getD t default = bs.getD t default from fun h t ht => by
          rcases Nat.lt_or_ge t j with h1 | h1
          · exact HS.out t h1
          · obtain rfl : t = j := by omega
            exact h)
        have HNE := Lib.hid (show xs.getD j default ≠ bs.getD j default → xs ≠ bs from fun h e => h (by rw [e]))
        clear hc1 hc2
        obtain ⟨⟨k, p, ch, x, y⟩, hx⟩ : ∃ x, x = xs.getD j default := ⟨_, rfl⟩
        obtain ⟨⟨k', p', ch', x', y'⟩, hy⟩ : ∃ y, y = bs.getD j default := ⟨_, rfl⟩
        rw [← hx] at a0 a1 a2 a3 a4 HNX HNE
        rw [← hy] at b0 b1 b2 b3 b4 HNX HNE
        simp only at a0 a1 a2 a3 a4 b0 b1 b2 b3 b4
        clear hx hy
        have z0 : (0 : Int) ≤ (j : Int) := by omega
        have z1 : (j : Int) < (n : Int) := by omega
        have hq := fun w => neq_unit k p ch x y k' p' ch' x' y' w
        have hgd := fun x1 y1 w => guard_unit .neq x1 y1 #[.int .i64 k, .int .i64 p, .int .i32 ch, .int .u32 x, .int .u64 y] #[.int .i64 k', .int .i64 p', .int .i32 ch', .int .u32 x', .int .u64 y'] w
        by_cases hxy : (⟨k, p, ch, x, y⟩ : Un) = ⟨k', p', ch', x', y'⟩
        · have HN2 := Lib.hid (HNX.out hxy)
          rw [decide_eq_true hxy] at hq
          clear hxy
          go_wp2_with fail
          go_region_held3 (fun w' => w'.cell? ⟨g1, o1 + j * 5, none⟩ = some (.int .i64 k) ∧ w'.cell? ⟨g1, o1 + j * 5 + 1, none⟩ = some (.int .i64 p) ∧ w'.cell? ⟨g1, o1 + j * 5 + 2, none⟩ = some (.int .i32 ch) ∧ w'.cell? ⟨g1, o1 + j * 5 + 3, none⟩ = some (.int .u32 x) ∧ w'.cell? ⟨g1, o1 + j * 5 + 4, none⟩ = some (.int .u64 y) ∧ w'.cell? ⟨g2, o2 + j * 5, none⟩ = some (.int .i64 k') ∧ w'.cell? ⟨g2, o2 + j * 5 + 1, none⟩ = some (.int .i64 p') ∧ w'.cell? ⟨g2, o2 + j * 5 + 2, none⟩ = some (.int .i32 ch') ∧ w'.cell? ⟨g2, o2 + j * 5 + 3, none⟩ = some (.int .u32 x') ∧ w'.cell? ⟨g2, o2 + j * 5 + 4, none⟩ = some (.int .u64 y')) (go_keep) (fail)
          go_wp2_with fail
          go_roundw
          case rel => exact ⟨j + 1, by go_num, by omega, below_drawn HB.out, HN2.out⟩
          case measure => simp [intOf]; omega
        · have HN2 := Lib.hid (HNE.out hxy)
          rw [decide_eq_false hxy] at hq
          clear hxy
          go_wp2_with fail
          go_region_held3 (fun w' => w'.cell? ⟨g1, o1 + j * 5, none⟩ = some (.int .i64 k) ∧ w'.cell? ⟨g1, o1 + j * 5 + 1, none⟩ = some (.int .i64 p) ∧ w'.cell? ⟨g1, o1 + j * 5 + 2, none⟩ = some (.int .i32 ch) ∧ w'.cell? ⟨g1, o1 + j * 5 + 3, none⟩ = some (.int .u32 x) ∧ w'.cell? ⟨g1, o1 + j * 5 + 4, none⟩ = some (.int .u64 y) ∧ w'.cell? ⟨g2, o2 + j * 5, none⟩ = some (.int .i64 k') ∧ w'.cell? ⟨g2, o2 + j * 5 + 1, none⟩ = some (.int .i64 p') ∧ w'.cell? ⟨g2, o2 + j * 5 + 2, none⟩ = some (.int .i32 ch') ∧ w'.cell? ⟨g2, o2 + j * 5 + 3, none⟩ = some (.int .u32 x') ∧ w'.cell? ⟨g2, o2 + j * 5 + 4, none⟩ = some (.int .u64 y')) (go_keep) (fail)
          go_wp2_with fail
          go_ret
          exact ⟨ret_bool (decide_eq_false HN2.out).symm, below_drawn HB.out⟩
      · have hjn : j = n := by omega
        have HE := Lib.hid (show xs = bs from ext_getU (HL1.out.trans HL2.out.symm) (fun t ht => HS.out t (by have := HL1.out; omega)))
        clear hjn
        go_wp2_with fail
        go_ret
        exact ⟨ret_bool (decide_eq_true HE.out).symm, HB.out⟩
  · have HN := Lib.hid (show xs ≠ bs from fun e => hnm (by rw [← HL1.out, ← HL2.out, e]))
    have hb : ((n : Int) != (m : Int)) = true := by rw [bne_iff_ne]; omega
    clear h1 h2
    go_enter Try.func17, Try.ntmps17
    go_wp2_with fail
    go_ret
    exact ⟨ret_bool (decide_eq_false HN.out).symm, Below.refl _ _⟩
end Go.Proofs.Ytlnekhkdncccgaa
