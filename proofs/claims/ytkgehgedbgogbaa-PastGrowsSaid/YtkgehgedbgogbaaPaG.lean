/-
  edit.Own, edit.Grows, copybookref08.Same at rows of units of any length that memory holds (layer 10 bounds no row). Conditions: those that each states.
-/
import Derived.Test.YtkgehgedbgogbaaPaA
namespace Go.Proofs.Ytkgehgedbgogbaa
open Go.RowKit
open Pl (Un)

def URel (w : World) (n : Nat) (xs bs : List Un) (i : Value) (wr : World) : Prop := ∃ j : Nat, i = .int .i64 (j : Int) ∧ j ≤ n ∧ Below w.heap.size w wr ∧ ∀ t, t < j → xs.getD t default = bs.getD t default
theorem ext_getU {xs bs : List Un} (hl : xs.length = bs.length) (h : ∀ t, t < xs.length → xs.getD t default = bs.getD t default) : xs = bs := by
  refine List.ext_getElem hl fun i h1 h2 => ?_
  have := h i h1
  rwa [List.getD_eq_getElem?_getD, List.getD_eq_getElem?_getD, List.getElem?_eq_getElem h1, List.getElem?_eq_getElem h2] at this
theorem take_snoc {l : List Un} {j : Nat} (hj : j < l.length) : l.take (j + 1) = l.take j ++ [l.getD j default] := by
  rw [List.take_add_one, List.getElem?_eq_getElem hj, List.getD_eq_getElem?_getD, List.getElem?_eq_getElem hj]; rfl

set_option maxRecDepth 100000 in
set_option maxHeartbeats 400000 in
theorem same8_any (A A' : Option Addr) (n c m c' : Nat) (xs bs : List Un) (w : World) (h1 : Uns w w.heap.size A n c xs) (h2 : Uns w w.heap.size A' m c' bs) :
    Calls Try.prog 34 #[.slice A n c, .slice A' m c'] w fun e w' => e = .returned (.bool (decide (xs = bs))) ∧ Below w.heap.size w w' := by
  have hcap1 := h1.cap
  have hle1 := h1.le
  have hcap2 := h2.cap
  have hle2 := h2.le
  unfold maxLen at hcap1 hcap2
  have HL1 := Lib.hid h1.len
  have HL2 := Lib.hid h2.len
  by_cases hnm : n = m
  · subst hnm
    have H1 := Lib.hid h1
    have H2 := Lib.hid h2
    clear h1 h2
    go_enter Try.func34, Try.ntmps34
    go_wp2_with fail
    go_loopw [5] (fun i wr => URel w n xs bs i wr) (fun i _ => n - (intOf i).toNat)
    case atStart => exact ⟨0, rfl, Nat.zero_le _, Below.refl _ _, fun t ht => by omega⟩
    case round =>
      obtain ⟨j, rfl, hj, hb, hs⟩ := hrel
      have HB := Lib.hid hb
      have HS := Lib.hid hs
      clear hb hs
      by_cases hlt : j < n
      · obtain ⟨g1, o1, rfl, hg1, hc1⟩ := Uns.at_ (Rws.below H1.out HB.out (Nat.le_refl _)) hlt
        obtain ⟨g2, o2, rfl, hg2, hc2⟩ := Uns.at_ (Rws.below H2.out HB.out (Nat.le_refl _)) hlt
        obtain ⟨a0, a1, a2, a3, a4⟩ := hc1 j hlt
        obtain ⟨b0, b1, b2, b3, b4⟩ := hc2 j hlt
        have HNX := Lib.hid (show xs.getD j default = bs.getD j default → ∀ t, t < j + 1 → xs.getD t default = bs.getD t default from fun h t ht => by
          rcases Nat.lt_or_ge t j with h1 | h1
          · exact HS.out t h1
          · obtain rfl : t = j := by omega
            exact h)
        have HNE := Lib.hid (show xs.getD j default ≠ bs.getD j default → xs ≠ bs from fun h e => h (by rw [e]))
        clear hc1 hc2
        obtain ⟨⟨k, p, ch, x, y⟩, hx⟩ : ∃ x, x = xs.getD j default := ⟨_, rfl⟩
        obtain ⟨⟨k', p', ch', x', y'⟩, hy⟩ : ∃ y, y = bs.getD j default := ⟨_, rfl⟩
        rw [← hx] at a0 a1 a2 a3 a4 HNX HNE
        rw [← hy] at b0 b1 b2 b3 b4 HNX HNE
        simp only at a0 a1 a2 a3 a4 b0 b1 b2 b3 b4
        clear hx hy
        have z0 : (0 : Int) ≤ (j : Int) := by omega
        have z1 : (j : Int) < (n : Int) := by omega
        have hq := fun w => neq_unit k p ch x y k' p' ch' x' y' w
        have hgd := fun x1 y1 w => guard_unit .neq x1 y1 #[.int .i64 k, .int .i64 p, .int .i32 ch, .int .u32 x, .int .u64 y] #[.int .i64 k', .int .i64 p', .int .i32 ch', .int .u32 x', .int .u64 y'] w
        by_cases hxy : (⟨k, p, ch, x, y⟩ : Un) = ⟨k', p', ch', x', y'⟩
        · have HN2 := Lib.hid (HNX.out hxy)
          rw [decide_eq_true hxy] at hq
          clear hxy
          go_wp2_with fail
          go_region_held3 (fun w' => w'.cell? ⟨g1, o1 + j * 5, none⟩ = some (.int .i64 k) ∧ w'.cell? ⟨g1, o1 + j * 5 + 1, none⟩ = some (.int .i64 p) ∧ w'.cell? ⟨g1, o1 + j * 5 + 2, none⟩ = some (.int .i32 ch) ∧ w'.cell? ⟨g1, o1 + j * 5 + 3, none⟩ = some (.int .u32 x) ∧ w'.cell? ⟨g1, o1 + j * 5 + 4, none⟩ = some (.int .u64 y) ∧ w'.cell? ⟨g2, o2 + j * 5, none⟩ = some (.int .i64 k') ∧ w'.cell? ⟨g2, o2 + j * 5 + 1, none⟩ = some (.int .i64 p') ∧ w'.cell? ⟨g2, o2 + j * 5 + 2, none⟩ = some (.int .i32 ch') ∧ w'.cell? ⟨g2, o2 + j * 5 + 3, none⟩ = some (.int .u32 x') ∧ w'.cell? ⟨g2, o2 + j * 5 + 4, none⟩ = some (.int .u64 y')) (go_keep) (fail)
          go_wp2_with fail
          go_roundw
          case rel => exact ⟨j + 1, by go_num, by omega, below_drawn HB.out, HN2.out⟩
          case measure => simp [intOf]; omega
        · have HN2 := Lib.hid (HNE.out hxy)
          rw [decide_eq_false hxy] at hq
          clear hxy
          go_wp2_with fail
          go_region_held3 (fun w' => w'.cell? ⟨g1, o1 + j * 5, none⟩ = some (.int .i64 k) ∧ w'.cell? ⟨g1, o1 + j * 5 + 1, none⟩ = some (.int .i64 p) ∧ w'.cell? ⟨g1, o1 + j * 5 + 2, none⟩ = some (.int .i32 ch) ∧ w'.cell? ⟨g1, o1 + j * 5 + 3, none⟩ = some (.int .u32 x) ∧ w'.cell? ⟨g1, o1 + j * 5 + 4, none⟩ = some (.int .u64 y) ∧ w'.cell? ⟨g2, o2 + j * 5, none⟩ = some (.int .i64 k') ∧ w'.cell? ⟨g2, o2 + j * 5 + 1, none⟩ = some (.int .i64 p') ∧ w'.cell? ⟨g2, o2 + j * 5 + 2, none⟩ = some (.int .i32 ch') ∧ w'.cell? ⟨g2, o2 + j * 5 + 3, none⟩ = some (.int .u32 x') ∧ w'.cell? ⟨g2, o2 + j * 5 + 4, none⟩ = some (.int .u64 y')) (go_keep) (fail)
          go_wp2_with fail
          go_ret
          exact ⟨ret_bool (decide_eq_false HN2.out).symm, below_drawn HB.out⟩
      · have hjn : j = n := by omega
        have HE := Lib.hid (show xs = bs from ext_getU (HL1.out.trans HL2.out.symm) (fun t ht => HS.out t (by have := HL1.out; omega)))
        clear hjn
        go_wp2_with fail
        go_ret
        exact ⟨ret_bool (decide_eq_true HE.out).symm, HB.out⟩
  · have HN := Lib.hid (show xs ≠ bs from fun e => hnm (by rw [← HL1.out, ← HL2.out, e]))
    have hb : ((n : Int) != (m : Int)) = true := by rw [bne_iff_ne]; omega
    clear h1 h2
    go_enter Try.func34, Try.ntmps34
    go_wp2_with fail
    go_ret
    exact ⟨ret_bool (decide_eq_false HN.out).symm, Below.refl _ _⟩
set_option maxRecDepth 100000 in
set_option maxHeartbeats 400000 in
theorem own_big (A : Option Addr) (n c : Nat) (l : List Un) (w : World) (h1 : Uns w w.heap.size A n c l) (hr : n * 40 ≤ 140737488355328) :
    Calls Try.prog 40 #[.slice A n c] w (RetU w l) := by
  have HC := Lib.hid (cloneU_big A n c l w h1 hr)
  clear h1
  go_enter Try.func40, Try.ntmps40
  go_wp2_with fail
  refine HC.out.mono ?_
  rintro e w' ⟨B, d, rfl, ho, hb⟩
  have HO := Lib.hid ho
  have HB := Lib.hid hb
  clear ho hb HC
  go_wp2_with fail
  go_ret
  exact ⟨B, d, rfl, HO.out, HB.out⟩
theorem Pl.growsL_le (l : List Un) : -(l.length : Int) ≤ Pl.growsL l ∧ Pl.growsL l ≤ l.length := by
  induction l with
  | nil => exact ⟨by decide, by decide⟩
  | cons u l ih =>
    have e : Pl.growsL (u :: l) = Pl.grows u.k + Pl.growsL l := by simp [Pl.growsL]
    have := Pl.grows_le u.k
    rw [e, List.length_cons]
    omega
def GrR (w : World) (l : List Un) (s i : Value) (wr : World) : Prop := ∃ j : Nat, i = .int .i64 (j : Int) ∧ s = .int .i64 (Pl.growsL (l.take j)) ∧ j ≤ l.length ∧ Below w.heap.size w wr
theorem wrap_big {a : Int} (h1 : -140737488355329 ≤ a) (h2 : a ≤ 140737488355329) : wrap64 a = a := by unfold wrap64; omega
set_option maxRecDepth 100000 in
set_option maxHeartbeats 400000 in
theorem growsL_big (A : Option Addr) (n c : Nat) (l : List Un) (w : World) (h1 : Uns w w.heap.size A n c l) (hn : n ≤ 140737488355328) :
    Calls Try.prog 11 #[.slice A n c] w fun e w' => e = .returned (.int .i64 (Pl.growsL l)) ∧ Below w.heap.size w w' := by
  have HL := Lib.hid h1.len
  have H1 := Lib.hid h1
  have HN := Lib.hid hn
  clear h1
  go_enter Try.func11, Try.ntmps11
  go_wp2_with fail
  go_loopw [3, 8] (fun s i wr => GrR w l s i wr) (fun _ i _ => n - (intOf i).toNat)
  case atStart => exact ⟨0, rfl, rfl, Nat.zero_le _, Below.refl _ _⟩
  case round =>
    obtain ⟨j, rfl, rfl, hj, hb⟩ := hrel
    have HB := Lib.hid hb
    rw [HL.out] at hj
    clear hb
    by_cases hlt : j < n
    · obtain ⟨g1, o1, rfl, hg1, hc1⟩ := Uns.at_ (Rws.below H1.out HB.out (Nat.le_refl _)) hlt
      obtain ⟨a0, a1, a2, a3, a4⟩ := hc1 j hlt
      have hjl : j < l.length := by rw [HL.out]; exact hlt
      have hts := take_snoc hjl
      obtain ⟨u, hu⟩ : ∃ u, u = l.getD j default := ⟨_, rfl⟩
      rw [← hu] at a0 a1 a2 a3 a4 hts
      have HG := fun w => Lib.hid (grows_any u w)
      obtain ⟨s, hs⟩ : ∃ s, s = Pl.growsL (l.take j) := ⟨_, rfl⟩
      have hsn : Pl.growsL (l.take (j + 1)) = s + Pl.grows u.k := by rw [hts, Pl.grows_append, Pl.grows_one, hs]
      have hsb := Pl.growsL_le (l.take j)
      rw [← hs, List.length_take] at hsb
      have hgb := Pl.grows_le u.k
      obtain ⟨k, p, ch, x, y⟩ := u
      simp only at a0 a1 a2 a3 a4 hgb hsn HG
      obtain ⟨gr, hgr⟩ : ∃ gr, gr = Pl.grows k := ⟨_, rfl⟩
      rw [← hgr] at hgb hsn
      simp only [← hgr] at HG
      have HSN := Lib.hid (show Value.int .i64 (wrap64 (s + gr)) = .int .i64 (Pl.growsL (l.take (j + 1))) by rw [hsn, wrap_big (by have := HN.out; omega) (by have := HN.out; omega)])
      rw [← hs]
      have z0 : (0 : Int) ≤ (j : Int) := Int.natCast_nonneg j
      have z1 : (j : Int) < (n : Int) := Int.ofNat_lt.2 hlt
      have HBU := Lib.hid (below_alloc HB.out (.cells #[.int .i64 k, .int .i64 p, .int .i32 ch, .int .u32 x, .int .u64 y] 65))
      have HMS := Lib.hid (show n - (j + 1) < n - j by omega)
      have HJ1 := Lib.hid (show j + 1 ≤ l.length from hjl)
      clear hc1 hu hts hs hsn hsb hgb hgr
      unfold uval at HG
      simp only at HG
      go_wp2_with fail
      refine (HG _).out.mono ?_
      rintro e w2 ⟨rfl, hb2⟩
      have HB2 := Lib.hid (below_then' HBU.out hb2 HBU.out.size)
      clear hb2 a0 a1 a2 a3 a4
      go_wp2_with fail
      go_roundw
      case rel => exact ⟨j + 1, by go_num, HSN.out, HJ1.out, HB2.out⟩
      case measure => simp [intOf]; exact HMS.out
    · have hE : l.take j = l := List.take_of_length_le (by rw [HL.out]; omega)
      rw [hE]
      clear hE
      go_wp2_with fail
      go_ret
      exact ⟨rfl, HB.out⟩

end Go.Proofs.Ytkgehgedbgogbaa
