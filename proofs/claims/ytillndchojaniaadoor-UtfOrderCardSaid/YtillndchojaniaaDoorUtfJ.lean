/-
  Contract of copybookref04.Same; what the document's own first reckons, in plain words. No conditions but those that each states.
-/
import Derived.Test.YtillndchojaniaaDoorUtfI
import Derived.Deep.RegionHeld3
namespace Go.Proofs.YtillndchojaniaaDoor
open Go.RowKit

def SRel (w : World) (n : Nat) (xs bs : List Int) (i : Value) (wr : World) : Prop := ∃ j : Nat, i = .int .i64 (j : Int) ∧ j ≤ n ∧ Below w.heap.size w wr ∧ ∀ t, t < j → xs.getD t 0 = bs.getD t 0
theorem ext_getD {xs bs : List Int} (hl : xs.length = bs.length) (h : ∀ t, t < xs.length → xs.getD t 0 = bs.getD t 0) : xs = bs := by
  refine List.ext_getElem hl fun i h1 h2 => ?_
  have := h i h1
  rwa [List.getD_eq_getElem?_getD, List.getD_eq_getElem?_getD, List.getElem?_eq_getElem h1, List.getElem?_eq_getElem h2] at this

set_option maxRecDepth 100000 in
set_option maxHeartbeats 400000 in
theorem same_any (A A' : Option Addr) (n c m c' : Nat) (xs bs : List Int) (w : World) (h1 : Crs w w.heap.size A n c xs) (h2 : Crs w w.heap.size A' m c' bs) :
    Calls Tryd.prog 13 #[.slice A n c, .slice A' m c'] w fun e w' => e = .returned (.bool (decide (xs = bs))) ∧ Below w.heap.size w w' := by
  have hcap1 := h1.cap
  have hle1 := h1.le
  have hcap2 := h2.cap
  have hle2 := h2.le
  unfold maxLen at hcap1 hcap2
  have HL1 := Lib.hid h1.len
  have HL2 := Lib.hid h2.len
  by_cases hnm : n = m
  · subst hnm
    have H1 := Lib.hid h1
    have H2 := Lib.hid h2
    clear h1 h2
    go_enter Tryd.func13, Tryd.ntmps13
    go_wp2_with fail
    go_loopw [5] (fun i wr => SRel w n xs bs i wr) (fun i _ => n - (intOf i).toNat)
    case atStart => exact ⟨0, rfl, Nat.zero_le _, Below.refl _ _, fun t ht => by omega⟩
    case round =>
      obtain ⟨j, rfl, hj, hb, hs⟩ := hrel
      have HB := Lib.hid hb
      have HS := Lib.hid hs
      clear hb hs
      by_cases hlt : j < n
      · obtain ⟨g1, o1, rfl, hg1, hc1⟩ := (H1.out.below HB.out (Nat.le_refl _)).at_ hlt
        obtain ⟨g2, o2, rfl, hg2, hc2⟩ := (H2.out.below HB.out (Nat.le_refl _)).at_ hlt
        have a1 := hc1 j hlt
        have a2 := hc2 j hlt
        have HNX := Lib.hid (show xs.getD j 0 = bs.getD j 0 → ∀ t, t < j + 1 → xs.getD t 0 = bs.getD t 0 from fun h t ht => by
          rcases Nat.lt_or_ge t j with h1 | h1
          · exact HS.out t h1
          · obtain rfl : t = j := by omega
            exact h)
        have HNE := Lib.hid (show xs.getD j 0 ≠ bs.getD j 0 → xs ≠ bs from fun h e => h (by rw [e]))
        clear hc1 hc2
        obtain ⟨x, hx⟩ : ∃ x, x = xs.getD j 0 := ⟨_, rfl⟩
        obtain ⟨y, hy⟩ : ∃ y, y = bs.getD j 0 := ⟨_, rfl⟩
        rw [← hx] at a1 HNX HNE
        rw [← hy] at a2 HNX HNE
        clear hx hy
        have z0 : (0 : Int) ≤ (j : Int) := by omega
        have z1 : (j : Int) < (n : Int) := by omega
        by_cases hxy : x = y
        · subst hxy
          have HN2 := Lib.hid (HNX.out rfl)
          go_wp2_with fail
          go_region_held3 (fun w' => w'.cell? ⟨g1, o1 + j, none⟩ = some (.int .i32 x) ∧ w'.cell? ⟨g2, o2 + j, none⟩ = some (.int .i32 x)) (go_keep) (fail)
          go_wp2_with fail
          go_roundw
          case rel => exact ⟨j + 1, by go_num, by omega, below_drawn HB.out, HN2.out⟩
          case measure => simp [intOf]; omega
        · have HN2 := Lib.hid (HNE.out hxy)
          have hbne : (x != y) = true := by rw [bne_iff_ne]; exact hxy
          go_wp2_with fail
          go_region_held3 (fun w' => w'.cell? ⟨g1, o1 + j, none⟩ = some (.int .i32 x) ∧ w'.cell? ⟨g2, o2 + j, none⟩ = some (.int .i32 y)) (go_keep) (fail)
          go_wp2_with fail
          go_ret
          exact ⟨ret_bool (decide_eq_false HN2.out).symm, below_drawn HB.out⟩
      · have hjn : j = n := by omega
        have HE := Lib.hid (show xs = bs from ext_getD (HL1.out.trans HL2.out.symm) (fun t ht => HS.out t (by have := HL1.out; omega)))
        clear hjn
        go_wp2_with fail
        go_ret
        exact ⟨ret_bool (decide_eq_true HE.out).symm, HB.out⟩
  · have HN := Lib.hid (show xs ≠ bs from fun e => hnm (by rw [← HL1.out, ← HL2.out, e]))
    have hb : ((n : Int) != (m : Int)) = true := by rw [bne_iff_ne]; omega
    clear h1 h2
    go_enter Tryd.func13, Tryd.ntmps13
    go_wp2_with fail
    go_ret
    exact ⟨ret_bool (decide_eq_false HN.out).symm, Below.refl _ _⟩

namespace Pl
/-- what the document's own first makes of n bytes -/
def off (n : Nat) : Int := if n = 2 then 192 else if n = 3 then 224 else if n = 4 then 240 else 0
def rc (c : Int) (l : List Nat) : Int := l.foldl (fun (c : Int) (x : Nat) => 64 * c + (x : Int) - 128) c
def rcv (bs : List Nat) (n : Nat) : Int := rc ((bs.getD 0 0 : Nat) - off n) ((bs.drop 1).take (n - 1))
def Hit (bs : List Nat) (n : Nat) : Prop := May (rcv bs n) ∧ uno (rcv bs n) = bs.take n
theorem hit_fst {bs : List Nat} {n : Nat} (hn : n ≤ bs.length) (h : Hit bs n) : Pl.fst bs = ((rcv bs n).toNat, n) := by
  have h1 := fst_uno h.1 (bs.drop n)
  rw [h.2, List.take_append_drop, List.length_take, Nat.min_eq_left hn] at h1
  exact h1
theorem rcv_uno {c : Int} (h : May c) (r : List Nat) : rcv (uno c ++ r) (uno c).length = c := by
  have hc := h.le
  obtain ⟨n, rfl⟩ : ∃ n : Nat, c = (n : Int) := ⟨c.toNat, by omega⟩
  have e : uno (n : Int) = one n := by simp [uno]
  rw [e]
  unfold one
  by_cases h1 : n < 128
  · rw [if_pos h1]; simp [rcv, rc, off]
  · rw [if_neg h1]
    by_cases h2 : n < 2048
    · rw [if_pos h2]; simp [rcv, rc, off]; omega
    · rw [if_neg h2]
      by_cases h3 : n < 65536
      · rw [if_pos h3]; simp [rcv, rc, off]; omega
      · rw [if_neg h3]; simp [rcv, rc, off]; omega
theorem hit_none {bs : List Nat} (h : ∀ n, 1 ≤ n → n ≤ 4 → n ≤ bs.length → ¬ Hit bs n) : Pl.fst bs = (0, 0) := by
  by_cases h0 : (fst bs).2 = 0
  · exact fst_none h0
  · obtain ⟨h1, h2, h3⟩ := fst_ok h0
    have h4 := len_uno ((fst bs).1 : Nat)
    have h5 := (fst_le bs).1
    refine absurd ?_ (h (fst bs).2 (by omega) (by omega) h5)
    have h6 : rcv bs (fst bs).2 = ((fst bs).1 : Nat) := by
      have := rcv_uno h1 (bs.drop (fst bs).2)
      rwa [← h3, ← h2] at this
    refine ⟨by rw [h6]; exact h1, ?_⟩
    rw [h6]
    have h7 := congrArg (List.take (fst bs).2) h3
    rw [List.take_append_of_le_length (by omega), List.take_of_length_le (l := uno _) (by omega)] at h7
    exact h7.symm
theorem rc_snoc (c : Int) (l : List Nat) (i : Nat) (h : i < l.length) : rc c (l.take (i + 1)) = 64 * rc c (l.take i) + (l.getD i 0 : Nat) - 128 := by
  rw [List.take_add_one, List.getElem?_eq_getElem h, List.getD_eq_getElem?_getD, List.getElem?_eq_getElem h]
  unfold rc
  rw [List.foldl_append]
  rfl
end Pl
end Go.Proofs.YtillndchojaniaaDoor
