/-
  slices.Contains, slices.IsSorted at code points. Conditions: those that each states.
-/
import Derived.Test.YtlnekhkdncccgaaUnJ
namespace Go.Proofs.Ytlnekhkdncccgaa
open Go.RowKit
open Pl (Un)

set_option maxRecDepth 100000 in
theorem isNaN_any (x : Int) (w : World) : Calls Try.prog 61 #[.int .i32 x] w fun e w' => e = .returned (.bool false) ∧ Below w.heap.size w w' := by
  go_enter Try.func61, Try.ntmps61
  go_wp2_with fail
  go_ret
  exact ⟨rfl, Below.refl _ _⟩
set_option maxRecDepth 100000 in
theorem less_any (x y : Int) (w : World) : Calls Try.prog 47 #[.int .i32 x, .int .i32 y] w fun e w' => e = .returned (.bool (decide (x < y))) ∧ Below w.heap.size w w' := by
  have HN := fun x w => Lib.hid (isNaN_any x w)
  obtain ⟨r, hr⟩ : ∃ r, r = decide (x < y) := ⟨_, rfl⟩
  rw [← hr]
  have hr2 := hr.symm
  clear hr
  go_enter Try.func47, Try.ntmps47
  go_wp2_with fail
  refine (HN _ _).out.mono ?_
  rintro e w1 ⟨rfl, hb⟩
  have HB := Lib.hid hb
  clear hb
  go_wp2_with fail
  go_ret
  exact ⟨rfl, HB.out⟩
set_option maxRecDepth 100000 in
theorem has_any (A : Option Addr) (n c : Nat) (cs : List Int) (x : Int) (w : World) (h1 : Crs w w.heap.size A n c cs) :
    Calls Try.prog 26 #[.slice A n c, .int .i32 x] w fun e w' => e = .returned (.bool (decide (x ∈ cs))) ∧ Below w.heap.size w w' := by
  have HI := Lib.hid (indexC_any A n c cs x w h1)
  clear h1
  go_enter Try.func26, Try.ntmps26
  go_wp2_with fail
  refine HI.out.mono ?_
  rintro e w1 ⟨r, rfl, h, hb⟩
  have HB := Lib.hid hb
  rcases h with ⟨rfl, h⟩ | ⟨i, rfl, h, _⟩
  · have hx : x ∉ cs := fun hm => by
      obtain ⟨t, ht, e⟩ := List.getElem_of_mem hm
      refine h t ht ?_
      rw [List.getD_eq_getElem?_getD, List.getElem?_eq_getElem ht]; exact e
    have HX := Lib.hid hx
    clear h hb hx
    go_wp2_with fail
    go_ret
    exact ⟨ret_bool (decide_eq_false HX.out).symm, HB.out⟩
  · have hx : x ∈ cs := List.mem_of_getElem? h
    have HX := Lib.hid hx
    have z0 : (0 : Int) ≤ (i : Int) := Int.natCast_nonneg i
    clear h hb hx
    go_wp2_with fail
    go_ret
    exact ⟨ret_bool (decide_eq_true HX.out).symm, HB.out⟩
set_option maxRecDepth 100000 in
/-- what stands from a place on, as the run of the instruction t[k:] -/
theorem crs_from {w : World} {B g n c : Nat} {cs : List Int} (h : Crs w B (some ⟨g, 0, none⟩) n c cs) (k : Nat) (hk : k ≤ n) (kk : Int) (hkk : kk = (k : Int)) :
    ∃ A', (∀ w', (Instr.sliceAt 22 (.slice (some ⟨g, 0, none⟩) n c) (some (.int .i64 kk)) none none).run Try.prog w' = .ok (.slice A' (n - k) (c - k)) w') ∧ Crs w B A' (n - k) (c - k) (cs.drop k) := by
  subst hkk
  refine ⟨_, slice_fromC g n c k hk, ?_⟩
  have hl := h.len
  have hle := h.le
  by_cases hc : c = k
  · have hn : n = k := by omega
    rw [if_pos hc]
    refine ⟨by rw [List.length_drop]; omega, by omega, by have := h.cap; omega, (fun e => by cases e), fun x hx => h.js x (List.mem_of_mem_drop hx), fun h0 => by omega⟩
  · rw [if_neg hc]
    have := h.part (k := k) (m := n - k) (by omega)
    rw [List.take_of_length_le (by rw [List.length_drop]; omega), Nat.zero_add] at this
    exact this
def SoR (w : World) (n : Nat) (i : Value) (wr : World) : Prop := ∃ j : Int, i = .int .i64 j ∧ -1 ≤ j ∧ j < n ∧ Below w.heap.size w wr
set_option maxRecDepth 100000 in
set_option maxHeartbeats 1000000 in
theorem sorted_any (A : Option Addr) (n c : Nat) (cs : List Int) (w : World) (h1 : Crs w w.heap.size A n c cs) (hs : ∀ t, t + 1 < cs.length → cs.getD t 0 ≤ cs.getD (t + 1) 0) (hn : n ≤ 1000000) :
    Calls Try.prog 28 #[.slice A n c] w fun e w' => e = .returned (.bool true) ∧ Below w.heap.size w w' := by
  have H1 := Lib.hid h1
  have HS := Lib.hid hs
  have HI := Lib.hid (show SoR w n (.int .i64 ((n : Int) - 1)) w from ⟨_, rfl, by omega, by omega, Below.refl _ _⟩)
  have hw0 : wrap64 ((n : Int) - 1) = (n : Int) - 1 := by unfold wrap64; omega
  clear h1 hs
  go_enter Try.func28, Try.ntmps28
  go_wp2_with fail
  clear hw0
  go_loopw [3] (fun i wr => SoR w n i wr) (fun i _ => (intOf i).toNat)
  case atStart => exact HI.out
  case round =>
    obtain ⟨j, rfl, hj0, hjn, hb⟩ := hrel
    have HB := Lib.hid hb
    by_cases hlt : 0 < j
    · obtain ⟨i, rfl⟩ : ∃ i : Nat, j = (i : Int) := ⟨j.toNat, by omega⟩
      obtain ⟨i', hi'⟩ : ∃ i', i' = i - 1 := ⟨_, rfl⟩
      have hin : i < n := by omega
      have hin' : i' < n := by omega
      have hcr := H1.out.then_ hb
      obtain ⟨g, o, rfl, _, hc⟩ := hcr.at_ hin
      obtain ⟨x, hx⟩ : ∃ x, x = cs.getD i 0 := ⟨_, rfl⟩
      obtain ⟨y, hy⟩ : ∃ y, y = cs.getD i' 0 := ⟨_, rfl⟩
      have HXY := Lib.hid (show ¬ x < y by
        have := HS.out i' (by have := H1.out.len; omega)
        rw [show i' + 1 = i by omega, ← hx, ← hy] at this; omega)
      have HC1 := Lib.hid (show ∀ w', Below wr.heap.size wr w' → w'.cell? ⟨g, o + i, none⟩ = some (.int .i32 x) from fun w' h => by
        obtain ⟨_, _, e, _, hc⟩ := (hcr.then_ h).at_ hin
        cases e; rw [hx]; exact hc i hin)
      have HC2 := Lib.hid (show ∀ w', Below wr.heap.size wr w' → w'.cell? ⟨g, o + i', none⟩ = some (.int .i32 y) from fun w' h => by
        obtain ⟨_, _, e, _, hc⟩ := (hcr.then_ h).at_ hin'
        cases e; rw [hy]; exact hc i' hin')
      have HW1 := Lib.hid (show IntKind.i64.wrap ((i : Int) - 1) = (i' : Int) by rw [IntKind.wrap_i64]; omega)
      have z0 : (0 : Int) ≤ (i : Int) := by omega
      have z1 : (i : Int) < (n : Int) := by omega
      have y0 : (0 : Int) ≤ (i' : Int) := by omega
      have y1 : (i' : Int) < (n : Int) := by omega
      have HJ := Lib.hid (show (-1 : Int) ≤ (i : Int) - 1 ∧ (i : Int) - 1 < (n : Int) by omega)
      clear hb hcr hc hx hy hin hin' hj0 hjn
      go_wp2_with fail
      refine Rg.wp_region_inv (fun w' => Below wr.heap.size wr w') (Rg.Wd.at [.is (.slice (some ⟨g, o, none⟩) n c), .is (.int .i64 (i : Int)), .is (.pointer (some ⟨g, o + i, none⟩)), .is (.int .i32 x), .is (.slice (some ⟨g, o, none⟩) n c), .is (.int .i64 (i : Int)), .is (.int .i64 (i' : Int)), .is (.pointer (some ⟨g, o + i', none⟩)), .is (.int .i32 y), .is (.bool false)]) (by kernel_rfl) (by kernel_rfl) (Rg.Wd.stays _ _) (below_drawn (Below.refl _ _)) ⟨?_, ?_, ?_, ?_, ?_, ?_, ?_, ?_, ?_, ?_, trivial⟩ ?_
      · intro a w1 hS hb hd
        have e0 := hb 0 (Rg.nw (by decide))
        simp [Act.eval] at e0
        exact Rg.does_pure (Rg.wanted_none rfl) (by simp [execOp, e0, go_sem]) hS rfl
      · intro a w1 hS hb hd
        have e3 := hb 3 (Rg.nw (by decide))
        simp [Act.eval] at e3
        exact Rg.does_pure (Rg.wanted_none rfl) (by simp [execOp, e3, go_sem]) hS rfl
      · intro a w1 hS hb hd
        have e11 := hd ⟨0, .data⟩ (by simp) rfl _ _ rfl rfl
        have e11 : a.tmps[11]?.getD undef = (.slice (some ⟨g, o, none⟩) n c) := Rg.slot e11
        have e12 := hd ⟨1, .data⟩ (by simp) rfl _ _ rfl rfl
        have e12 : a.tmps[12]?.getD undef = (.int .i64 (i : Int)) := Rg.slot e12
        exact Rg.does_pure (Rg.wanted_none rfl) (by simp [execOp, e11, e12, z0, z1, go_sem]) hS rfl
      · intro a w1 hS hb hd
        have e13 := hd ⟨2, .data⟩ (by simp) rfl _ _ rfl rfl
        have e13 : a.tmps[13]?.getD undef = (.pointer (some ⟨g, o + i, none⟩)) := Rg.slot e13
        exact Rg.does_pure (Rg.wanted_none rfl) (by simp [execOp, e13, (HC1.out _ hS), go_sem]) hS rfl
      · intro a w1 hS hb hd
        have e0 := hb 0 (Rg.nw (by decide))
        simp [Act.eval] at e0
        exact Rg.does_pure (Rg.wanted_none rfl) (by simp [execOp, e0, go_sem]) hS rfl
      · intro a w1 hS hb hd
        have e3 := hb 3 (Rg.nw (by decide))
        simp [Act.eval] at e3
        exact Rg.does_pure (Rg.wanted_none rfl) (by simp [execOp, e3, go_sem]) hS rfl
      · intro a w1 hS hb hd
        have e16 := hd ⟨5, .data⟩ (by simp) rfl _ _ rfl rfl
        have e16 : a.tmps[16]?.getD undef = (.int .i64 (i : Int)) := Rg.slot e16
        exact Rg.does_pure (Rg.wanted_none rfl) (by simp [execOp, e16, HW1.out, go_sem]) hS rfl
      · intro a w1 hS hb hd
        have e15 := hd ⟨4, .data⟩ (by simp) rfl _ _ rfl rfl
        have e15 : a.tmps[15]?.getD undef = (.slice (some ⟨g, o, none⟩) n c) := Rg.slot e15
        have e17 := hd ⟨6, .data⟩ (by simp) rfl _ _ rfl rfl
        have e17 : a.tmps[17]?.getD undef = (.int .i64 (i' : Int)) := Rg.slot e17
        exact Rg.does_pure (Rg.wanted_none rfl) (by simp [execOp, e15, e17, y0, y1, go_sem]) hS rfl
      · intro a w1 hS hb hd
        have e18 := hd ⟨7, .data⟩ (by simp) rfl _ _ rfl rfl
        have e18 : a.tmps[18]?.getD undef = (.pointer (some ⟨g, o + i', none⟩)) := Rg.slot e18
        exact Rg.does_pure (Rg.wanted_none rfl) (by simp [execOp, e18, (HC2.out _ hS), go_sem]) hS rfl
      · intro a w1 hS hb hd
        have e14 := hd ⟨3, .data⟩ (by simp) rfl _ _ rfl rfl
        have e14 : a.tmps[14]?.getD undef = (.int .i32 x) := Rg.slot e14
        have e19 := hd ⟨8, .data⟩ (by simp) rfl _ _ rfl rfl
        have e19 : a.tmps[19]?.getD undef = (.int .i32 y) := Rg.slot e19
        refine Rg.does_call (f := 47) (args := #[.int .i32 x, .int .i32 y]) (Rg.wanted_none rfl) (by simp [e14, e19, go_sem]) ?_
        have hl := less_any x y w1; rw [decide_eq_false (show ¬ x < y by have := HXY.out; omega)] at hl; exact hl.mono fun e w3 ⟨h1, h2⟩ => ⟨_, h1, rfl, below_then hS h2, h2⟩
      · intro v w3 hS hv
        have HB3 := Lib.hid (below_then' HB.out hS HB.out.size)
        have h0 : v 9 = .bool false := hv 9 _ _ rfl rfl
        clear hS hv
        simp only [Rg.putAll, Nat.zero_add, Nat.reduceAdd]
        simp only [Act.put, List.setIfInBounds_toArray, List.set_cons_succ, List.set_cons_zero]
        rw [h0]
        go_wp2_with fail
        go_roundw
        case rel => exact ⟨(i : Int) - 1, by go_num, HJ.out.1, HJ.out.2, HB3.out⟩
        case measure => simp [intOf]; omega
    · go_wp2_with fail
      go_ret
      exact ⟨rfl, HB.out⟩
/-- between one round and the next: nothing that was there turned -/
def Rnd (w : World) (n : Nat) (i : Value) (wr : World) : Prop := ∃ j : Nat, i = .int .i64 (j : Int) ∧ j ≤ n ∧ Below w.heap.size w wr
end Go.Proofs.Ytlnekhkdncccgaa
