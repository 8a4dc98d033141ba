/-
  The walk of EditKnown: it returns true; nothing that was there turned. No conditions.
-/
import Derived.Test.YthnenmglmebljaaEdO
import Derived.BigQuiet
namespace Go.Proofs.Ythnenmglmebljaa
open Go.RowKit
open Pl (Un)

namespace editKnown
theorem IdAt.then_ {w w' : World} {b : Nat} {x y : Int} (h : IdAt w b x y) (hb : Below w.heap.size w w') : IdAt w' b x y := h.below hb (lt_of_block h)
def zc (n : Nat) : List Value := cellsC (List.replicate n 0)
set_option maxRecDepth 100000 in
theorem make_k (n : Nat) (hn : n ≤ 1000) (W : World) : (Instr.makeSlice 22 (.int .i64 (n : Int)) (.int .i64 (n : Int))).run Try.prog W = .ok (.slice (some ⟨W.heap.size, 0, none⟩) n n) (W.alloc (.cells (zc n).toArray 42)) := by
  rw [run_make_row' (P := Try.prog) 22 42 (.int .i32 0) 4 Try.underlying22 infoChar rfl .i64 .i64 n (by omega) (by omega) W, made_rep]
  unfold zc cellsC
  rw [List.map_replicate]
theorem zk_new (w : World) (n : Nat) (hn : n ≤ 1000) : Crs (w.alloc (.cells (zc n).toArray 42)) (w.alloc (.cells (zc n).toArray 42)).heap.size (some ⟨w.heap.size, 0, none⟩) n n (List.replicate n 0) := by
  have h := crs_lit w (List.replicate n 0) (fun x hx => by rw [List.eq_of_mem_replicate hx]; unfold Pl.J; omega) (by simp [maxLen]; omega)
  simp only [List.length_replicate] at h
  exact h.crs.2
/-- n zeros in a block of their own -/
def Zs2 (n : Nat) (v : Value) (w : World) : Prop := ∃ g, v = .slice (some ⟨g, 0, none⟩) n n ∧ Crs w w.heap.size (some ⟨g, 0, none⟩) n n (List.replicate n 0)
theorem Zs2.stb (n : Nat) : Rg.Stb (Zs2 n) := fun _ _ _ ⟨g, e, h⟩ hb => ⟨g, e, h.then_ hb⟩
/-- a row and no error -/
def Tw (l : List Un) (v : Value) (w : World) : Prop := ∃ B d, v = .tuple #[.slice B l.length d, .int .i64 0] ∧ Uns w w.heap.size B l.length d l
theorem Tw.stb (l : List Un) : Rg.Stb (Tw l) := fun _ _ _ ⟨B, d, e, h⟩ hb => ⟨B, d, e, Rws.then_ h hb⟩
theorem ok_of {w w' : World} {r : Int} {l : List Un} {e : Ending} (h : RetE w r l e w') (hr : r = 0) : ∃ v, e = .returned v ∧ Tw l v w' ∧ Below w.heap.size w w' := by
  obtain ⟨hb, B, d, rfl, ho⟩ := h.good hr
  exact ⟨_, rfl, ⟨B, d, rfl, OwnU.uns ho⟩, hb⟩
theorem zeros_may (n : Nat) : ∀ c ∈ List.replicate n (0 : Int), Pl.May c := fun c hc => by rw [List.eq_of_mem_replicate hc]; unfold Pl.May; omega
theorem typeE_zeros (n : Nat) : Pl.typeE 0 (List.replicate n 0) = if 256 < n then 3 else 0 := by
  have e : Pl.wrongE 0 ((List.replicate n (0 : Int)).length : Int) = if 256 < n then 3 else 0 := by
    rw [List.length_replicate]
    unfold Pl.wrongE
    rw [if_neg (by omega)]
    by_cases h : 256 < n
    · rw [if_pos (by omega), if_pos h]
    · rw [if_neg (by omega), if_neg h]
  unfold Pl.typeE
  rw [e, if_pos (zeros_may n)]
  by_cases h : 256 < n
  · rw [if_pos h]; rfl
  · rw [if_neg h]; rfl
theorem replE_zeros (n : Nat) (hn : n ≤ 256) : Pl.replE 0 200 (List.replicate n 0) = if 56 < n then 3 else 0 := by
  have hw : Pl.wrongE 0 200 = 0 := by unfold Pl.wrongE; decide
  have ht : Pl.typeE 0 (List.replicate n 0) = 0 := by rw [typeE_zeros, if_neg (by omega)]
  unfold Pl.replE
  rw [hw, ht, List.length_replicate]
  simp only [ne_eq, not_true_eq_false, if_false]
  by_cases h : 56 < n
  · rw [if_pos h, if_pos (by show 256 < 200 + n; omega)]
  · rw [if_neg h, if_neg (by show ¬ 256 < 200 + n; omega)]
theorem k1 : Pl.typeE (-1) [] = 1 := by unfold Pl.typeE Pl.wrongE; decide
theorem k2 : Pl.typeE 0 [55296] = 21 := by unfold Pl.typeE Pl.wrongE Pl.May; decide
theorem k3 : Pl.wrongE 0 (-1) = 1 := by unfold Pl.wrongE; decide
theorem k4 : Pl.wrongE (-1) 0 = 1 := by unfold Pl.wrongE; decide
theorem k5 : Pl.wrongE 0 257 = 3 := by unfold Pl.wrongE; decide
theorem k6 : Pl.replE 3 0 [] = 0 := by unfold Pl.replE Pl.typeE Pl.wrongE; decide
theorem k7 : Pl.replL 3 0 [] 0 0 = [] := rfl
theorem k8 : Pl.runs [⟨0, 0, 0, 0, 0⟩, ⟨0, 0, 0, 0, 0⟩, ⟨0, 0, 0, 0, 0⟩] = [⟨0, 0, 0, 0, [0]⟩, ⟨0, 0, 0, 0, [0]⟩, ⟨0, 0, 0, 0, [0]⟩] := by simp [Pl.runs, Pl.runsF, Pl.addR, Pl.Fol, Pl.one]
theorem k9 : Pl.growsL (Pl.replL 0 200 (List.replicate 56 0) 0 0) = -144 := by
  unfold Pl.replL
  rw [Pl.grows_append, Pl.grows_erase, Pl.grows_type, List.length_replicate]; rfl
/-- three Nops in a row of their own; so many runs -/
def Uz (v : Value) (w : World) : Prop := ∃ B d, v = .slice B 3 d ∧ Uns w w.heap.size B 3 d [⟨0, 0, 0, 0, 0⟩, ⟨0, 0, 0, 0, 0⟩, ⟨0, 0, 0, 0, 0⟩]
theorem Uz.stb : Rg.Stb Uz := fun _ _ _ ⟨B, d, e, h⟩ hb => ⟨B, d, e, Rws.then_ h hb⟩
def Ln (n : Nat) (v : Value) (_ : World) : Prop := ∃ B d, v = .slice B n d
theorem Ln.stb (n : Nat) : Rg.Stb (Ln n) := fun _ _ _ h _ => h
theorem runs_z (B : Option Addr) (d : Nat) (w : World) (h : Uns w w.heap.size B 3 d [⟨0, 0, 0, 0, 0⟩, ⟨0, 0, 0, 0, 0⟩, ⟨0, 0, 0, 0, 0⟩]) : Calls Try.prog 19 #[.slice B 3 d] w fun e w' => ∃ v, e = .returned v ∧ Ln 3 v w' ∧ Below w.heap.size w w' := by
  refine (runs_any B 3 d _ w h (by omega) (fun u hu => by simp at hu; rw [hu]; exact Pl.I.mk (by simp only; omega)) (fun u hu => by simp at hu; rw [hu]; unfold Pl.J; simp only; omega)).mono ?_
  rintro e w' ⟨B, d, L, rfl, _, hL, hb⟩
  have hl : L.length = 3 := by have := congrArg List.length hL; rw [k8] at this; simpa using this
  exact ⟨_, rfl, ⟨B, d, by rw [hl]⟩, hb⟩
theorem runs_n (w : World) : Calls Try.prog 19 #[.slice none 0 0] w fun e w' => ∃ v, e = .returned v ∧ Ln 0 v w' ∧ Below w.heap.size w w' := by
  refine (runs_any none 0 0 [] w (Rws.none_ _ _ _) (by omega) (fun u hu => by cases hu) (fun u hu => by cases hu)).mono ?_
  rintro e w' ⟨B, d, L, rfl, _, hL, hb⟩
  have hl : L.length = 0 := by have := congrArg List.length hL; simpa [Pl.runs, Pl.runsF] using this
  exact ⟨_, rfl, ⟨B, d, by rw [hl]⟩, hb⟩
theorem row_n (w : World) : Calls Try.prog 20 #[.slice none 0 0] w fun e w' => ∃ v, e = .returned v ∧ Ln 0 v w' ∧ Below w.heap.size w w' := by
  refine (row_any none 0 0 [] w ⟨Rws.none_ _ _ _, fun r hr => by cases hr⟩ (by omega) (by simp [Pl.sumR])).mono ?_
  rintro e w' ⟨A, c, rfl, _, hb⟩
  exact ⟨_, rfl, ⟨A, c, rfl⟩, hb⟩
set_option maxRecDepth 100000 in
theorem make_z : ∀ W : World, (Instr.makeSlice 27 (.int .i64 3) (.int .i64 3)).run Try.prog W = .ok (.slice (some ⟨W.heap.size, 0, none⟩) 3 3) (W.alloc (.cells #[.int .i64 0, .int .i64 0, .int .i32 0, .int .u32 0, .int .u64 0, .int .i64 0, .int .i64 0, .int .i32 0, .int .u32 0, .int .u64 0, .int .i64 0, .int .i64 0, .int .i32 0, .int .u32 0, .int .u64 0] 44)) := fun _ => by kernel_rfl
theorem uz_new (w : World) : Uns (w.alloc (.cells #[.int .i64 0, .int .i64 0, .int .i32 0, .int .u32 0, .int .u64 0, .int .i64 0, .int .i64 0, .int .i32 0, .int .u32 0, .int .u64 0, .int .i64 0, .int .i64 0, .int .i32 0, .int .u32 0, .int .u64 0] 44)) (w.alloc (.cells #[.int .i64 0, .int .i64 0, .int .i32 0, .int .u32 0, .int .u64 0, .int .i64 0, .int .i64 0, .int .i32 0, .int .u32 0, .int .u64 0, .int .i64 0, .int .i64 0, .int .i32 0, .int .u32 0, .int .u64 0] 44)).heap.size (some ⟨w.heap.size, 0, none⟩) 3 3 [⟨0, 0, 0, 0, 0⟩, ⟨0, 0, 0, 0, 0⟩, ⟨0, 0, 0, 0, 0⟩] := OwnU.uns (units_lit w [⟨0, 0, 0, 0, 0⟩, ⟨0, 0, 0, 0, 0⟩, ⟨0, 0, 0, 0, 0⟩] (by simp [maxLen]))
set_option maxRecDepth 100000 in
set_option maxHeartbeats 4000000 in
theorem walk (w : World) : Calls Try.prog 8 #[] w fun e w' => e = .returned (.bool true) ∧ Below w.heap.size w w' := by
  obtain ⟨w0, hw0⟩ : ∃ w0, w0 = w.alloc (.cells #[.int .u32 0, .int .u64 0] 26) := ⟨_, rfl⟩
  have HB0 := Lib.hid (show Below w.heap.size w w0 by rw [hw0]; exact below_box _ _)
  have I_1 := Lib.hid (show IdAt w0 w.heap.size 0 0 by rw [hw0]; exact heap_new rfl)
  have HW0 := Lib.hid hw0
  have hmk257 : ∀ W, (Instr.makeSlice 22 (.int .i64 257) (.int .i64 257)).run Try.prog W = .ok (.slice (some ⟨W.heap.size, 0, none⟩) 257 257) (W.alloc (.cells (zc 257).toArray 42)) := fun W => make_k 257 (by decide) W
  have hmk256 : ∀ W, (Instr.makeSlice 22 (.int .i64 256) (.int .i64 256)).run Try.prog W = .ok (.slice (some ⟨W.heap.size, 0, none⟩) 256 256) (W.alloc (.cells (zc 256).toArray 42)) := fun W => make_k 256 (by decide) W
  have hmk57 : ∀ W, (Instr.makeSlice 22 (.int .i64 57) (.int .i64 57)).run Try.prog W = .ok (.slice (some ⟨W.heap.size, 0, none⟩) 57 57) (W.alloc (.cells (zc 57).toArray 42)) := fun W => make_k 57 (by decide) W
  have hmk56 : ∀ W, (Instr.makeSlice 22 (.int .i64 56) (.int .i64 56)).run Try.prog W = .ok (.slice (some ⟨W.heap.size, 0, none⟩) 56 56) (W.alloc (.cells (zc 56).toArray 42)) := fun W => make_k 56 (by decide) W
  have M257 := Lib.hid hmk257
  have M256 := Lib.hid hmk256
  have M57 := Lib.hid hmk57
  have M56 := Lib.hid hmk56
  obtain ⟨lF, hlF⟩ : ∃ l, l = Pl.typeL 0 (List.replicate 256 0) 0 0 := ⟨_, rfl⟩
  obtain ⟨lS, hlS⟩ : ∃ l, l = Pl.replL 0 200 (List.replicate 56 0) 0 0 := ⟨_, rfl⟩
  have HLF := Lib.hid (show lF.length = 256 by rw [hlF, Pl.len_type, List.length_replicate])
  have HLS := Lib.hid (show lS.length = 256 by rw [hlS]; unfold Pl.replL; rw [List.length_append, Pl.len_erase, Pl.len_type, List.length_replicate]; rfl)
  have HGS := Lib.hid (show Pl.growsL lS = -144 by rw [hlS]; exact k9)
  have HT257 := Lib.hid (show ∀ (g : Nat) (w1 : World), Crs w1 w1.heap.size (some ⟨g, 0, none⟩) 257 257 (List.replicate 257 0) → Calls Try.prog 9 #[.int .i64 0, .slice (some ⟨g, 0, none⟩) 257 257, .agg #[.int .u32 0, .int .u64 0]] w1 fun e w' => Below w1.heap.size w1 w' ∧ e = .returned (.tuple #[.slice none 0 0, .int .i64 3]) from fun g w1 h => by
    have h2 := type_any 0 (some ⟨g, 0, none⟩) 257 257 (List.replicate 257 0) 0 0 w1 h
    rw [typeE_zeros, if_pos (by decide)] at h2
    exact h2.mono fun e w' h3 => h3.fail_ (by decide))
  have HT256 := Lib.hid (show ∀ (g : Nat) (w1 : World), Crs w1 w1.heap.size (some ⟨g, 0, none⟩) 256 256 (List.replicate 256 0) → Calls Try.prog 9 #[.int .i64 0, .slice (some ⟨g, 0, none⟩) 256 256, .agg #[.int .u32 0, .int .u64 0]] w1 fun e w' => ∃ v, e = .returned v ∧ Tw lF v w' ∧ Below w1.heap.size w1 w' from fun g w1 h => by
    have h2 := type_any 0 (some ⟨g, 0, none⟩) 256 256 (List.replicate 256 0) 0 0 w1 h
    rw [typeE_zeros, if_neg (by decide), ← hlF] at h2
    exact h2.mono fun e w' h3 => ok_of h3 rfl)
  have HR57 := Lib.hid (show ∀ (g : Nat) (w1 : World), Crs w1 w1.heap.size (some ⟨g, 0, none⟩) 57 57 (List.replicate 57 0) → Calls Try.prog 13 #[.int .i64 0, .int .i64 200, .slice (some ⟨g, 0, none⟩) 57 57, .agg #[.int .u32 0, .int .u64 0]] w1 fun e w' => Below w1.heap.size w1 w' ∧ e = .returned (.tuple #[.slice none 0 0, .int .i64 3]) from fun g w1 h => by
    have h2 := replace_any 0 200 (some ⟨g, 0, none⟩) 57 57 (List.replicate 57 0) 0 0 w1 h
    rw [replE_zeros 57 (by decide), if_pos (by decide)] at h2
    exact h2.mono fun e w' h3 => h3.fail_ (by decide))
  have HR56 := Lib.hid (show ∀ (g : Nat) (w1 : World), Crs w1 w1.heap.size (some ⟨g, 0, none⟩) 56 56 (List.replicate 56 0) → Calls Try.prog 13 #[.int .i64 0, .int .i64 200, .slice (some ⟨g, 0, none⟩) 56 56, .agg #[.int .u32 0, .int .u64 0]] w1 fun e w' => ∃ v, e = .returned v ∧ Tw lS v w' ∧ Below w1.heap.size w1 w' from fun g w1 h => by
    have h2 := replace_any 0 200 (some ⟨g, 0, none⟩) 56 56 (List.replicate 56 0) 0 0 w1 h
    rw [replE_zeros 56 (by decide), if_neg (by decide), ← hlS] at h2
    exact h2.mono fun e w' h3 => ok_of h3 rfl)
  obtain ⟨hx0, hx1⟩ := I_1.out.cells
  rw [HW0.out] at hx0 hx1
  clear hw0 hlF hlS hmk257 hmk256 hmk57 hmk56
  go_enter Try.func8, Try.ntmps8
  go_wp2_with fail
  rw [← HW0.out]
  clear hx0 hx1
  obtain ⟨i0, i1⟩ := I_1.out.cells
  go_wp2_with fail
  have hq := type_any (-1) none 0 0 [] 0 0 w0 (Crs.none_ _ _)
  rw [k1] at hq
  refine hq.mono ?_
  intro e w_2 hret
  obtain ⟨hb, rfl⟩ := hret.fail_ (by decide)
  clear hret hq
  have I_3 := Lib.hid (IdAt.then_ I_1.out hb)
  have HB_4 := Lib.hid (below_then' HB0.out hb HB0.out.size)
  clear I_1 HB0
  clear hb
  clear i0 i1
  go_wp2_with fail
  have HI := Lib.hid (show ∀ w1, Below w_2.heap.size w_2 w1 → w1.cell? ⟨w.heap.size, 0, none⟩ = some (.int .u32 0) ∧ w1.cell? ⟨w.heap.size, 1, none⟩ = some (.int .u64 0) from fun w1 h => (IdAt.then_ I_3.out h).cells)
  refine Rg.wp_region_inv ((fun w1 => Below w_2.heap.size w_2 w1)) (Rg.Wd.at [.pred (Zs2 257) (Zs2.stb 257), .is (.agg #[.int .u32 0, .int .u64 0]), .is (.tuple #[.slice none 0 0, .int .i64 3]), .is (.tuple #[.slice none 0 0, .int .i64 3]), .is (.slice none 0 0), .is (.int .i64 3), .is (.slice none 0 0), .is (.int .i64 3)]) (by kernel_rfl) (by kernel_rfl) (Rg.Wd.stays _ _) ((below_drawn (Below.refl _ _))) ⟨?_, ?_, ?_, ?_, ?_, ?_, ?_, ?_, trivial⟩ ?_
  · intro a w1 hS hb hd
    exact Rg.does_new (Rg.wanted_none rfl) (by simp [execOp, M257.out, go_sem]) (below_alloc hS _) ⟨_, rfl, zk_new w1 257 (by decide)⟩
  · intro a w1 hS hb hd
    have e1 := hb 1 (Rg.nw (by decide))
    simp [Act.eval] at e1
    exact Rg.does_pure (Rg.wanted_none rfl) (by simp [execOp, e1, (HI.out w1 hS).1, (HI.out w1 hS).2, go_sem]) hS rfl
  · intro a w1 hS hb hd
    have e29 := hd ⟨0, .data⟩ (by simp) rfl _ _ rfl rfl
    have e30 := hd ⟨1, .data⟩ (by simp) rfl _ _ rfl rfl
    have e30 : a.tmps[30]?.getD undef = (.agg #[.int .u32 0, .int .u64 0]) := Rg.slot e30
    obtain ⟨ga, fa, ca⟩ := e29; have ea := Rg.slot fa; refine Rg.does_call (f := 9) (args := #[.int .i64 0, .slice (some ⟨ga, 0, none⟩) 257 257, .agg #[.int .u32 0, .int .u64 0]]) (Rg.wanted_none rfl) (by simp [ea, e30, go_sem]) ?_; exact (HT257.out ga w1 ca).mono fun e w3 h => ⟨_, h.2, rfl, below_then hS h.1, h.1⟩
  · intro a w1 hS hb hd
    have e31 := hd ⟨2, .data⟩ (by simp) rfl _ _ rfl rfl
    have e31 : a.tmps[31]?.getD undef = (.tuple #[.slice none 0 0, .int .i64 3]) := Rg.slot e31
    exact Rg.does_pure (Rg.wanted_none rfl) (by simp [execOp, e31, go_sem]) hS rfl
  · intro a w1 hS hb hd
    have e28 := hd ⟨3, .data⟩ (by simp) rfl _ _ rfl rfl
    have e28 : a.tmps[28]?.getD undef = (.tuple #[.slice none 0 0, .int .i64 3]) := Rg.slot e28
    exact Rg.does_pure (Rg.wanted_none rfl) (by simp [execOp, e28, go_sem]) hS rfl
  · intro a w1 hS hb hd
    have e28 := hd ⟨3, .data⟩ (by simp) rfl _ _ rfl rfl
    have e28 : a.tmps[28]?.getD undef = (.tuple #[.slice none 0 0, .int .i64 3]) := Rg.slot e28
    exact Rg.does_pure (Rg.wanted_none rfl) (by simp [execOp, e28, go_sem]) hS rfl
  · intro a w1 hS hb hd
    have e32 := hd ⟨4, .data⟩ (by simp) rfl _ _ rfl rfl
    have e32 : a.tmps[32]?.getD undef = (.slice none 0 0) := Rg.slot e32
    exact Rg.does_pure (Rg.wanted_none rfl) (by simp [execOp, e32, go_sem]) hS rfl
  · intro a w1 hS hb hd
    have e33 := hd ⟨5, .data⟩ (by simp) rfl _ _ rfl rfl
    have e33 : a.tmps[33]?.getD undef = (.int .i64 3) := Rg.slot e33
    exact Rg.does_pure (Rg.wanted_none rfl) (by simp [execOp, e33, go_sem]) hS rfl
  · intro v w_5 hb hv
    have h6 : v 6 = .slice none 0 0 := hv 6 _ _ rfl rfl
    have h7 : v 7 = .int .i64 3 := hv 7 _ _ rfl rfl
    have I_6 := Lib.hid (IdAt.then_ I_3.out hb)
    have HB_7 := Lib.hid (below_then' HB_4.out hb HB_4.out.size)
    clear I_3 HB_4
    clear hb hv HI
    simp only [Rg.putAll, h6, h7]
    simp only [Act.put, List.setIfInBounds_toArray, List.set_cons_succ, List.set_cons_zero]
    clear h6 h7
    obtain ⟨w_8, hw⟩ : ∃ x, x = w_5.alloc (.cells #[.int .i32 55296] 42) := ⟨_, rfl⟩
    have hx : Crs (w_5.alloc (.cells #[.int .i32 55296] 42)) (w_5.alloc (.cells #[.int .i32 55296] 42)).heap.size (some ⟨w_5.heap.size, 0, none⟩) 1 1 [55296] := (crs_lit w_5 [55296] (fun x hx => by rw [List.mem_singleton.1 hx]; unfold Pl.J; omega) (by simp [maxLen])).crs.2
    have hb : Below w_5.heap.size w_5 w_8 := by rw [hw]; exact below_box _ _
    rw [← hw] at hx
    have HWw_8 := Lib.hid hw
    have I_9 := Lib.hid (IdAt.then_ I_6.out hb)
    have HB_10 := Lib.hid (below_then' HB_7.out hb HB_7.out.size)
    clear I_6 HB_7
    have T_11 := Lib.hid (hx)
    clear hw hx hb
    obtain ⟨i0, i1⟩ := I_9.out.cells
    rw [HWw_8.out] at i0 i1
    go_wp2_with fail
    rw [← HWw_8.out]
    clear i0 i1
    have hq := type_any 0 _ 1 1 [55296] 0 0 w_8 T_11.out
    rw [k2] at hq
    refine hq.mono ?_
    intro e w_12 hret
    obtain ⟨hb, rfl⟩ := hret.fail_ (by decide)
    clear hret hq
    have I_13 := Lib.hid (IdAt.then_ I_9.out hb)
    have T_14 := Lib.hid (Crs.then_ T_11.out hb)
    have HB_15 := Lib.hid (below_then' HB_10.out hb HB_10.out.size)
    clear I_9 T_11 HB_10
    clear hb
    clear T_14
    go_wp2_with fail
    have HI := Lib.hid (show ∀ w1, Below w_12.heap.size w_12 w1 → w1.cell? ⟨w.heap.size, 0, none⟩ = some (.int .u32 0) ∧ w1.cell? ⟨w.heap.size, 1, none⟩ = some (.int .u64 0) from fun w1 h => (IdAt.then_ I_13.out h).cells)
    refine Rg.wp_region_inv ((fun w1 => Below w_12.heap.size w_12 w1)) (Rg.Wd.at [.pred (Zs2 256) (Zs2.stb 256), .is (.agg #[.int .u32 0, .int .u64 0]), .pred (Tw lF) (Tw.stb lF), .pred (Tw lF) (Tw.stb lF), .pred (RowU lF) RowU.stb, .is (.int .i64 0), .pred (RowU lF) RowU.stb, .is (.int .i64 0)]) (by kernel_rfl) (by kernel_rfl) (Rg.Wd.stays _ _) ((below_drawn (Below.refl _ _))) ⟨?_, ?_, ?_, ?_, ?_, ?_, ?_, ?_, trivial⟩ ?_
    · intro a w1 hS hb hd
      exact Rg.does_new (Rg.wanted_none rfl) (by simp [execOp, M256.out, go_sem]) (below_alloc hS _) ⟨_, rfl, zk_new w1 256 (by decide)⟩
    · intro a w1 hS hb hd
      have e1 := hb 1 (Rg.nw (by decide))
      simp [Act.eval] at e1
      exact Rg.does_pure (Rg.wanted_none rfl) (by simp [execOp, e1, (HI.out w1 hS).1, (HI.out w1 hS).2, go_sem]) hS rfl
    · intro a w1 hS hb hd
      have e41 := hd ⟨0, .data⟩ (by simp) rfl _ _ rfl rfl
      have e42 := hd ⟨1, .data⟩ (by simp) rfl _ _ rfl rfl
      have e42 : a.tmps[42]?.getD undef = (.agg #[.int .u32 0, .int .u64 0]) := Rg.slot e42
      obtain ⟨ga, fa, ca⟩ := e41; have ea := Rg.slot fa; refine Rg.does_call (f := 9) (args := #[.int .i64 0, .slice (some ⟨ga, 0, none⟩) 256 256, .agg #[.int .u32 0, .int .u64 0]]) (Rg.wanted_none rfl) (by simp [ea, e42, go_sem]) ?_; exact (HT256.out ga w1 ca).mono fun e w3 ⟨v, h1, h2, h3⟩ => ⟨v, h1, h2, below_then hS h3, h3⟩
    · intro a w1 hS hb hd
      have e43 := hd ⟨2, .data⟩ (by simp) rfl _ _ rfl rfl
      obtain ⟨B, d, f, h⟩ := e43; have ec := Rg.slot f; exact Rg.does_pure (Rg.wanted_none rfl) (by simp [execOp, ec, go_sem]) hS ⟨B, d, rfl, h⟩
    · intro a w1 hS hb hd
      have e40 := hd ⟨3, .data⟩ (by simp) rfl _ _ rfl rfl
      obtain ⟨B, d, f, h⟩ := e40; have ec := Rg.slot f; exact Rg.does_pure (Rg.wanted_none rfl) (by simp [execOp, ec, go_sem]) hS ⟨B, d, rfl, h⟩
    · intro a w1 hS hb hd
      have e40 := hd ⟨3, .data⟩ (by simp) rfl _ _ rfl rfl
      obtain ⟨B, d, f, h⟩ := e40; have ec := Rg.slot f; exact Rg.does_pure (Rg.wanted_none rfl) (by simp [execOp, ec, go_sem]) hS rfl
    · intro a w1 hS hb hd
      have e44 := hd ⟨4, .data⟩ (by simp) rfl _ _ rfl rfl
      obtain ⟨B, d, f, h⟩ := e44; have ec := Rg.slot f; exact Rg.does_pure (Rg.wanted_none rfl) (by simp [execOp, ec, go_sem]) hS ⟨B, d, rfl, h⟩
    · intro a w1 hS hb hd
      have e45 := hd ⟨5, .data⟩ (by simp) rfl _ _ rfl rfl
      have e45 : a.tmps[45]?.getD undef = (.int .i64 0) := Rg.slot e45
      exact Rg.does_pure (Rg.wanted_none rfl) (by simp [execOp, e45, go_sem]) hS rfl
    · intro v w_16 hb hv
      have h7 : v 7 = .int .i64 0 := hv 7 _ _ rfl rfl
      obtain ⟨F1, F2, h6, ho⟩ := hv 6 _ _ rfl rfl
      rw [HLF.out] at h6 ho
      have I_17 := Lib.hid (IdAt.then_ I_13.out hb)
      have HB_18 := Lib.hid (below_then' HB_15.out hb HB_15.out.size)
      clear I_13 HB_15
      have F_19 := Lib.hid (ho)
      clear hb hv HI ho
      simp only [Rg.putAll, h6, h7]
      simp only [Act.put, List.setIfInBounds_toArray, List.set_cons_succ, List.set_cons_zero]
      clear h6 h7
      obtain ⟨i0, i1⟩ := I_17.out.cells
      go_wp2_with fail
      have hq := erase_any 0 (-1) 0 0 w_16
      rw [k3] at hq
      refine hq.mono ?_
      intro e w_20 hret
      obtain ⟨hb, rfl⟩ := hret.fail_ (by decide)
      clear hret hq
      have I_21 := Lib.hid (IdAt.then_ I_17.out hb)
      have F_22 := Lib.hid (Rws.then_ F_19.out hb)
      have HB_23 := Lib.hid (below_then' HB_18.out hb HB_18.out.size)
      clear I_17 F_19 HB_18
      clear hb
      clear i0 i1
      obtain ⟨i0, i1⟩ := I_21.out.cells
      go_wp2_with fail
      have hq := erase_any (-1) 0 0 0 w_20
      rw [k4] at hq
      refine hq.mono ?_
      intro e w_24 hret
      obtain ⟨hb, rfl⟩ := hret.fail_ (by decide)
      clear hret hq
      have I_25 := Lib.hid (IdAt.then_ I_21.out hb)
      have F_26 := Lib.hid (Rws.then_ F_22.out hb)
      have HB_27 := Lib.hid (below_then' HB_23.out hb HB_23.out.size)
      clear I_21 F_22 HB_23
      clear hb
      clear i0 i1
      obtain ⟨i0, i1⟩ := I_25.out.cells
      go_wp2_with fail
      have hq := erase_any 0 257 0 0 w_24
      rw [k5] at hq
      refine hq.mono ?_
      intro e w_28 hret
      obtain ⟨hb, rfl⟩ := hret.fail_ (by decide)
      clear hret hq
      have I_29 := Lib.hid (IdAt.then_ I_25.out hb)
      have F_30 := Lib.hid (Rws.then_ F_26.out hb)
      have HB_31 := Lib.hid (below_then' HB_27.out hb HB_27.out.size)
      clear I_25 F_26 HB_27
      clear hb
      clear i0 i1
      go_wp2_with fail
      have HI := Lib.hid (show ∀ w1, Below w_28.heap.size w_28 w1 → w1.cell? ⟨w.heap.size, 0, none⟩ = some (.int .u32 0) ∧ w1.cell? ⟨w.heap.size, 1, none⟩ = some (.int .u64 0) from fun w1 h => (IdAt.then_ I_29.out h).cells)
      refine Rg.wp_region_inv ((fun w1 => Below w_28.heap.size w_28 w1)) (Rg.Wd.at [.pred (Zs2 57) (Zs2.stb 57), .is (.agg #[.int .u32 0, .int .u64 0]), .is (.tuple #[.slice none 0 0, .int .i64 3]), .is (.tuple #[.slice none 0 0, .int .i64 3]), .is (.slice none 0 0), .is (.int .i64 3), .is (.slice none 0 0), .is (.int .i64 3)]) (by kernel_rfl) (by kernel_rfl) (Rg.Wd.stays _ _) ((below_drawn (Below.refl _ _))) ⟨?_, ?_, ?_, ?_, ?_, ?_, ?_, ?_, trivial⟩ ?_
      · intro a w1 hS hb hd
        exact Rg.does_new (Rg.wanted_none rfl) (by simp [execOp, M57.out, go_sem]) (below_alloc hS _) ⟨_, rfl, zk_new w1 57 (by decide)⟩
      · intro a w1 hS hb hd
        have e1 := hb 1 (Rg.nw (by decide))
        simp [Act.eval] at e1
        exact Rg.does_pure (Rg.wanted_none rfl) (by simp [execOp, e1, (HI.out w1 hS).1, (HI.out w1 hS).2, go_sem]) hS rfl
      · intro a w1 hS hb hd
        have e62 := hd ⟨0, .data⟩ (by simp) rfl _ _ rfl rfl
        have e63 := hd ⟨1, .data⟩ (by simp) rfl _ _ rfl rfl
        have e63 : a.tmps[63]?.getD undef = (.agg #[.int .u32 0, .int .u64 0]) := Rg.slot e63
        obtain ⟨ga, fa, ca⟩ := e62; have ea := Rg.slot fa; refine Rg.does_call (f := 13) (args := #[.int .i64 0, .int .i64 200, .slice (some ⟨ga, 0, none⟩) 57 57, .agg #[.int .u32 0, .int .u64 0]]) (Rg.wanted_none rfl) (by simp [ea, e63, go_sem]) ?_; exact (HR57.out ga w1 ca).mono fun e w3 h => ⟨_, h.2, rfl, below_then hS h.1, h.1⟩
      · intro a w1 hS hb hd
        have e64 := hd ⟨2, .data⟩ (by simp) rfl _ _ rfl rfl
        have e64 : a.tmps[64]?.getD undef = (.tuple #[.slice none 0 0, .int .i64 3]) := Rg.slot e64
        exact Rg.does_pure (Rg.wanted_none rfl) (by simp [execOp, e64, go_sem]) hS rfl
      · intro a w1 hS hb hd
        have e61 := hd ⟨3, .data⟩ (by simp) rfl _ _ rfl rfl
        have e61 : a.tmps[61]?.getD undef = (.tuple #[.slice none 0 0, .int .i64 3]) := Rg.slot e61
        exact Rg.does_pure (Rg.wanted_none rfl) (by simp [execOp, e61, go_sem]) hS rfl
      · intro a w1 hS hb hd
        have e61 := hd ⟨3, .data⟩ (by simp) rfl _ _ rfl rfl
        have e61 : a.tmps[61]?.getD undef = (.tuple #[.slice none 0 0, .int .i64 3]) := Rg.slot e61
        exact Rg.does_pure (Rg.wanted_none rfl) (by simp [execOp, e61, go_sem]) hS rfl
      · intro a w1 hS hb hd
        have e65 := hd ⟨4, .data⟩ (by simp) rfl _ _ rfl rfl
        have e65 : a.tmps[65]?.getD undef = (.slice none 0 0) := Rg.slot e65
        exact Rg.does_pure (Rg.wanted_none rfl) (by simp [execOp, e65, go_sem]) hS rfl
      · intro a w1 hS hb hd
        have e66 := hd ⟨5, .data⟩ (by simp) rfl _ _ rfl rfl
        have e66 : a.tmps[66]?.getD undef = (.int .i64 3) := Rg.slot e66
        exact Rg.does_pure (Rg.wanted_none rfl) (by simp [execOp, e66, go_sem]) hS rfl
      · intro v w_32 hb hv
        have h6 : v 6 = .slice none 0 0 := hv 6 _ _ rfl rfl
        have h7 : v 7 = .int .i64 3 := hv 7 _ _ rfl rfl
        have I_33 := Lib.hid (IdAt.then_ I_29.out hb)
        have F_34 := Lib.hid (Rws.then_ F_30.out hb)
        have HB_35 := Lib.hid (below_then' HB_31.out hb HB_31.out.size)
        clear I_29 F_30 HB_31
        clear hb hv HI
        simp only [Rg.putAll, h6, h7]
        simp only [Act.put, List.setIfInBounds_toArray, List.set_cons_succ, List.set_cons_zero]
        clear h6 h7
        go_wp2_with fail
        have HI := Lib.hid (show ∀ w1, Below w_32.heap.size w_32 w1 → w1.cell? ⟨w.heap.size, 0, none⟩ = some (.int .u32 0) ∧ w1.cell? ⟨w.heap.size, 1, none⟩ = some (.int .u64 0) from fun w1 h => (IdAt.then_ I_33.out h).cells)
        refine Rg.wp_region_inv ((fun w1 => Below w_32.heap.size w_32 w1)) (Rg.Wd.at [.pred (Zs2 56) (Zs2.stb 56), .is (.agg #[.int .u32 0, .int .u64 0]), .pred (Tw lS) (Tw.stb lS), .pred (Tw lS) (Tw.stb lS), .pred (RowU lS) RowU.stb, .is (.int .i64 0), .pred (RowU lS) RowU.stb, .is (.int .i64 0)]) (by kernel_rfl) (by kernel_rfl) (Rg.Wd.stays _ _) ((below_drawn (Below.refl _ _))) ⟨?_, ?_, ?_, ?_, ?_, ?_, ?_, ?_, trivial⟩ ?_
        · intro a w1 hS hb hd
          exact Rg.does_new (Rg.wanted_none rfl) (by simp [execOp, M56.out, go_sem]) (below_alloc hS _) ⟨_, rfl, zk_new w1 56 (by decide)⟩
        · intro a w1 hS hb hd
          have e1 := hb 1 (Rg.nw (by decide))
          simp [Act.eval] at e1
          exact Rg.does_pure (Rg.wanted_none rfl) (by simp [execOp, e1, (HI.out w1 hS).1, (HI.out w1 hS).2, go_sem]) hS rfl
        · intro a w1 hS hb hd
          have e68 := hd ⟨0, .data⟩ (by simp) rfl _ _ rfl rfl
          have e69 := hd ⟨1, .data⟩ (by simp) rfl _ _ rfl rfl
          have e69 : a.tmps[69]?.getD undef = (.agg #[.int .u32 0, .int .u64 0]) := Rg.slot e69
          obtain ⟨ga, fa, ca⟩ := e68; have ea := Rg.slot fa; refine Rg.does_call (f := 13) (args := #[.int .i64 0, .int .i64 200, .slice (some ⟨ga, 0, none⟩) 56 56, .agg #[.int .u32 0, .int .u64 0]]) (Rg.wanted_none rfl) (by simp [ea, e69, go_sem]) ?_; exact (HR56.out ga w1 ca).mono fun e w3 ⟨v, h1, h2, h3⟩ => ⟨v, h1, h2, below_then hS h3, h3⟩
        · intro a w1 hS hb hd
          have e70 := hd ⟨2, .data⟩ (by simp) rfl _ _ rfl rfl
          obtain ⟨B, d, f, h⟩ := e70; have ec := Rg.slot f; exact Rg.does_pure (Rg.wanted_none rfl) (by simp [execOp, ec, go_sem]) hS ⟨B, d, rfl, h⟩
        · intro a w1 hS hb hd
          have e67 := hd ⟨3, .data⟩ (by simp) rfl _ _ rfl rfl
          obtain ⟨B, d, f, h⟩ := e67; have ec := Rg.slot f; exact Rg.does_pure (Rg.wanted_none rfl) (by simp [execOp, ec, go_sem]) hS ⟨B, d, rfl, h⟩
        · intro a w1 hS hb hd
          have e67 := hd ⟨3, .data⟩ (by simp) rfl _ _ rfl rfl
          obtain ⟨B, d, f, h⟩ := e67; have ec := Rg.slot f; exact Rg.does_pure (Rg.wanted_none rfl) (by simp [execOp, ec, go_sem]) hS rfl
        · intro a w1 hS hb hd
          have e71 := hd ⟨4, .data⟩ (by simp) rfl _ _ rfl rfl
          obtain ⟨B, d, f, h⟩ := e71; have ec := Rg.slot f; exact Rg.does_pure (Rg.wanted_none rfl) (by simp [execOp, ec, go_sem]) hS ⟨B, d, rfl, h⟩
        · intro a w1 hS hb hd
          have e72 := hd ⟨5, .data⟩ (by simp) rfl _ _ rfl rfl
          have e72 : a.tmps[72]?.getD undef = (.int .i64 0) := Rg.slot e72
          exact Rg.does_pure (Rg.wanted_none rfl) (by simp [execOp, e72, go_sem]) hS rfl
        · intro v w_36 hb hv
          have h7 : v 7 = .int .i64 0 := hv 7 _ _ rfl rfl
          obtain ⟨S1, S2, h6, ho⟩ := hv 6 _ _ rfl rfl
          rw [HLS.out] at h6 ho
          have I_37 := Lib.hid (IdAt.then_ I_33.out hb)
          have F_38 := Lib.hid (Rws.then_ F_34.out hb)
          have HB_39 := Lib.hid (below_then' HB_35.out hb HB_35.out.size)
          clear I_33 F_34 HB_35
          have S_40 := Lib.hid (ho)
          clear hb hv HI ho
          simp only [Rg.putAll, h6, h7]
          simp only [Act.put, List.setIfInBounds_toArray, List.set_cons_succ, List.set_cons_zero]
          clear h6 h7
          obtain ⟨i0, i1⟩ := I_37.out.cells
          go_wp2_with fail
          have hq := replace_any 3 0 none 0 0 [] 0 0 w_36 (Crs.none_ _ _)
          rw [k6, k7] at hq
          refine hq.mono ?_
          intro e w_41 hret
          obtain ⟨hb, N1, N2, rfl, _⟩ := hret.good rfl
          clear hret hq
          have I_42 := Lib.hid (IdAt.then_ I_37.out hb)
          have F_43 := Lib.hid (Rws.then_ F_38.out hb)
          have S_44 := Lib.hid (Rws.then_ S_40.out hb)
          have HB_45 := Lib.hid (below_then' HB_39.out hb HB_39.out.size)
          clear I_37 F_38 S_40 HB_39
          clear hb i0 i1
          clear I_42
          simp only [List.length_nil]
          obtain ⟨w_46, hw⟩ : ∃ x, x = w_41.alloc (.cells #[.int .i64 0, .int .i64 0, .int .i32 0, .int .u32 0, .int .u64 0, .int .i64 0, .int .i64 0, .int .i32 0, .int .u32 0, .int .u64 0, .int .i64 0, .int .i64 0, .int .i32 0, .int .u32 0, .int .u64 0] 44) := ⟨_, rfl⟩
          have hx := uz_new w_41
          have hb : Below w_41.heap.size w_41 w_46 := by rw [hw]; exact below_box _ _
          rw [← hw] at hx
          have HWw_46 := Lib.hid hw
          have F_47 := Lib.hid (Rws.then_ F_43.out hb)
          have S_48 := Lib.hid (Rws.then_ S_44.out hb)
          have HB_49 := Lib.hid (below_then' HB_45.out hb HB_45.out.size)
          clear F_43 S_44 HB_45
          have T_50 := Lib.hid (hx)
          clear hw hx hb
          have hmz := make_z
          go_wp2_with fail
          rw [← HWw_46.out]
          clear hmz
          refine (runs_z _ 3 w_46 T_50.out).mono ?_
          rintro e w_51 ⟨_, rfl, ⟨R1, R2, rfl⟩, hb⟩
          clear T_50
          have F_52 := Lib.hid (Rws.then_ F_47.out hb)
          have S_53 := Lib.hid (Rws.then_ S_48.out hb)
          have HB_54 := Lib.hid (below_then' HB_49.out hb HB_49.out.size)
          clear F_47 S_48 HB_49
          clear hb
          go_wp2_with fail
          refine (growsL_any S1 256 S2 lS w_51 S_53.out (by decide)).mono ?_
          rintro e w_55 ⟨rfl, hb⟩
          clear S_53
          clear F_52
          have HB_56 := Lib.hid (below_then' HB_54.out hb HB_54.out.size)
          clear HB_54
          clear hb
          rw [HGS.out]
          go_wp2_with fail
          refine (runs_n w_55).mono ?_
          rintro e w_57 ⟨_, rfl, ⟨R3, R4, rfl⟩, hb⟩
          have HB_58 := Lib.hid (below_then' HB_56.out hb HB_56.out.size)
          clear HB_56
          clear hb
          go_wp2_with fail
          refine (row_n w_57).mono ?_
          rintro e w_59 ⟨_, rfl, ⟨R5, R6, rfl⟩, hb⟩
          have HB_60 := Lib.hid (below_then' HB_58.out hb HB_58.out.size)
          clear HB_58
          clear hb
          go_wp2_with fail
          refine (awake_any w_59).mono ?_
          rintro e w_61 ⟨rfl, hb⟩
          have HB_62 := Lib.hid (below_then' HB_60.out hb HB_60.out.size)
          clear HB_60
          clear hb
          go_wp2_with fail
          go_ret
          exact ⟨rfl, HB_62.out⟩
end editKnown
end Go.Proofs.Ythnenmglmebljaa
