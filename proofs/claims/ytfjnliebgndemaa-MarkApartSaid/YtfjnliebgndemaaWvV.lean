/-
  slices.Delete at a row of code points of the law's own. Conditions: the row is one; 0 ≤ i ≤ j ≤ its length.
-/
import Derived.Test.YtfjnliebgndemaaPceU
import Derived.StillTailTactics
namespace Go.Proofs.Ytfjnliebgndemaa
open Go.RowKit

set_option maxRecDepth 100000 in
theorem getD_app (a b : List Int) (i : Nat) : (a ++ b).getD i 0 = if i < a.length then a.getD i 0 else b.getD (i - a.length) 0 := by
  simp only [List.getD_eq_getElem?_getD, List.getElem?_append]
  split <;> rfl
set_option maxRecDepth 100000 in
theorem getD_take (a : List Int) (k i : Nat) (h : i < k) : (a.take k).getD i 0 = a.getD i 0 := by
  simp only [List.getD_eq_getElem?_getD, List.getElem?_take, if_pos h]
set_option maxRecDepth 100000 in
theorem getD_drop (a : List Int) (k i : Nat) : (a.drop k).getD i 0 = a.getD (k + i) 0 := by
  simp only [List.getD_eq_getElem?_getD, List.getElem?_drop]
/-- what a call leaves that turns a row of the law's own: the row reads as cs; of what was there, the row's block alone may have turned -/
def Turned (w : World) (v : Value) (base k : Nat) (cs : List Int) (e : Ending) (w' : World) : Prop :=
  ∃ A2 c2, e = .returned (.slice A2 k c2) ∧ OwnC w' base (.slice A2 k c2) cs ∧ Tn (fun b => v.ownBlock = some b) w w' ∧ ∀ g, Value.ownBlock (.slice A2 k c2) = some g → v.ownBlock = some g ∨ w.heap.size ≤ g
set_option maxRecDepth 100000 in
theorem slice_ijn (A : Option Addr) (n c i j : Nat) (hi : i ≤ j) (hj : j ≤ n) (hn : n ≤ c) (l u m : Int) (hl : l = (i : Int)) (hu : u = (j : Int)) (hm : m = (n : Int)) : ∃ v, ∀ w', (Instr.sliceAt 24 (.slice A n c) (some (.int .i64 l)) (some (.int .i64 u)) (some (.int .i64 m))).run Try.prog w' = .ok v w' := by
  subst hl hu hm
  obtain ⟨i0, hi0, _⟩ := info_parts infoChar
  have hu : Try.prog.underlying 24 = some (.slice (Try.prog.elem 24)) := by kernel_rfl
  have he : Try.prog.elem 24 = 25 := by kernel_rfl
  refine ⟨?_, fun w' => ?_⟩
  rotate_left
  · rw [run_sliceAt_slice w' _ _ _ _ _ hu, run_slice_lhm w' 24 A n c hu .i64 .i64 .i64 (i : Int) (j : Int) (n : Int) (by omega) (by omega) (by omega) (by omega), he, run_sizeOf w' hi0]
    simp only [Result.andThen]
    rfl

set_option maxRecDepth 100000 in
/-- s[k:] -/
theorem slice_fromC (g n c k : Nat) (hk : k ≤ n) : ∀ w', (Instr.sliceAt 24 (.slice (some ⟨g, 0, none⟩) n c) (some (.int .i64 (k : Int))) none none).run Try.prog w' = .ok (.slice (some (if c = k then ⟨g, 0, none⟩ else ⟨g, k, none⟩)) (n - k) (c - k)) w' := by
  intro w'
  obtain ⟨i0, hi0, _⟩ := info_parts infoChar
  have hu : Try.prog.underlying 24 = some (.slice (Try.prog.elem 24)) := by kernel_rfl
  have he : Try.prog.elem 24 = 25 := by kernel_rfl
  rw [run_sliceAt_slice w' _ _ _ _ _ hu, run_slice_l w' 24 _ n c hu .i64 (k : Int) (by omega) (by omega), he, run_sizeOf w' hi0]
  by_cases h : c = k
  · simp [Result.andThen, sliced, h]
  · simp [Result.andThen, cellsChar, sliced, h, Addr.add_lit]
set_option maxRecDepth 100000 in
/-- s[k:m] behind k < c -/
theorem slice_midC (g n c k m : Nat) (hk : k ≤ m) (hm : m ≤ c) (hkc : k < c) : ∀ w', (Instr.sliceAt 24 (.slice (some ⟨g, 0, none⟩) n c) (some (.int .i64 (k : Int))) (some (.int .i64 (m : Int))) none).run Try.prog w' = .ok (.slice (some ⟨g, k, none⟩) (m - k) (c - k)) w' := by
  intro w'
  obtain ⟨i0, hi0, _⟩ := info_parts infoChar
  have hu : Try.prog.underlying 24 = some (.slice (Try.prog.elem 24)) := by kernel_rfl
  have he : Try.prog.elem 24 = 25 := by kernel_rfl
  rw [run_sliceAt_slice w' _ _ _ _ _ hu, run_slice_lh w' 24 _ n c hu .i64 .i64 (k : Int) (m : Int) (by omega) (by omega) (by omega), he, run_sizeOf w' hi0]
  have h : ¬ c = k := by omega
  simp [Result.andThen, cellsChar, sliced, h, Addr.add_lit]
set_option maxRecDepth 100000 in
theorem zeroChar : ∀ w, (zeroValue 25).run Try.prog w = .ok (.int .i32 0) w := by
  intro w
  obtain ⟨i0, hi0, hz0, _⟩ := info_parts infoChar
  simp [zeroValue, typeInfo, hi0, hz0]

set_option maxRecDepth 100000 in
set_option maxHeartbeats 1000000 in
theorem delC_any (w : World) (base : Nat) (A : Option Addr) (n c : Nat) (cs : List Int) (h : OwnC w base (.slice A n c) cs) (i k : Nat) (hk : i + k ≤ n) :
    Calls Try.prog 23 #[.slice A n c, .int .i64 (i : Int), .int .i64 ((i + k : Nat) : Int)] w (Turned w (.slice A n c) base (n - k) (cs.take i ++ cs.drop (i + k))) := by
  obtain ⟨hn, hS⟩ := h.crs
  have hle := hS.le
  have hcap := hS.cap
  unfold maxLen at hcap
  obtain ⟨j, hj⟩ : ∃ j, j = i + k := ⟨_, rfl⟩
  rw [← hj]
  obtain ⟨v3, hv3⟩ := slice_ijn A n c i j (by omega) (by omega) hle (i : Int) (j : Int) (n : Int) rfl rfl rfl
  by_cases hk0 : k = 0
  · subst hk0
    have e : cs.take i ++ cs.drop j = cs := by rw [hj, Nat.add_zero, List.take_append_drop]
    rw [e, Nat.sub_zero]
    have hij : i = j := by omega
    subst hij
    have H := Lib.hid (show Turned w (.slice A n c) base n cs (.returned (.slice A n c)) w from ⟨A, c, rfl, h, Tn.refl _ w, fun g hg => Or.inl hg⟩)
    clear h hS hn e hj hcap
    go_enter Try.func23, Try.ntmps23
    go_wp2_with fail
    go_ret
    exact H.out
  · have hne : ((i : Int) == (j : Int)) = false := by rw [beq_eq_false_iff_ne]; omega
    obtain ⟨g, rfl, hbg⟩ := OwnC.pos_ h (by omega)
    obtain ⟨_, cur, hR⟩ := OwnC.row h
    obtain ⟨i0, hi0, hz0, hz1, hz2⟩ := info_parts infoChar
    have st := slice_toC (some ⟨g, 0, none⟩) n c i (by omega)
    have sf := slice_fromC g n c j (by omega)
    obtain ⟨ad, had⟩ : ∃ ad : Addr, ad = (if c = j then ⟨g, 0, none⟩ else ⟨g, j, none⟩) := ⟨_, rfl⟩
    rw [← had] at sf
    obtain ⟨r, hr⟩ : ∃ r, r = n - j := ⟨_, rfl⟩
    obtain ⟨cr, hcr⟩ : ∃ r, r = c - j := ⟨_, rfl⟩
    rw [← hr, ← hcr] at sf
    obtain ⟨news, hnews⟩ : ∃ news, news = cellsC (cs.drop j) := ⟨_, rfl⟩
    have hnl : news.length = r := by rw [hnews, len_cellsC, List.length_drop]; omega
    have s1 : Hid (news.length = r * 1) := Lib.hid (by rw [Nat.mul_one]; exact hnl)
    have hat : ∀ t, t < r → news[t]? = some (.int .i32 (cs.getD (j + t) 0)) := fun t ht => by
      rw [hnews, cellsC_at (cs.drop j) t (by rw [List.length_drop]; omega), getD_drop]
    have s2 : Hid (∀ t u, news[t]? = some u → w.drew.cell? (ad.add t) = some u) := Lib.hid (by
      intro t u hu
      have ht : t < r := by have := (List.getElem?_eq_some_iff.1 hu).1; omega
      rw [hat t ht] at hu
      cases hu
      rw [had, if_neg (by omega), Addr.add_lit]
      exact (cell_of_row w g (j + t) _ _ _ hR.1).trans (hR.2.2.2.2.2.2 (j + t) (by omega)))
    have s3 : Hid (∀ u ∈ news, u.oneCell' = true) := Lib.hid (by rw [hnews]; exact cellsC_one _)
    have s4 : Hid (∀ t, t < news.length → (w.drew.cell? ⟨g, 0 + i * 1 + t, none⟩).isSome = true ∧ w.drew.frozen? ⟨g, 0 + i * 1 + t, none⟩ = false) := Lib.hid (fun t ht => by
      rw [Nat.mul_one, Nat.zero_add]
      exact Rowc.cell (w := w.drew) hR (by omega))
    obtain ⟨W1, hW1⟩ : ∃ W1, W1 = w.drew.setCells g (0 + i * 1) news := ⟨_, rfl⟩
    obtain ⟨q, hq⟩ : ∃ q, q = i + r := ⟨_, rfl⟩
    obtain ⟨Y, hY⟩ : ∃ Y, Y = cs.take i ++ cs.drop j := ⟨_, rfl⟩
    have hYl : Y.length = q := by rw [hY, List.length_append, List.length_take, List.length_drop]; omega
    have hYJ : ∀ x ∈ Y, Pl.J x := fun x hx => by
      rw [hY] at hx
      exact (List.mem_append.1 hx).elim (fun h => hS.js x (List.mem_of_mem_take h)) (fun h => hS.js x (List.mem_of_mem_drop h))
    have hYg : ∀ t, Y.getD t 0 = if t < i then cs.getD t 0 else cs.getD (j + (t - i)) 0 := fun t => by
      rw [hY, getD_app, List.length_take, show min i cs.length = i by omega]
      split
      · rename_i hlt; exact getD_take cs i t hlt
      · exact getD_drop cs j (t - i)
    have hR1 : Rowc W1 g q c Y (sets cur i news) := by
      rw [hW1, Nat.mul_one, Nat.zero_add]
      refine Rowc.sets_ (Rowc.drew hR) i news (by omega) (by omega) hYl hYJ (fun t h1 h2 h3 => ?_) (fun t h1 h2 => ?_)
      · rw [hat (t - i) (by omega), hYg, if_neg (by omega)]
      · rw [hR.2.2.2.2.2.2 t (by omega), hYg, if_pos (by omega)]
    have ht1 : Tn (fun b => b = g) w W1 := by rw [hW1]; exact tn_sets news w w.drew _ (Tn.refl _ w).drew
    have sm := slice_midC g q c q n (by omega) hle (by omega)
    have hcl : ∀ ty, (Builtin.clear_ #[24] ty #[.slice (some ⟨g, q, none⟩) (n - q) (c - q)]).run Try.prog W1 = .ok (.tuple #[]) (W1.setCells g q (List.replicate (n - q) (.int .i32 0))) :=
      fun ty => Lib.run_clear_slice W1 _ _ ty _ Try.underlying24 zeroChar rfl rfl g q (n - q) (c - q) (by omega) (fun t ht => (Rowc.cell hR1 (by omega)).1) (fun t ht => (Rowc.cell hR1 (by omega)).2)
    obtain ⟨W2, hW2⟩ : ∃ W2, W2 = W1.setCells g q (List.replicate (n - q) (.int .i32 0)) := ⟨_, rfl⟩
    have hR2 : Rowc W2 g q c Y (sets (sets cur i news) q (List.replicate (n - q) (.int .i32 0))) := by
      rw [hW2]
      refine Rowc.sets_ hR1 q _ (by rw [List.length_replicate]; omega) (by omega) hYl hYJ (fun t h1 h2 h3 => by omega) (fun t h1 h2 => hR1.2.2.2.2.2.2 t h1)
    have ht2 : Tn (fun b => b = g) w W2 := by rw [hW2]; exact tn_sets _ w W1 _ ht1
    rw [← hW2] at hcl
    have HO := Lib.hid (show Turned w (.slice (some ⟨g, 0, none⟩) n c) base q Y (.returned (.slice (some ⟨g, 0, none⟩) q c)) W2 from
      ⟨some ⟨g, 0, none⟩, c, rfl, Rowc.own hR2 hbg, ht2.more (fun b _ hb => by rw [hb]; rfl), fun b hb => Or.inl hb⟩)
    have HW := Lib.hid hW1
    have hqn : n - k = q := by omega
    rw [hqn, ← hY]
    have hroom : i + r ≤ c := by omega
    have hic : i ≤ c := by omega
    have HQ := Lib.hid hq
    clear hr hq
    clear h hS hn hR hR1 hR2 ht1 ht2 hW1 hW2 hY hYl hYJ hYg hat hnl hnews had hqn hk0 hj hcr
    go_enter Try.func23, Try.ntmps23
    go_wp2_with fail
    go_region_law (refine step_append_room rfl (.tmp 22) (.tmp 25) 24 rfl 25 i0 1 Try.underlying24 hi0 hz1 g 0 i c (by simp [Act.eval, Act.put]) ad r cr news (by simp [Act.eval, Act.put]) s1.out s2.out s3.out hroom s4.out ?_; rw [← HW.out, ← HQ.out])
    go_wp2_with fail
    go_ret
    exact HO.out
end Go.Proofs.Ytfjnliebgndemaa
