/-
  slices.overlaps and slices.Insert at a row of code points of the law's own. Conditions: the row is one; 0 ≤ i ≤ its length; what is put in lies in another block; both together at most a million.
-/
import Derived.Test.YtfjnliebgndemaaWvV
import Derived.Lib.AppendZerosOnto
import Derived.Laws.Externs
import Derived.Laws.IdiomCopy
namespace Go.Proofs.Ytfjnliebgndemaa
open Go.RowKit

set_option maxRecDepth 100000 in
theorem overlaps_own (w : World) (a b : Addr) (la ca lb cb : Nat) (hne : a.block ≠ b.block) (tA tB : TypeId) (kA kB : Nat) (hsa : w.shape? a.block = some (tA, kA)) (hsb : w.shape? b.block = some (tB, kB)) (hkA : kA ≠ 0) (hkB : kB ≠ 0)
    (hfb : w.frozen? b = false) (hfe : w.frozen? { block := b.block, off := kB } = false) :
    (Extern.SlicesOverlaps.overlaps #[24, 24] #[4] #[.slice (some a) la ca, .slice (some b) lb cb]).run Try.prog w = .ok (.bool false) w := by
  have hnb : (a.block != b.block) = true := by simpa using hne
  have hnb' : (a.block == b.block) = false := by simpa using hne
  have hz : ∀ w, (Go.sizeOf 25).run Try.prog w = .ok 1 w := Try.sizeOf25
  change Sem.run Try.prog (α := Value) (do
    let some t := (#[24, 24] : Array TypeId)[0]? | stuck "slices.overlaps: no parameter types"
    let .slice elem ← underlying t | stuck "slices.overlaps: slice type expected"
    let size ← sizeOf elem
    match (some a : Option Addr), (some b : Option Addr) with
    | some a, some b =>
      if la = 0 ∨ lb = 0 ∨ size = 0 then pure (Value.bool false)
      else if a.block != b.block && (← frozen a) && (← frozen b) then unsupported .addressObserved
      else do
        if a.block != b.block then do
          noView a; noView b
          if ← mayBeOne a b then return Value.bool ((← choose (.extern "sameAddr.stringBytes" 2)) == 1)
        pure (Value.bool (a.block == b.block && a.off < b.off + lb * size && b.off < a.off + la * size))
    | _, _ => pure (Value.bool false)) w = _
  by_cases h0 : la = 0 ∨ lb = 0
  · rcases h0 with h0 | h0 <;> simp [run_underlying Try.underlying24, hz, h0]
  · cases kB with
    | zero => exact absurd rfl hkB
    | succ kB =>
      cases kA with
      | zero => exact absurd rfl hkA
      | succ kA =>
        have hz2 : Sem.run Try.prog (Go.sizeOf 25) w = .ok 1 w := hz w
        cases hfa : w.frozen? a <;> cases hfa2 : w.frozen? { block := a.block, off := kA + 1 } <;>
          simp [run_underlying Try.underlying24, hz2, hnb, hnb', frozen, noView, viewAt, mayBeOne, stringish, shape, Sem.run, hsa, hsb, hfa, hfa2, hfb, hfe]
set_option maxRecDepth 100000 in
theorem shape_of_cell {w : World} {g o : Nat} {v : Value} (h : w.cell? ⟨g, o, none⟩ = some v) : ∃ t k, w.shape? g = some (t, k) ∧ k ≠ 0 := by
  unfold World.cell? at h
  unfold World.shape?
  simp only at h
  split at h
  · rename_i c t fr he
    refine ⟨t, c.size, rfl, fun h0 => ?_⟩
    have hc : c[o]? = some v := by simpa using h
    have := (Array.getElem?_eq_some_iff.1 hc).1
    omega
  · cases h
set_option maxRecDepth 100000 in
theorem wp_copy_run (w : World) {ops : Array Oper} {rest : List Oper} {o : Oper} {a : Act} {Q : Exit → Act → World → Prop} (hgd : o.guard = none) (d s : Operand)
    (ho : o.op = .call { callee := .builtin .copy, args := #[d, s], argTypes := #[24, 24] }) (v u : Value) (hd : a.eval d = v) (hs : a.eval s = u) {v' : Value} {w' : World}
    (hr : ∀ ty, (Builtin.copy_ #[24, 24] ty #[v, u]).run Try.prog w = .ok v' w') (h : wpList Try.prog ops Q rest (a.put o.dst v') w') : wpList Try.prog ops Q (o :: rest) a w := by
  refine wpList_plain hgd fun K hK => ?_
  unfold Oper.wp execOp
  simp only [ho, resolve, invoke, builtin, Sem.run_bind, Sem.run_pure, Result.andThen_ok, List.map_toArray, List.map_cons, List.map_nil, hd, hs, hr]
  exact hK _ _ h
set_option maxRecDepth 100000 in
theorem step_copy (w : World) {ops : Array Oper} {o : Oper} {a : Act} {K : Act → World → Prop} {Q : Exit → Act → World → Prop} {E : Prop} (hgd : o.guard = none) (d s : Operand)
    (ho : o.op = .call { callee := .builtin .copy, args := #[d, s], argTypes := #[24, 24] }) (v u : Value) (hd : a.eval d = v) (hs : a.eval s = u) {v' : Value} {w' : World}
    (hr : ∀ ty, (Builtin.copy_ #[24, 24] ty #[v, u]).run Try.prog w = .ok v' w') (h : K (a.put o.dst v') w') : if Region.wanted o (yielded ops a.tmps) = true then Oper.wp Try.prog o a w K Q else E := by
  have hw : Region.wanted o (yielded ops a.tmps) = true := by simp [Region.wanted, hgd]
  rw [if_pos hw]
  unfold Oper.wp execOp
  simp only [ho, resolve, invoke, builtin, Sem.run_bind, Sem.run_pure, Result.andThen_ok, List.map_toArray, List.map_cons, List.map_nil, hd, hs, hr]
  exact h
set_option maxRecDepth 100000 in
/-- copy into a row of one's own -/
theorem copy_run {w : World} {g n c : Nat} {cs : List Int} {cur : Array Value} (h : Rowc w g n c cs cur) (o dl dc : Nat) (ad : Addr) (sl sc : Nat) (ds : List Int) (hsrc : ∀ j, j < ds.length → w.cell? (ad.add j) = some (.int .i32 (ds.getD j 0))) (hl : ds.length = min sl dl) (ho : o + ds.length ≤ c) :
    ∀ ty, (Builtin.copy_ #[24, 24] ty #[.slice (some ⟨g, o, none⟩) dl dc, .slice (some ad) sl sc]).run Try.prog w = .ok (goInt ds.length) (w.setCells g o (cellsC ds)) := by
  intro ty
  have hsz : (Try.prog.info? 25).map (·.size) = some 1 := by
    obtain ⟨i0, hi0, _, h1, _⟩ := info_parts infoChar
    rw [hi0]; simp [h1]
  have := run_copy_cells w 24 24 ty 25 g o dl dc ad sl sc (cellsC ds) Try.underlying24 hsz (by rw [len_cellsC]; exact hl)
    (fun j v hj => by
      have hjl : j < ds.length := by have := (List.getElem?_eq_some_iff.1 hj).1; rwa [len_cellsC] at this
      rw [cellsC_at ds j hjl] at hj
      cases hj
      exact hsrc j hjl)
    (fun j hj => (Rowc.cell h (by rw [len_cellsC] at hj; omega)).1) (fun j hj => (Rowc.cell h (by rw [len_cellsC] at hj; omega)).2) (cellsC_one ds)
  rwa [len_cellsC] at this
set_option maxRecDepth 100000 in
theorem slice_fromC' (g n c k : Nat) (hk : k ≤ n) (hc : k < c) : ∀ w', (Instr.sliceAt 24 (.slice (some ⟨g, 0, none⟩) n c) (some (.int .i64 (k : Int))) none none).run Try.prog w' = .ok (.slice (some ⟨g, k, none⟩) (n - k) (c - k)) w' := by
  intro w'
  rw [slice_fromC g n c k hk, if_neg (by omega)]
set_option maxRecDepth 100000 in
theorem slice_fromV (A : Option Addr) (n c k : Nat) (hk : k ≤ n) : ∃ v, ∀ w', (Instr.sliceAt 24 (.slice A n c) (some (.int .i64 (k : Int))) none none).run Try.prog w' = .ok v w' := by
  obtain ⟨i0, hi0, _⟩ := info_parts infoChar
  have hu : Try.prog.underlying 24 = some (.slice (Try.prog.elem 24)) := by kernel_rfl
  have he : Try.prog.elem 24 = 25 := by kernel_rfl
  refine ⟨?_, fun w' => ?_⟩
  rotate_left
  · rw [run_sliceAt_slice w' _ _ _ _ _ hu, run_slice_l w' 24 A n c hu .i64 (k : Int) (by omega) (by omega), he, run_sizeOf w' hi0]
    simp only [Result.andThen]
    rfl

set_option maxRecDepth 100000 in
set_option maxHeartbeats 1000000 in
/-- in place -/
theorem insC_room (w : World) (base g n c : Nat) (cs : List Int) (h : OwnC w base (.slice (some ⟨g, 0, none⟩) n c) cs) (i : Nat) (hi : i < n) (vg vo m d : Nat) (ds : List Int) (hV : Crs w w.heap.size (some ⟨vg, vo, none⟩) m d ds) (hne : vg ≠ g) (hm : 0 < m) (hroom : n + m ≤ c) (hfit : n + m ≤ 1000000) :
    Calls Try.prog 22 #[.slice (some ⟨g, 0, none⟩) n c, .int .i64 (i : Int), .slice (some ⟨vg, vo, none⟩) m d] w (Turned w (.slice (some ⟨g, 0, none⟩) n c) base (n + m) (cs.take i ++ ds ++ cs.drop i)) := by
  obtain ⟨hn, hS⟩ := h.crs
  have hcap := hS.cap
  unfold maxLen at hcap
  obtain ⟨hbg, cur, hR⟩ := OwnC.row h
  have hdl := hV.len
  have hvc : ∀ t, t < m → w.cell? ⟨vg, vo + t, none⟩ = some (.int .i32 (ds.getD t 0)) := by
    obtain ⟨g', o', e, _, hc⟩ := hV.at_ (i := 0) hm
    cases e
    exact hc
  have s1 := slice_fromC' g n c i (by omega) (by omega)
  have s2 := slice_toC (some ⟨g, 0, none⟩) n c (n + m) hroom
  have s3 := slice_fromC' g (n + m) c (i + m) (by omega) (by omega)
  have s4 := slice_fromC' g (n + m) c i (by omega) (by omega)
  obtain ⟨tA, kA, hsa, hkA⟩ := shape_of_cell (hvc 0 hm)
  have hsb : w.shape? g = some (25, c) := by unfold World.shape?; rw [hR.1, ← hR.2.1]
  have hov : ∀ lb cb, (callFunc 33 #[.slice (some ⟨vg, vo, none⟩) m d, .slice (some ⟨g, i + m, none⟩) lb cb]).run Try.prog w = .ok (.value (.bool false)) w := fun lb cb => by
    rw [run_callFunc_extern Try.func33 (by kernel_rfl) (by kernel_rfl) (by kernel_rfl) (e := Extern.SlicesOverlaps.overlaps #[24, 24] #[4]) (by kernel_rfl),
      overlaps_own w ⟨vg, vo, none⟩ ⟨g, i + m, none⟩ m d lb cb hne tA _ kA c hsa hsb hkA (by omega) (frozen_of_row w g _ _ _ hR.1) (frozen_of_row w g _ _ _ hR.1)]
    rfl
  obtain ⟨X, hX⟩ : ∃ X, X = cs.drop i := ⟨_, rfl⟩
  have hXl : X.length = n - i := by rw [hX, List.length_drop]; omega
  have hXg : ∀ t, X.getD t 0 = cs.getD (i + t) 0 := fun t => by rw [hX]; exact getD_drop cs i t
  have hc1 := copy_run (w := w.drew) (Rowc.drew hR) (i + m) (n + m - (i + m)) (c - (i + m)) ⟨g, i, none⟩ (n + m - i) (c - i) X (fun t ht => by
    rw [Addr.add_lit, hXg]
    exact (cell_of_row w g (i + t) _ _ _ hR.1).trans (hR.2.2.2.2.2.2 (i + t) (by omega))) (by rw [hXl, Nat.min_def]; split <;> omega) (by omega)
  obtain ⟨W1, hW1⟩ : ∃ W1, W1 = w.drew.setCells g (i + m) (cellsC X) := ⟨_, rfl⟩
  rw [← hW1] at hc1
  have ht1 : Tn (fun b => b = g) w W1 := by rw [hW1]; exact tn_sets _ w w.drew _ (Tn.refl _ w).drew
  have hR1 : Rowc W1 g i c (cs.take i) (sets cur (i + m) (cellsC X)) := by
    rw [hW1]
    refine Rowc.sets_ (Rowc.drew hR) (i + m) (cellsC X) (by rw [len_cellsC]; omega) (by omega) (by rw [List.length_take]; omega) (fun x hx => hS.js x (List.mem_of_mem_take hx)) (fun t h1 h2 h3 => by omega) (fun t h1 _ => ?_)
    rw [hR.2.2.2.2.2.2 t (by omega), getD_take cs i t h1]
  have hvw : vg < w.heap.size := World.block_lt_of_cell? w _ (hvc 0 hm)
  have hc2 := copy_run hR1 i (n + m - i) (c - i) ⟨vg, vo, none⟩ m d ds (fun t ht => by
    rw [Addr.add_lit]
    exact (ht1.cell (p := ⟨vg, vo + t, none⟩) hvw hne).trans (hvc t (by omega))) (by rw [hdl, Nat.min_def]; split <;> omega) (by omega)
  obtain ⟨W2, hW2⟩ : ∃ W2, W2 = W1.setCells g i (cellsC ds) := ⟨_, rfl⟩
  rw [← hW2] at hc2
  have ht2 : Tn (fun b => b = g) w W2 := by rw [hW2]; exact tn_sets _ w W1 _ ht1
  obtain ⟨Y, hY⟩ : ∃ Y, Y = cs.take i ++ ds ++ X := ⟨_, rfl⟩
  have hYl : Y.length = n + m := by rw [hY, List.length_append, List.length_append, List.length_take]; omega
  have hYJ : ∀ x ∈ Y, Pl.J x := fun x hx => by
    rw [hY] at hx
    rcases List.mem_append.1 hx with hx | hx
    · rcases List.mem_append.1 hx with hx | hx
      · exact hS.js x (List.mem_of_mem_take hx)
      · exact hV.js x hx
    · rw [hX] at hx; exact hS.js x (List.mem_of_mem_drop hx)
  have hYg : ∀ t, Y.getD t 0 = if t < i then cs.getD t 0 else if t < i + m then ds.getD (t - i) 0 else cs.getD (t - m) 0 := fun t => by
    rw [hY, List.append_assoc, getD_app, List.length_take, show min i cs.length = i by omega, getD_app, hdl]
    by_cases h1 : t < i
    · rw [if_pos h1, if_pos h1, getD_take cs i t h1]
    · rw [if_neg h1, if_neg h1]
      by_cases h2 : t < i + m
      · rw [if_pos (by omega), if_pos h2]
      · rw [if_neg (by omega), if_neg h2, hXg, show i + (t - i - m) = t - m by omega]
  have hR2 : Rowc W2 g (n + m) c Y (sets (sets cur (i + m) (cellsC X)) i (cellsC ds)) := by
    rw [hW2]
    refine Rowc.sets_ hR1 i (cellsC ds) (by rw [len_cellsC]; omega) hroom hYl hYJ (fun t h1 h2 h3 => ?_) (fun t h1 h2 => ?_)
    · rw [len_cellsC] at h3
      rw [cellsC_at ds (t - i) (by omega), hYg, if_neg (by omega), if_pos (by omega)]
    · rw [len_cellsC] at h2
      rw [hYg]
      by_cases h3 : t < i
      · rw [if_pos h3, sets_out _ _ _ _ (Or.inl (by omega))]; exact hR.2.2.2.2.2.2 t (by omega)
      · rw [if_neg h3, if_neg (by omega)]
        have h4 := sets_in (cellsC X) cur (i + m) (t - (i + m)) (by rw [len_cellsC]; omega) (by rw [len_cellsC, hR.2.1]; omega)
        rw [show i + m + (t - (i + m)) = t by omega] at h4
        rw [h4, cellsC_at X _ (by omega), hXg, show i + (t - (i + m)) = t - m by omega]
  have HO := Lib.hid (show Turned w (.slice (some ⟨g, 0, none⟩) n c) base (n + m) Y (.returned (.slice (some ⟨g, 0, none⟩) (n + m) c)) W2 from
    ⟨some ⟨g, 0, none⟩, c, rfl, Rowc.own hR2 hbg, ht2.more (fun b _ hb => by rw [hb]; rfl), fun b hb => Or.inl hb⟩)
  rw [← hX, ← hY]
  obtain ⟨xl, hxl⟩ : ∃ k, k = X.length := ⟨_, rfl⟩
  obtain ⟨dl, hdl2⟩ : ∃ k, k = ds.length := ⟨_, rfl⟩
  rw [← hxl] at hc1
  rw [← hdl2] at hc2
  have HC1 := Lib.hid hc1
  have HC2 := Lib.hid hc2
  have hm0 : ((m : Int) == 0) = false := by rw [beq_eq_false_iff_ne]; omega
  have hin : ((i : Int) == (n : Int)) = false := by rw [beq_eq_false_iff_ne]; omega
  have hw1 : IntKind.i64.wrap ((i : Int) + (m : Int)) = (i : Int) + (m : Int) := by rw [IntKind.wrap_i64]; omega
  have hb1 : (0 : Int) ≤ (i : Int) + (m : Int) := by omega
  have hile : i ≤ n := by omega
  have htn : ((i : Int) + (m : Int)).toNat = i + m := by omega
  have hb2 : ¬ (c = i + m) := by omega
  have hb3 : (i : Int) ≤ (n : Int) + (m : Int) := by omega
  have hb4 : ¬ (c = i) := by omega
  clear hc1 hc2 h hn hS hR hdl hV hvc hsa hkA hsb hX hXl hXg ht1 hR1 hvw hW1 hW2 ht2 hY hYl hYJ hYg hR2 hxl hdl2
  go_enter Try.func22, Try.ntmps22
  go_wp2_with (simp only [hov])
  go_region_law (refine step_copy w.drew rfl (.tmp 73) (.tmp 76) (by rfl) _ _ (by simp [Act.eval, Act.put]) (by simp [Act.eval, Act.put]) HC1.out ?_)
  have hc2 := HC2.out
  go_wp2_with fail
  go_ret
  exact HO.out
end Go.Proofs.Ytfjnliebgndemaa
