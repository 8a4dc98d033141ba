/-
  slices.overlaps and slices.Insert at a row of code points of the law's own. Conditions: the row is one; 0 ≤ i ≤ its length; what is put in lies in another block; both together at most a million.
  slices.Insert at a row of code points of the law's own, whatever room there is. Conditions: the row is one; 0 ≤ i ≤ its length; what is put in lies in another block; both together at most a million.
-/
import Derived.Test.YtldmnkakpmplnaaGreatUd04
import Derived.Lib.AppendZerosOnto
import Derived.Laws.Externs
import Derived.Laws.IdiomCopy
set_option maxRecDepth 100000
namespace Go.Proofs.YtldmnkakpmplnaaGreat
open Go.RowKit
theorem overlaps_own (w : World) (a b : Addr) (la ca lb cb : Nat) (hne : a.block ≠ b.block) (tA tB : TypeId) (kA kB : Nat) (hsa : w.shape? a.block = some (tA, kA)) (hsb : w.shape? b.block = some (tB, kB)) (hkA : kA ≠ 0) (hkB : kB ≠ 0)
    (hfb : w.frozen? b = false) (hfe : w.frozen? { block := b.block, off := kB } = false) :
    (Extern.SlicesOverlaps.overlaps #[33, 33] #[4] #[.slice (some a) la ca, .slice (some b) lb cb]).run Tryz.prog w = .ok (.bool false) w := by
  have hnb : (a.block != b.block) = true := by simpa using hne
  have hnb' : (a.block == b.block) = false := by simpa using hne
  have hz : ∀ w, (Go.sizeOf 41).run Tryz.prog w = .ok 1 w := Tryz.sizeOf41
  change Sem.run Tryz.prog (α := Value) (do
    let some t := (#[33, 33] : Array TypeId)[0]? | stuck "slices.overlaps: no parameter types"
    let .slice elem ← underlying t | stuck "slices.overlaps: slice type expected"
    let size ← sizeOf elem
    match (some a : Option Addr), (some b : Option Addr) with
    | some a, some b =>
      if la = 0 ∨ lb = 0 ∨ size = 0 then pure (Value.bool false)
      else if a.block != b.block && (← frozen a) && (← frozen b) then unsupported .addressObserved
      else do
        if a.block != b.block then do
          noView a; noView b
          if ← mayBeOne a b then return Value.bool ((← choose (.extern "sameAddr.stringBytes" 2)) == 1)
        pure (Value.bool (a.block == b.block && a.off < b.off + lb * size && b.off < a.off + la * size))
    | _, _ => pure (Value.bool false)) w = _
  by_cases h0 : la = 0 ∨ lb = 0
  · rcases h0 with h0 | h0 <;> simp [run_underlying Tryz.underlying33, hz, h0]
  · cases kB with
    | zero => exact absurd rfl hkB
    | succ kB =>
      cases kA with
      | zero => exact absurd rfl hkA
      | succ kA =>
        have hz2 : Sem.run Tryz.prog (Go.sizeOf 41) w = .ok 1 w := hz w
        cases hfa : w.frozen? a <;> cases hfa2 : w.frozen? { block := a.block, off := kA + 1 } <;>
          simp [run_underlying Tryz.underlying33, hz2, hnb, hnb', frozen, noView, viewAt, mayBeOne, stringish, shape, Sem.run, hsa, hsb, hfa, hfa2, hfb, hfe]
theorem shape_of_cell {w : World} {g o : Nat} {v : Value} (h : w.cell? ⟨g, o, none⟩ = some v) : ∃ t k, w.shape? g = some (t, k) ∧ k ≠ 0 := by
  unfold World.cell? at h
  unfold World.shape?
  simp only at h
  split at h
  · rename_i c t fr he
    refine ⟨t, c.size, rfl, fun h0 => ?_⟩
    have hc : c[o]? = some v := by simpa using h
    have := (Array.getElem?_eq_some_iff.1 hc).1
    omega
  · cases h
theorem step_copy (w : World) {ops : Array Oper} {o : Oper} {a : Act} {K : Act → World → Prop} {Q : Exit → Act → World → Prop} {E : Prop} (hgd : o.guard = none) (d s : Operand)
    (ho : o.op = .call { callee := .builtin .copy, args := #[d, s], argTypes := #[33, 33] }) (v u : Value) (hd : a.eval d = v) (hs : a.eval s = u) {v' : Value} {w' : World}
    (hr : ∀ ty, (Builtin.copy_ #[33, 33] ty #[v, u]).run Tryz.prog w = .ok v' w') (h : K (a.put o.dst v') w') : if Region.wanted o (yielded ops a.tmps) = true then Oper.wp Tryz.prog o a w K Q else E := by
  have hw : Region.wanted o (yielded ops a.tmps) = true := by simp [Region.wanted, hgd]
  rw [if_pos hw]
  unfold Oper.wp execOp
  simp only [ho, resolve, invoke, builtin, Sem.run_bind, Sem.run_pure, Result.andThen_ok, List.map_toArray, List.map_cons, List.map_nil, hd, hs, hr]
  exact h
theorem copy_run {w : World} {g n c : Nat} {cs : List Int} {cur : Array Value} (h : Rowc w g n c cs cur) (o dl dc : Nat) (ad : Addr) (sl sc : Nat) (ds : List Int) (hsrc : ∀ j, j < ds.length → w.cell? (ad.add j) = some (.int .i32 (ds.getD j 0))) (hl : ds.length = min sl dl) (ho : o + ds.length ≤ c) :
    ∀ ty, (Builtin.copy_ #[33, 33] ty #[.slice (some ⟨g, o, none⟩) dl dc, .slice (some ad) sl sc]).run Tryz.prog w = .ok (goInt ds.length) (w.setCells g o (cellsC ds)) := by
  intro ty
  have hsz : (Tryz.prog.info? 41).map (·.size) = some 1 := by
    obtain ⟨i0, hi0, _, h1, _⟩ := info_parts infoChar
    rw [hi0]; simp [h1]
  have := run_copy_cells w 33 33 ty 41 g o dl dc ad sl sc (cellsC ds) Tryz.underlying33 hsz (by rw [len_cellsC]; exact hl)
    (fun j v hj => by
      have hjl : j < ds.length := by have := (List.getElem?_eq_some_iff.1 hj).1; rwa [len_cellsC] at this
      rw [cellsC_at ds j hjl] at hj
      cases hj
      exact hsrc j hjl)
    (fun j hj => (Rowc.cell h (by rw [len_cellsC] at hj; omega)).1) (fun j hj => (Rowc.cell h (by rw [len_cellsC] at hj; omega)).2) (cellsC_one ds)
  rwa [len_cellsC] at this
theorem slice_fromC' (g n c k : Nat) (hk : k ≤ n) (hc : k < c) : ∀ w', (Instr.sliceAt 33 (.slice (some ⟨g, 0, none⟩) n c) (some (.int .i64 (k : Int))) none none).run Tryz.prog w' = .ok (.slice (some ⟨g, k, none⟩) (n - k) (c - k)) w' := by
  intro w'
  rw [slice_fromC g n c k hk, if_neg (by omega)]
theorem slice_fromV (A : Option Addr) (n c k : Nat) (hk : k ≤ n) : ∃ v, ∀ w', (Instr.sliceAt 33 (.slice A n c) (some (.int .i64 (k : Int))) none none).run Tryz.prog w' = .ok v w' := by
  obtain ⟨i0, hi0, _⟩ := info_parts infoChar
  have hu : Tryz.prog.underlying 33 = some (.slice (Tryz.prog.elem 33)) := by kernel_rfl
  have he : Tryz.prog.elem 33 = 41 := by kernel_rfl
  refine ⟨?_, fun w' => ?_⟩
  rotate_left
  · rw [run_sliceAt_slice w' _ _ _ _ _ hu, run_slice_l w' 33 A n c hu .i64 (k : Int) (by omega) (by omega), he, run_sizeOf w' hi0]
    simp only [Result.andThen]
    rfl
set_option maxHeartbeats 1000000 in
theorem insC_room (w : World) (base g n c : Nat) (cs : List Int) (h : OwnC w base (.slice (some ⟨g, 0, none⟩) n c) cs) (i : Nat) (hi : i < n) (vg vo m d : Nat) (ds : List Int) (hV : Crs w w.heap.size (some ⟨vg, vo, none⟩) m d ds) (hne : vg ≠ g) (hm : 0 < m) (hroom : n + m ≤ c) (hfit : n + m ≤ 1000000) :
    Calls Tryz.prog 104 #[.slice (some ⟨g, 0, none⟩) n c, .int .i64 (i : Int), .slice (some ⟨vg, vo, none⟩) m d] w (Turned w (.slice (some ⟨g, 0, none⟩) n c) base (n + m) (cs.take i ++ ds ++ cs.drop i)) := by
  obtain ⟨hn, hS⟩ := h.crs
  have hcap := hS.cap
  unfold maxLen at hcap
  obtain ⟨hbg, cur, hR⟩ := OwnC.row h
  have hdl := hV.len
  have hvc : ∀ t, t < m → w.cell? ⟨vg, vo + t, none⟩ = some (.int .i32 (ds.getD t 0)) := by
    obtain ⟨g', o', e, _, hc⟩ := hV.at_ (i := 0) hm
    cases e
    exact hc
  have s1 := slice_fromC' g n c i (by omega) (by omega)
  have s2 := slice_toC (some ⟨g, 0, none⟩) n c (n + m) hroom
  have s3 := slice_fromC' g (n + m) c (i + m) (by omega) (by omega)
  have s4 := slice_fromC' g (n + m) c i (by omega) (by omega)
  obtain ⟨tA, kA, hsa, hkA⟩ := shape_of_cell (hvc 0 hm)
  have hsb : w.shape? g = some (41, c) := by unfold World.shape?; rw [hR.1, ← hR.2.1]
  have hov : ∀ lb cb, (callFunc 189 #[.slice (some ⟨vg, vo, none⟩) m d, .slice (some ⟨g, i + m, none⟩) lb cb]).run Tryz.prog w = .ok (.value (.bool false)) w := fun lb cb => by
    rw [run_callFunc_extern Tryz.func189 (by kernel_rfl) (by kernel_rfl) (by kernel_rfl) (e := Extern.SlicesOverlaps.overlaps #[33, 33] #[4]) (by kernel_rfl),
      overlaps_own w ⟨vg, vo, none⟩ ⟨g, i + m, none⟩ m d lb cb hne tA _ kA c hsa hsb hkA (by omega) (frozen_of_row w g _ _ _ hR.1) (frozen_of_row w g _ _ _ hR.1)]
    rfl
  obtain ⟨X, hX⟩ : ∃ X, X = cs.drop i := ⟨_, rfl⟩
  have hXl : X.length = n - i := by rw [hX, List.length_drop]; omega
  have hXg : ∀ t, X.getD t 0 = cs.getD (i + t) 0 := fun t => by rw [hX]; exact getD_drop cs i t
  have hc1 := copy_run (w := w.drew) (Rowc.drew hR) (i + m) (n + m - (i + m)) (c - (i + m)) ⟨g, i, none⟩ (n + m - i) (c - i) X (fun t ht => by
    rw [Addr.add_lit, hXg]
    exact (cell_of_row w g (i + t) _ _ _ hR.1).trans (hR.2.2.2.2.2.2 (i + t) (by omega))) (by rw [hXl, Nat.min_def]; split <;> omega) (by omega)
  obtain ⟨W1, hW1⟩ : ∃ W1, W1 = w.drew.setCells g (i + m) (cellsC X) := ⟨_, rfl⟩
  rw [← hW1] at hc1
  have ht1 : Tn (fun b => b = g) w W1 := by rw [hW1]; exact tn_sets _ w w.drew _ (Tn.refl _ w).drew
  have hR1 : Rowc W1 g i c (cs.take i) (sets cur (i + m) (cellsC X)) := by
    rw [hW1]
    refine Rowc.sets_ (Rowc.drew hR) (i + m) (cellsC X) (by rw [len_cellsC]; omega) (by omega) (by rw [List.length_take]; omega) (fun x hx => hS.js x (List.mem_of_mem_take hx)) (fun t h1 h2 h3 => by omega) (fun t h1 _ => ?_)
    rw [hR.2.2.2.2.2.2 t (by omega), getD_take cs i t h1]
  have hvw : vg < w.heap.size := World.block_lt_of_cell? w _ (hvc 0 hm)
  have hc2 := copy_run hR1 i (n + m - i) (c - i) ⟨vg, vo, none⟩ m d ds (fun t ht => by
    rw [Addr.add_lit]
    exact (ht1.cell (p := ⟨vg, vo + t, none⟩) hvw hne).trans (hvc t (by omega))) (by rw [hdl, Nat.min_def]; split <;> omega) (by omega)
  obtain ⟨W2, hW2⟩ : ∃ W2, W2 = W1.setCells g i (cellsC ds) := ⟨_, rfl⟩
  rw [← hW2] at hc2
  have ht2 : Tn (fun b => b = g) w W2 := by rw [hW2]; exact tn_sets _ w W1 _ ht1
  obtain ⟨Y, hY⟩ : ∃ Y, Y = cs.take i ++ ds ++ X := ⟨_, rfl⟩
  have hYl : Y.length = n + m := by rw [hY, List.length_append, List.length_append, List.length_take]; omega
  have hYJ : ∀ x ∈ Y, Pl.J x := fun x hx => by
    rw [hY] at hx
    rcases List.mem_append.1 hx with hx | hx
    · rcases List.mem_append.1 hx with hx | hx
      · exact hS.js x (List.mem_of_mem_take hx)
      · exact hV.js x hx
    · rw [hX] at hx; exact hS.js x (List.mem_of_mem_drop hx)
  have hYg : ∀ t, Y.getD t 0 = if t < i then cs.getD t 0 else if t < i + m then ds.getD (t - i) 0 else cs.getD (t - m) 0 := fun t => by
    rw [hY, List.append_assoc, getD_app, List.length_take, show min i cs.length = i by omega, getD_app, hdl]
    by_cases h1 : t < i
    · rw [if_pos h1, if_pos h1, getD_take cs i t h1]
    · rw [if_neg h1, if_neg h1]
      by_cases h2 : t < i + m
      · rw [if_pos (by omega), if_pos h2]
      · rw [if_neg (by omega), if_neg h2, hXg, show i + (t - i - m) = t - m by omega]
  have hR2 : Rowc W2 g (n + m) c Y (sets (sets cur (i + m) (cellsC X)) i (cellsC ds)) := by
    rw [hW2]
    refine Rowc.sets_ hR1 i (cellsC ds) (by rw [len_cellsC]; omega) hroom hYl hYJ (fun t h1 h2 h3 => ?_) (fun t h1 h2 => ?_)
    · rw [len_cellsC] at h3
      rw [cellsC_at ds (t - i) (by omega), hYg, if_neg (by omega), if_pos (by omega)]
    · rw [len_cellsC] at h2
      rw [hYg]
      by_cases h3 : t < i
      · rw [if_pos h3, sets_out _ _ _ _ (Or.inl (by omega))]; exact hR.2.2.2.2.2.2 t (by omega)
      · rw [if_neg h3, if_neg (by omega)]
        have h4 := sets_in (cellsC X) cur (i + m) (t - (i + m)) (by rw [len_cellsC]; omega) (by rw [len_cellsC, hR.2.1]; omega)
        rw [show i + m + (t - (i + m)) = t by omega] at h4
        rw [h4, cellsC_at X _ (by omega), hXg, show i + (t - (i + m)) = t - m by omega]
  have HO := Lib.hid (show Turned w (.slice (some ⟨g, 0, none⟩) n c) base (n + m) Y (.returned (.slice (some ⟨g, 0, none⟩) (n + m) c)) W2 from
    ⟨some ⟨g, 0, none⟩, c, rfl, Rowc.own hR2 hbg, ht2.more (fun b _ hb => by rw [hb]; rfl), fun b hb => Or.inl hb⟩)
  rw [← hX, ← hY]
  obtain ⟨xl, hxl⟩ : ∃ k, k = X.length := ⟨_, rfl⟩
  obtain ⟨dl, hdl2⟩ : ∃ k, k = ds.length := ⟨_, rfl⟩
  rw [← hxl] at hc1
  rw [← hdl2] at hc2
  have HC1 := Lib.hid hc1
  have HC2 := Lib.hid hc2
  have hm0 : ((m : Int) == 0) = false := by rw [beq_eq_false_iff_ne]; omega
  have hin : ((i : Int) == (n : Int)) = false := by rw [beq_eq_false_iff_ne]; omega
  have hw1 : IntKind.i64.wrap ((i : Int) + (m : Int)) = (i : Int) + (m : Int) := by rw [IntKind.wrap_i64]; omega
  have hb1 : (0 : Int) ≤ (i : Int) + (m : Int) := by omega
  have hile : i ≤ n := by omega
  have htn : ((i : Int) + (m : Int)).toNat = i + m := by omega
  have hb2 : ¬ (c = i + m) := by omega
  have hb3 : (i : Int) ≤ (n : Int) + (m : Int) := by omega
  have hb4 : ¬ (c = i) := by omega
  clear hc1 hc2 h hn hS hR hdl hV hvc hsa hkA hsb hX hXl hXg ht1 hR1 hvw hW1 hW2 ht2 hY hYl hYJ hYg hR2 hxl hdl2
  go_enter Tryz.func104, Tryz.ntmps104
  go_wp2_with (simp only [hov])
  go_region_law (refine step_copy w.drew rfl (.tmp 73) (.tmp 76) (by rfl) _ _ (by simp [Act.eval, Act.put]) (by simp [Act.eval, Act.put]) HC1.out ?_)
  have hc2 := HC2.out
  go_wp2_with fail
  go_ret
  exact HO.out
end Go.Proofs.YtldmnkakpmplnaaGreat
namespace Go.Proofs.YtldmnkakpmplnaaGreat
open Go.RowKit
theorem own_hold {w : World} {g n c : Nat} {cs : List Int} {cur : Array Value} (h : Rowc w g n c cs cur) (i k : Nat) (hi : i ≤ n) : (Builtin.firstCells 1 i (.slice (some ⟨g, 0, none⟩) i k)).run Tryz.prog w = .ok (cellsC (cs.take i)).toArray w :=
  run_firstCells_some w 1 i ⟨g, 0, none⟩ i k (cellsC (cs.take i)) (by have := h.2.2.1; rw [len_cellsC, List.length_take]; omega) (fun j v hj => by
    have hj2 : j < i := by have := (List.getElem?_eq_some_iff.1 hj).1; rw [len_cellsC, List.length_take] at this; omega
    rw [cellsC_at _ j (by have := h.2.2.1; rw [List.length_take]; omega), getD_take cs i j hj2] at hj
    cases hj
    rw [Addr.add_lit, Nat.zero_add]
    exact (cell_of_row w g j _ _ _ h.1).trans (h.2.2.2.2.2.2 j (by omega)))
set_option maxHeartbeats 1000000 in
theorem insC_grow (w : World) (base g n c : Nat) (cs : List Int) (h : OwnC w base (.slice (some ⟨g, 0, none⟩) n c) cs) (i : Nat) (hi : i < n) (vg vo m d : Nat) (ds : List Int) (hV : Crs w w.heap.size (some ⟨vg, vo, none⟩) m d ds) (hm : 0 < m) (hroom : c < n + m) (hfit : n + m ≤ 1000000) :
    Calls Tryz.prog 104 #[.slice (some ⟨g, 0, none⟩) n c, .int .i64 (i : Int), .slice (some ⟨vg, vo, none⟩) m d] w (Turned w (.slice (some ⟨g, 0, none⟩) n c) base (n + m) (cs.take i ++ ds ++ cs.drop i)) := by
  obtain ⟨hn, hS⟩ := h.crs
  have hle := hS.le
  obtain ⟨hbg, cur, hR⟩ := OwnC.row h
  have hgw := lt_of_block hR.1
  have hdl := hV.len
  have hvc : ∀ t, t < m → w.cell? ⟨vg, vo + t, none⟩ = some (.int .i32 (ds.getD t 0)) := by
    obtain ⟨g', o', e, _, hc⟩ := hV.at_ (i := 0) hm
    cases e
    exact hc
  have hvw : vg < w.heap.size := World.block_lt_of_cell? w _ (hvc 0 hm)
  obtain ⟨i0, hi0, hz0, hzs, hzb⟩ := info_parts infoChar
  have s1 := slice_fromC' g n c i (by omega) (by omega)
  have s2 := slice_toC (some ⟨g, 0, none⟩) n c i (by omega)
  obtain ⟨H, hH⟩ : ∃ H, H = w.heap.size := ⟨_, rfl⟩
  obtain ⟨G, hG⟩ : ∃ G, G = grownCap w (n + m) c 41 := ⟨_, rfl⟩
  have hGn : n + m ≤ G := by rw [hG]; exact grownCap_ge w _ _ _
  have hGm : G ≤ maxLen := by rw [hG]; exact grownCap_le_maxLen w _ _ _ (by unfold maxLen; omega)
  have hG63 : G ≤ 9223372036854775807 := by unfold maxLen at hGm; omega
  obtain ⟨ROW, hROW⟩ : ∃ ROW : Array Value, ROW = (cellsC (cs.take i)).toArray ++ Builtin.zeroCells (Value.int .i32 0).cells (n + m - i) ++ Builtin.zeroCells (Value.int .i32 0).cells (G - (n + m)) := ⟨_, rfl⟩
  have hRl : ROW.size = G := by
    rw [hROW]
    simp [Builtin.zeroCells, Value.cells, len_cellsC]
    omega
  obtain ⟨W1, hW1⟩ : ∃ W1, W1 = w.drew.alloc (.cells ROW 41) := ⟨_, rfl⟩
  have hrz : ∀ ty, (Builtin.append_ #[33, 3] ty #[.slice (some ⟨g, 0, none⟩) i c, .int .i64 ((n : Int) + (m : Int) - (i : Int))]).run Tryz.prog w = .ok (.slice (some ⟨H, 0, none⟩) (n + m) G) W1 := fun ty => by
    have hold := own_hold (w := w.drew) (Rowc.drew hR) i c (by omega)
    rw [← hzs] at hold
    have := Lib.run_append_grow_zeros w 33 3 ty 41 i0 _ .i64 .i64 Tryz.underlying33 Tryz.underlying3 hi0 hz0 (some ⟨g, 0, none⟩) i c (cellsC (cs.take i)) hold (n + m - i) (by omega) (by omega) (by omega) (by omega) (by rw [hzb]; omega) (by rw [hzb, show i + (n + m - i) = n + m by omega]; exact growslice_fits hroom (by omega))
    rw [show i + (n + m - i) = n + m by omega] at this
    rw [show (n : Int) + (m : Int) - (i : Int) = ((n + m - i : Nat) : Int) by omega, hW1, hROW, hG, hH]
    exact this
  have hq1 : W1.heap[H]? = some (.cells ROW 41 (0, 0)) := by rw [hW1, hH]; exact heap_alloc_new w.drew _
  have hR1 : Rowc W1 H i G (cs.take i) ROW := by
    refine ⟨hq1, hRl, by rw [List.length_take]; omega, by omega, hGm, fun x hx => hS.js x (List.mem_of_mem_take hx), fun t ht => ?_⟩
    have hlt : t < (cellsC (cs.take i)).length := by rw [len_cellsC, List.length_take]; omega
    rw [hROW, Array.append_assoc, Array.getElem?_append_left (by simpa using hlt), List.getElem?_toArray]
    exact cellsC_at _ t (by rw [len_cellsC] at hlt; exact hlt)
  have hb1 : Below w.heap.size w W1 := by rw [hW1]; exact below_alloc (Below.refl _ w).drew _
  have hc1 := copy_run hR1 i (n + m - i) (G - i) ⟨vg, vo, none⟩ m d ds (fun t ht => by
    rw [Addr.add_lit]
    exact (hb1.cell (p := ⟨vg, vo + t, none⟩) hvw).trans (hvc t (by omega))) (by rw [hdl, Nat.min_def]; split <;> omega) (by omega)
  obtain ⟨W2, hW2⟩ : ∃ W2, W2 = W1.setCells H i (cellsC ds) := ⟨_, rfl⟩
  rw [← hW2] at hc1
  have ht0 : Tn (fun b => b = H) w W1 := (Tn.of _ hb1)
  have ht2 : Tn (fun b => b = H) w W2 := by rw [hW2]; exact tn_sets _ w W1 _ ht0
  obtain ⟨Z, hZ⟩ : ∃ Z, Z = cs.take i ++ ds := ⟨_, rfl⟩
  have hZl : Z.length = i + m := by rw [hZ, List.length_append, List.length_take]; omega
  have hZJ : ∀ x ∈ Z, Pl.J x := fun x hx => by
    rw [hZ] at hx
    exact (List.mem_append.1 hx).elim (fun h => hS.js x (List.mem_of_mem_take h)) (fun h => hV.js x h)
  have hZg : ∀ t, Z.getD t 0 = if t < i then (cs.take i).getD t 0 else ds.getD (t - i) 0 := fun t => by
    rw [hZ, getD_app, List.length_take, show min i cs.length = i by omega]
  have hR2 : Rowc W2 H (i + m) G Z (sets ROW i (cellsC ds)) := by
    rw [hW2]
    refine Rowc.sets_ hR1 i (cellsC ds) (by rw [len_cellsC]; omega) (by omega) hZl hZJ (fun t h1 h2 h3 => ?_) (fun t h1 h2 => ?_)
    · rw [len_cellsC] at h3
      rw [cellsC_at ds (t - i) (by omega), hZg, if_neg (by omega)]
    · rw [len_cellsC] at h2
      rw [hZg, if_pos (by omega)]
      exact hR1.2.2.2.2.2.2 t (by omega)
  obtain ⟨X, hX⟩ : ∃ X, X = cs.drop i := ⟨_, rfl⟩
  have hXl : X.length = n - i := by rw [hX, List.length_drop]; omega
  have hXg : ∀ t, X.getD t 0 = cs.getD (i + t) 0 := fun t => by rw [hX]; exact getD_drop cs i t
  have hc2 := copy_run (w := W2.drew) (Rowc.drew hR2) (i + m) (n + m - (i + m)) (G - (i + m)) ⟨g, i, none⟩ (n - i) (c - i) X (fun t ht => by
    rw [Addr.add_lit, hXg]
    exact (ht2.cell (p := ⟨g, i + t, none⟩) hgw (by show ¬ g = H; omega)).trans ((cell_of_row w g (i + t) _ _ _ hR.1).trans (hR.2.2.2.2.2.2 (i + t) (by omega)))) (by rw [hXl, Nat.min_def]; split <;> omega) (by omega)
  obtain ⟨W3, hW3⟩ : ∃ W3, W3 = W2.drew.setCells H (i + m) (cellsC X) := ⟨_, rfl⟩
  rw [← hW3] at hc2
  have ht3 : Tn (fun b => b = H) w W3 := by rw [hW3]; exact tn_sets _ w W2.drew _ ht2.drew
  obtain ⟨Y, hY⟩ : ∃ Y, Y = Z ++ X := ⟨_, rfl⟩
  have hYl : Y.length = n + m := by rw [hY, List.length_append]; omega
  have hYJ : ∀ x ∈ Y, Pl.J x := fun x hx => by
    rw [hY] at hx
    rcases List.mem_append.1 hx with hx | hx
    · exact hZJ x hx
    · rw [hX] at hx; exact hS.js x (List.mem_of_mem_drop hx)
  have hYg : ∀ t, Y.getD t 0 = if t < i + m then Z.getD t 0 else X.getD (t - (i + m)) 0 := fun t => by rw [hY, getD_app, hZl]
  have hR3 : Rowc W3 H (n + m) G Y (sets (sets ROW i (cellsC ds)) (i + m) (cellsC X)) := by
    rw [hW3]
    refine Rowc.sets_ (Rowc.drew hR2) (i + m) (cellsC X) (by rw [len_cellsC]; omega) (by omega) hYl hYJ (fun t h1 h2 h3 => ?_) (fun t h1 h2 => ?_)
    · rw [len_cellsC] at h3
      rw [cellsC_at X (t - (i + m)) (by omega), hYg, if_neg (by omega)]
    · rw [len_cellsC] at h2
      rw [hYg, if_pos (by omega)]
      exact hR2.2.2.2.2.2.2 t (by omega)
  have HO := Lib.hid (show Turned w (.slice (some ⟨g, 0, none⟩) n c) base (n + m) Y (.returned (.slice (some ⟨H, 0, none⟩) (n + m) G)) W3 from
    ⟨some ⟨H, 0, none⟩, G, rfl, Rowc.own hR3 (by omega), ht3.more (fun b hb he => by omega), fun b hb => Or.inr (by cases hb; show w.heap.size ≤ H; omega)⟩)
  rw [← hX, ← hZ, ← hY]
  obtain ⟨xl, hxl⟩ : ∃ k, k = X.length := ⟨_, rfl⟩
  obtain ⟨dl, hdl2⟩ : ∃ k, k = ds.length := ⟨_, rfl⟩
  rw [← hxl] at hc2
  rw [← hdl2] at hc1
  have HC2 := Lib.hid hc2
  have HRZ := Lib.hid hrz
  have hm0 : ((m : Int) == 0) = false := by rw [beq_eq_false_iff_ne]; omega
  have hin : ((i : Int) == (n : Int)) = false := by rw [beq_eq_false_iff_ne]; omega
  have hw1 : IntKind.i64.wrap ((i : Int) + (m : Int)) = (i : Int) + (m : Int) := by rw [IntKind.wrap_i64]; omega
  have hb1 : (0 : Int) ≤ (i : Int) + (m : Int) := by omega
  have hile : i ≤ n := by omega
  have htn : ((i : Int) + (m : Int)).toNat = i + m := by omega
  have hb2 : ¬ (G = i + m) := by omega
  have hb3 : (i : Int) ≤ (n : Int) := by omega
  have hb4 : ¬ (c = i) := by omega
  have s4 := slice_fromC' H (n + m) G i (by omega) (by omega)
  have hb5 : (i : Int) + (m : Int) ≤ (n : Int) + (m : Int) := by omega
  clear hrz hc2 h hn hS hR hdl hV hvc hX hXl hXg hR1 hR2 hR3 hvw hW1 hW2 hW3 ht0 ht2 ht3 hY hYl hYJ hYg hZ hZl hZJ hZg hxl hdl2 hq1 hRl hROW hG hH hgw hbg hi0 hz0 hzs hzb
  go_enter Tryz.func104, Tryz.ntmps104
  go_wp2_with (at_builtin; refine Lib.wpList_append_run w (by rfl) (.tmp 34) (.tmp 39) 33 3 (by rfl) (.slice (some ⟨g, 0, none⟩) i c) (.int .i64 ((n : Int) + (m : Int) - (i : Int))) (by rfl) (by rfl) _ _ (HRZ.out _) ?_)
  go_region_law (refine step_copy W2.drew rfl (.tmp 50) (.tmp 53) (by rfl) _ _ (by simp [Act.eval, Act.put]) (by simp [Act.eval, Act.put]) HC2.out ?_)
  go_wp2_with fail
  go_ret
  exact HO.out
set_option maxHeartbeats 1000000 in
theorem insC_any (w : World) (base : Nat) (A : Option Addr) (n c : Nat) (cs : List Int) (h : OwnC w base (.slice A n c) cs) (hbase : base ≤ w.heap.size) (i : Nat) (hi : i ≤ n) (B : Option Addr) (m d : Nat) (ds : List Int) (hV : Crs w w.heap.size B m d ds)
    (hne : 0 < m → ∀ g, Value.ownBlock (.slice A n c) = some g → ∀ ad, B = some ad → ad.block ≠ g) (hfit : n + m ≤ 1000000) :
    Calls Tryz.prog 104 #[.slice A n c, .int .i64 (i : Int), .slice B m d] w (Turned w (.slice A n c) base (n + m) (cs.take i ++ ds ++ cs.drop i)) := by
  obtain ⟨hn, hS⟩ := h.crs
  have hle := hS.le
  obtain ⟨v1, s1⟩ := slice_fromV A n c i hi
  have hcap := hS.cap
  unfold maxLen at hcap
  have hdl := hV.len
  rcases Nat.eq_zero_or_pos m with hm | hm
  · subst hm
    have e0 : ds = [] := List.eq_nil_of_length_eq_zero hdl
    rw [e0, List.append_nil, List.take_append_drop, Nat.add_zero]
    have HO := Lib.hid (show Turned w (.slice A n c) base n cs (.returned (.slice A n c)) w from ⟨A, c, rfl, h, Tn.refl _ w, fun g hg => Or.inl hg⟩)
    clear h hS hV hne hn hdl e0
    go_enter Tryz.func104, Tryz.ntmps104
    go_wp2_with fail
    go_ret
    exact HO.out
  · rcases Nat.lt_or_ge i n with hin | hin
    · obtain ⟨g, rfl, hbg⟩ := OwnC.pos_ h (by omega)
      obtain ⟨vg, vo, rfl, _, _⟩ := hV.at_ (i := 0) hm
      rcases Nat.lt_or_ge c (n + m) with hr | hr
      · exact insC_grow w base g n c cs h i hin vg vo m d ds hV hm hr hfit
      · exact insC_room w base g n c cs h i hin vg vo m d ds hV (hne hm g rfl _ rfl) hm hr hfit
    · have hieq : i = n := by omega
      subst hieq
      have e1 : cs.take i = cs := List.take_of_length_le (by omega)
      have e2 : cs.drop i = [] := List.drop_of_length_le (by omega)
      rw [e1, e2, List.append_nil]
      have HH := Lib.hid h
      have HV := Lib.hid hV
      have hm0 : ((m : Int) == 0) = false := by rw [beq_eq_false_iff_ne]; omega
      clear h hS hV hne hn hdl e1 e2
      go_enter Tryz.func104, Tryz.ntmps104
      go_wp2_with (at_builtin; refine wpList_append_crs w (by rfl) (.tmp 23) (.tmp 24) (by rfl) base A i c cs (by rfl) HH.out w.heap.size B m d ds (by rfl) HV.out (by omega) hbase ?_)
      intro A2 c2 w2 hO hg hat
      have HO := Lib.hid (show Turned w (.slice A i c) base (i + m) (cs ++ ds) (.returned (.slice A2 (i + m) c2)) w2 from
        ⟨A2, c2, rfl, hO, Tn.grown (Tn.refl _ w) hg (fun k e => Or.inr e), fun g hg2 => hat.elim (fun e => Or.inl (e ▸ hg2)) (fun e => Or.inr (by rw [hg2] at e; cases e; exact Nat.le_refl _))⟩)
      clear hO hg hat
      go_wp2_with fail
      go_ret
      exact HO.out
end Go.Proofs.YtldmnkakpmplnaaGreat
