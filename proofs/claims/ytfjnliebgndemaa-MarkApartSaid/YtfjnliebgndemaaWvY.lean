/-
  slices.Insert at a row of code points of the law's own, whatever room there is. Conditions: the row is one; 0 ≤ i ≤ its length; what is put in lies in another block; both together at most a million.
-/
import Derived.Test.YtfjnliebgndemaaWvX
namespace Go.Proofs.Ytfjnliebgndemaa
open Go.RowKit

set_option maxRecDepth 100000 in
theorem own_hold {w : World} {g n c : Nat} {cs : List Int} {cur : Array Value} (h : Rowc w g n c cs cur) (i k : Nat) (hi : i ≤ n) : (Builtin.firstCells 1 i (.slice (some ⟨g, 0, none⟩) i k)).run Try.prog w = .ok (cellsC (cs.take i)).toArray w :=
  run_firstCells_some w 1 i ⟨g, 0, none⟩ i k (cellsC (cs.take i)) (by have := h.2.2.1; rw [len_cellsC, List.length_take]; omega) (fun j v hj => by
    have hj2 : j < i := by have := (List.getElem?_eq_some_iff.1 hj).1; rw [len_cellsC, List.length_take] at this; omega
    rw [cellsC_at _ j (by have := h.2.2.1; rw [List.length_take]; omega), getD_take cs i j hj2] at hj
    cases hj
    rw [Addr.add_lit, Nat.zero_add]
    exact (cell_of_row w g j _ _ _ h.1).trans (h.2.2.2.2.2.2 j (by omega)))

set_option maxRecDepth 100000 in
set_option maxHeartbeats 1000000 in
/-- a new row -/
theorem insC_grow (w : World) (base g n c : Nat) (cs : List Int) (h : OwnC w base (.slice (some ⟨g, 0, none⟩) n c) cs) (i : Nat) (hi : i < n) (vg vo m d : Nat) (ds : List Int) (hV : Crs w w.heap.size (some ⟨vg, vo, none⟩) m d ds) (hm : 0 < m) (hroom : c < n + m) (hfit : n + m ≤ 1000000) :
    Calls Try.prog 22 #[.slice (some ⟨g, 0, none⟩) n c, .int .i64 (i : Int), .slice (some ⟨vg, vo, none⟩) m d] w (Turned w (.slice (some ⟨g, 0, none⟩) n c) base (n + m) (cs.take i ++ ds ++ cs.drop i)) := by
  obtain ⟨hn, hS⟩ := h.crs
  have hle := hS.le
  obtain ⟨hbg, cur, hR⟩ := OwnC.row h
  have hgw := lt_of_block hR.1
  have hdl := hV.len
  have hvc : ∀ t, t < m → w.cell? ⟨vg, vo + t, none⟩ = some (.int .i32 (ds.getD t 0)) := by
    obtain ⟨g', o', e, _, hc⟩ := hV.at_ (i := 0) hm
    cases e
    exact hc
  have hvw : vg < w.heap.size := World.block_lt_of_cell? w _ (hvc 0 hm)
  obtain ⟨i0, hi0, hz0, hzs, hzb⟩ := info_parts infoChar
  have s1 := slice_fromC' g n c i (by omega) (by omega)
  have s2 := slice_toC (some ⟨g, 0, none⟩) n c i (by omega)
  obtain ⟨H, hH⟩ : ∃ H, H = w.heap.size := ⟨_, rfl⟩
  obtain ⟨G, hG⟩ : ∃ G, G = grownCap w (n + m) c 25 := ⟨_, rfl⟩
  have hGn : n + m ≤ G := by rw [hG]; exact grownCap_ge w _ _ _
  have hGm : G ≤ maxLen := by rw [hG]; exact grownCap_le_maxLen w _ _ _ (by unfold maxLen; omega)
  have hG63 : G ≤ 9223372036854775807 := by unfold maxLen at hGm; omega
  obtain ⟨ROW, hROW⟩ : ∃ ROW : Array Value, ROW = (cellsC (cs.take i)).toArray ++ Builtin.zeroCells (Value.int .i32 0).cells (n + m - i) ++ Builtin.zeroCells (Value.int .i32 0).cells (G - (n + m)) := ⟨_, rfl⟩
  have hRl : ROW.size = G := by
    rw [hROW]
    simp [Builtin.zeroCells, Value.cells, len_cellsC]
    omega
  obtain ⟨W1, hW1⟩ : ∃ W1, W1 = w.drew.alloc (.cells ROW 25) := ⟨_, rfl⟩
  have hrz : ∀ ty, (Builtin.append_ #[24, 3] ty #[.slice (some ⟨g, 0, none⟩) i c, .int .i64 ((n : Int) + (m : Int) - (i : Int))]).run Try.prog w = .ok (.slice (some ⟨H, 0, none⟩) (n + m) G) W1 := fun ty => by
    have hold := own_hold (w := w.drew) (Rowc.drew hR) i c (by omega)
    rw [← hzs] at hold
    have := Lib.run_append_grow_zeros w 24 3 ty 25 i0 _ .i64 .i64 Try.underlying24 Try.underlying3 hi0 hz0 (some ⟨g, 0, none⟩) i c (cellsC (cs.take i)) hold (n + m - i) (by omega) (by omega) (by omega) (by omega) (by rw [hzb]; omega) (by rw [hzb, show i + (n + m - i) = n + m by omega]; exact growslice_fits hroom (by omega))
    rw [show i + (n + m - i) = n + m by omega] at this
    rw [show (n : Int) + (m : Int) - (i : Int) = ((n + m - i : Nat) : Int) by omega, hW1, hROW, hG, hH]
    exact this
  have hq1 : W1.heap[H]? = some (.cells ROW 25 (0, 0)) := by rw [hW1, hH]; exact heap_alloc_new w.drew _
  have hR1 : Rowc W1 H i G (cs.take i) ROW := by
    refine ⟨hq1, hRl, by rw [List.length_take]; omega, by omega, hGm, fun x hx => hS.js x (List.mem_of_mem_take hx), fun t ht => ?_⟩
    have hlt : t < (cellsC (cs.take i)).length := by rw [len_cellsC, List.length_take]; omega
    rw [hROW, Array.append_assoc, Array.getElem?_append_left (by simpa using hlt), List.getElem?_toArray]
    exact cellsC_at _ t (by rw [len_cellsC] at hlt; exact hlt)
  have hb1 : Below w.heap.size w W1 := by rw [hW1]; exact below_alloc (Below.refl _ w).drew _
  have hc1 := copy_run hR1 i (n + m - i) (G - i) ⟨vg, vo, none⟩ m d ds (fun t ht => by
    rw [Addr.add_lit]
    exact (hb1.cell (p := ⟨vg, vo + t, none⟩) hvw).trans (hvc t (by omega))) (by rw [hdl, Nat.min_def]; split <;> omega) (by omega)
  obtain ⟨W2, hW2⟩ : ∃ W2, W2 = W1.setCells H i (cellsC ds) := ⟨_, rfl⟩
  rw [← hW2] at hc1
  have ht0 : Tn (fun b => b = H) w W1 := (Tn.of _ hb1)
  have ht2 : Tn (fun b => b = H) w W2 := by rw [hW2]; exact tn_sets _ w W1 _ ht0
  obtain ⟨Z, hZ⟩ : ∃ Z, Z = cs.take i ++ ds := ⟨_, rfl⟩
  have hZl : Z.length = i + m := by rw [hZ, List.length_append, List.length_take]; omega
  have hZJ : ∀ x ∈ Z, Pl.J x := fun x hx => by
    rw [hZ] at hx
    exact (List.mem_append.1 hx).elim (fun h => hS.js x (List.mem_of_mem_take h)) (fun h => hV.js x h)
  have hZg : ∀ t, Z.getD t 0 = if t < i then (cs.take i).getD t 0 else ds.getD (t - i) 0 := fun t => by
    rw [hZ, getD_app, List.length_take, show min i cs.length = i by omega]
  have hR2 : Rowc W2 H (i + m) G Z (sets ROW i (cellsC ds)) := by
    rw [hW2]
    refine Rowc.sets_ hR1 i (cellsC ds) (by rw [len_cellsC]; omega) (by omega) hZl hZJ (fun t h1 h2 h3 => ?_) (fun t h1 h2 => ?_)
    · rw [len_cellsC] at h3
      rw [cellsC_at ds (t - i) (by omega), hZg, if_neg (by omega)]
    · rw [len_cellsC] at h2
      rw [hZg, if_pos (by omega)]
      exact hR1.2.2.2.2.2.2 t (by omega)
  obtain ⟨X, hX⟩ : ∃ X, X = cs.drop i := ⟨_, rfl⟩
  have hXl : X.length = n - i := by rw [hX, List.length_drop]; omega
  have hXg : ∀ t, X.getD t 0 = cs.getD (i + t) 0 := fun t => by rw [hX]; exact getD_drop cs i t
  have hc2 := copy_run (w := W2.drew) (Rowc.drew hR2) (i + m) (n + m - (i + m)) (G - (i + m)) ⟨g, i, none⟩ (n - i) (c - i) X (fun t ht => by
    rw [Addr.add_lit, hXg]
    exact (ht2.cell (p := ⟨g, i + t, none⟩) hgw (by show ¬ g = H; omega)).trans ((cell_of_row w g (i + t) _ _ _ hR.1).trans (hR.2.2.2.2.2.2 (i + t) (by omega)))) (by rw [hXl, Nat.min_def]; split <;> omega) (by omega)
  obtain ⟨W3, hW3⟩ : ∃ W3, W3 = W2.drew.setCells H (i + m) (cellsC X) := ⟨_, rfl⟩
  rw [← hW3] at hc2
  have ht3 : Tn (fun b => b = H) w W3 := by rw [hW3]; exact tn_sets _ w W2.drew _ ht2.drew
  obtain ⟨Y, hY⟩ : ∃ Y, Y = Z ++ X := ⟨_, rfl⟩
  have hYl : Y.length = n + m := by rw [hY, List.length_append]; omega
  have hYJ : ∀ x ∈ Y, Pl.J x := fun x hx => by
    rw [hY] at hx
    rcases List.mem_append.1 hx with hx | hx
    · exact hZJ x hx
    · rw [hX] at hx; exact hS.js x (List.mem_of_mem_drop hx)
  have hYg : ∀ t, Y.getD t 0 = if t < i + m then Z.getD t 0 else X.getD (t - (i + m)) 0 := fun t => by rw [hY, getD_app, hZl]
  have hR3 : Rowc W3 H (n + m) G Y (sets (sets ROW i (cellsC ds)) (i + m) (cellsC X)) := by
    rw [hW3]
    refine Rowc.sets_ (Rowc.drew hR2) (i + m) (cellsC X) (by rw [len_cellsC]; omega) (by omega) hYl hYJ (fun t h1 h2 h3 => ?_) (fun t h1 h2 => ?_)
    · rw [len_cellsC] at h3
      rw [cellsC_at X (t - (i + m)) (by omega), hYg, if_neg (by omega)]
    · rw [len_cellsC] at h2
      rw [hYg, if_pos (by omega)]
      exact hR2.2.2.2.2.2.2 t (by omega)
  have HO := Lib.hid (show Turned w (.slice (some ⟨g, 0, none⟩) n c) base (n + m) Y (.returned (.slice (some ⟨H, 0, none⟩) (n + m) G)) W3 from
    ⟨some ⟨H, 0, none⟩, G, rfl, Rowc.own hR3 (by omega), ht3.more (fun b hb he => by omega), fun b hb => Or.inr (by cases hb; show w.heap.size ≤ H; omega)⟩)
  rw [← hX, ← hZ, ← hY]
  obtain ⟨xl, hxl⟩ : ∃ k, k = X.length := ⟨_, rfl⟩
  obtain ⟨dl, hdl2⟩ : ∃ k, k = ds.length := ⟨_, rfl⟩
  rw [← hxl] at hc2
  rw [← hdl2] at hc1
  have HC2 := Lib.hid hc2
  have HRZ := Lib.hid hrz
  have hm0 : ((m : Int) == 0) = false := by rw [beq_eq_false_iff_ne]; omega
  have hin : ((i : Int) == (n : Int)) = false := by rw [beq_eq_false_iff_ne]; omega
  have hw1 : IntKind.i64.wrap ((i : Int) + (m : Int)) = (i : Int) + (m : Int) := by rw [IntKind.wrap_i64]; omega
  have hb1 : (0 : Int) ≤ (i : Int) + (m : Int) := by omega
  have hile : i ≤ n := by omega
  have htn : ((i : Int) + (m : Int)).toNat = i + m := by omega
  have hb2 : ¬ (G = i + m) := by omega
  have hb3 : (i : Int) ≤ (n : Int) := by omega
  have hb4 : ¬ (c = i) := by omega
  have s4 := slice_fromC' H (n + m) G i (by omega) (by omega)
  have hb5 : (i : Int) + (m : Int) ≤ (n : Int) + (m : Int) := by omega
  clear hrz hc2 h hn hS hR hdl hV hvc hX hXl hXg hR1 hR2 hR3 hvw hW1 hW2 hW3 ht0 ht2 ht3 hY hYl hYJ hYg hZ hZl hZJ hZg hxl hdl2 hq1 hRl hROW hG hH hgw hbg hi0 hz0 hzs hzb
  go_enter Try.func22, Try.ntmps22
  go_wp2_with (at_builtin; refine Lib.wpList_append_run w (by rfl) (.tmp 34) (.tmp 39) 24 3 (by rfl) (.slice (some ⟨g, 0, none⟩) i c) (.int .i64 ((n : Int) + (m : Int) - (i : Int))) (by rfl) (by rfl) _ _ (HRZ.out _) ?_)
  go_region_law (refine step_copy W2.drew rfl (.tmp 50) (.tmp 53) (by rfl) _ _ (by simp [Act.eval, Act.put]) (by simp [Act.eval, Act.put]) HC2.out ?_)
  go_wp2_with fail
  go_ret
  exact HO.out
set_option maxRecDepth 100000 in
set_option maxHeartbeats 1000000 in
theorem insC_any (w : World) (base : Nat) (A : Option Addr) (n c : Nat) (cs : List Int) (h : OwnC w base (.slice A n c) cs) (hbase : base ≤ w.heap.size) (i : Nat) (hi : i ≤ n) (B : Option Addr) (m d : Nat) (ds : List Int) (hV : Crs w w.heap.size B m d ds)
    (hne : 0 < m → ∀ g, Value.ownBlock (.slice A n c) = some g → ∀ ad, B = some ad → ad.block ≠ g) (hfit : n + m ≤ 1000000) :
    Calls Try.prog 22 #[.slice A n c, .int .i64 (i : Int), .slice B m d] w (Turned w (.slice A n c) base (n + m) (cs.take i ++ ds ++ cs.drop i)) := by
  obtain ⟨hn, hS⟩ := h.crs
  have hle := hS.le
  obtain ⟨v1, s1⟩ := slice_fromV A n c i hi
  have hcap := hS.cap
  unfold maxLen at hcap
  have hdl := hV.len
  rcases Nat.eq_zero_or_pos m with hm | hm
  · subst hm
    have e0 : ds = [] := List.eq_nil_of_length_eq_zero hdl
    rw [e0, List.append_nil, List.take_append_drop, Nat.add_zero]
    have HO := Lib.hid (show Turned w (.slice A n c) base n cs (.returned (.slice A n c)) w from ⟨A, c, rfl, h, Tn.refl _ w, fun g hg => Or.inl hg⟩)
    clear h hS hV hne hn hdl e0
    go_enter Try.func22, Try.ntmps22
    go_wp2_with fail
    go_ret
    exact HO.out
  · rcases Nat.lt_or_ge i n with hin | hin
    · obtain ⟨g, rfl, hbg⟩ := OwnC.pos_ h (by omega)
      obtain ⟨vg, vo, rfl, _, _⟩ := hV.at_ (i := 0) hm
      rcases Nat.lt_or_ge c (n + m) with hr | hr
      · exact insC_grow w base g n c cs h i hin vg vo m d ds hV hm hr hfit
      · exact insC_room w base g n c cs h i hin vg vo m d ds hV (hne hm g rfl _ rfl) hm hr hfit
    · have hieq : i = n := by omega
      subst hieq
      have e1 : cs.take i = cs := List.take_of_length_le (by omega)
      have e2 : cs.drop i = [] := List.drop_of_length_le (by omega)
      rw [e1, e2, List.append_nil]
      have HH := Lib.hid h
      have HV := Lib.hid hV
      have hm0 : ((m : Int) == 0) = false := by rw [beq_eq_false_iff_ne]; omega
      clear h hS hV hne hn hdl e1 e2
      go_enter Try.func22, Try.ntmps22
      go_wp2_with (at_builtin; refine wpList_append_crs w (by rfl) (.tmp 23) (.tmp 24) (by rfl) base A i c cs (by rfl) HH.out w.heap.size B m d ds (by rfl) HV.out (by omega) hbase ?_)
      intro A2 c2 w2 hO hg hat
      have HO := Lib.hid (show Turned w (.slice A i c) base (i + m) (cs ++ ds) (.returned (.slice A2 (i + m) c2)) w2 from
        ⟨A2, c2, rfl, hO, Tn.grown (Tn.refl _ w) hg (fun k e => Or.inr e), fun g hg2 => hat.elim (fun e => Or.inl (e ▸ hg2)) (fun e => Or.inr (by rw [hg2] at e; cases e; exact Nat.le_refl _))⟩)
      clear hO hg hat
      go_wp2_with fail
      go_ret
      exact HO.out
end Go.Proofs.Ytfjnliebgndemaa
