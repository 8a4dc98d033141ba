/-
  A document in plain words: what DocUndoes looks at, from the new document on. No conditions but those that each states.
  A law's own document, rows and texts that it keeps while the document goes on. No conditions but those that each states.
-/
import Derived.Test.YtldmnkakpmplnaaGreatUd48
import Derived.Test.YtldmnkakpmplnaaGreatUd49
import Derived.Test.YtldmnkakpmplnaaGreatUd47
set_option maxRecDepth 100000
set_option linter.unusedVariables false
namespace Go.Proofs.YtldmnkakpmplnaaGreat
open Go.RowKit
open Pl (Un)
namespace Pl
def firstL (n : Nat) : List Un := (List.range n).map fun i : Nat => ⟨1, (i : Int), 1000 + (i : Int), 3, 1⟩
theorem first_len (n : Nat) : (firstL n).length = n := by simp [firstL]
theorem first_succ (n : Nat) : firstL (n + 1) = firstL n ++ [⟨1, (n : Int), 1000 + (n : Int), 3, 1⟩] := by unfold firstL; rw [List.range_succ, List.map_append]; rfl
theorem first_mem {n : Nat} {u : Un} (h : u ∈ firstL n) : ∃ i, i < n ∧ u = ⟨1, (i : Int), 1000 + (i : Int), 3, 1⟩ := by
  obtain ⟨i, hi, rfl⟩ := List.mem_map.1 h
  exact ⟨i, List.mem_range.1 hi, rfl⟩
theorem first_fit : ∀ n : Nat, n ≤ 1000 → FitR (firstL n) [] ∧ leave (firstL n) [] = numL n
  | 0, _ => ⟨trivial, rfl⟩
  | n + 1, h => by
    obtain ⟨h1, h2⟩ := first_fit n (by omega)
    rw [first_succ, fitR_append, leave_append, h2, num_succ]
    refine ⟨⟨h1, fit_ins 3 1 (by rw [num_len]; exact Nat.le_refl _) (by unfold May; omega), trivial⟩, ?_⟩
    simp only [leave]
    rw [behind_ins]
    unfold insL
    rw [List.take_of_length_le (by rw [num_len]; exact Nat.le_refl _), List.drop_eq_nil_of_le (by rw [num_len]; exact Nat.le_refl _)]
theorem first_okay : ∀ {l : List Un} {cs : List Int}, FitR l cs → ∀ u ∈ l, Okay u
  | [], _, _, u, hu => by cases hu
  | v :: l, cs, h, u, hu => by
    rcases List.mem_cons.1 hu with rfl | hu
    · exact h.1.1
    · exact first_okay h.2 u hu
namespace Dc
def opn : Nat → Dc
  | 0 => zero
  | j + 1 => ((opn j).open_ ((j : Int) + 1) 0 0).1
theorem opn_e {j : Nat} (h : j < 3) : ((opn j).open_ ((j : Int) + 1) 0 0).2.e = 0 := by
  match j, h with
  | 0, _ => decide +kernel
  | 1, _ => decide +kernel
  | 2, _ => decide +kernel
theorem opn_t {j : Nat} (h : j ≤ 3) : (opn j).t = j := by
  match j, h with
  | 0, _ => decide +kernel
  | 1, _ => decide +kernel
  | 2, _ => decide +kernel
  | 3, _ => decide +kernel
theorem opn_ok {j : Nat} (h : j ≤ 3) : Ok (opn j) := by
  induction j with
  | zero => exact ok_zero
  | succ j ih => exact ok_open (ih (by omega)) (by omega) (by omega) 0
theorem opn_st : St (opn 3) [] [] := by
  refine ⟨opn_ok (by omega), ?_, by decide +kernel, ?_, by decide +kernel⟩
  · rintro c (rfl | rfl | rfl) <;> decide +kernel
  · have : (opn 3).P.length = 0 := by decide +kernel
    exact List.length_eq_zero_iff.1 this
theorem t_at (d : Dc) (c t : Int) (f : Dc → Dc × An) (hf : ∀ z, (f z).1.t = z.t) : (d.at_ c t f).1.t ≤ d.t + 1 := by
  unfold at_ call
  split
  · exact Nat.le_succ _
  · dsimp only
    split
    · split
      · show (f (d.touched t)).1.t ≤ _
        rw [hf]; exact Nat.le_refl _
      · rw [hf]; exact Nat.le_refl _
    · exact Nat.le_refl _
theorem t_edit (d : Dc) (x y : Int) (base : Nat) (row : List Un) (t : Int) : (d.edit x y base row t).1.t ≤ d.t + 1 := by
  unfold edit
  refine t_at d x t _ fun z => ?_
  split <;> rfl
theorem t_undo (d : Dc) (x y : Int) (rev : Nat) (t : Int) : (d.undo x y rev t).1.t ≤ d.t + 1 := by
  unfold undo
  refine t_at d x t _ fun z => ?_
  split <;> rfl
theorem opn_first {K : Nat} (hK : K ≤ 30) : ∃ d1 : Dc, ((opn 3).edit 3 1 0 (firstL K) 0).2.e = 0 ∧ ((opn 3).edit 3 1 0 (firstL K) 0).1 = d1 ∧ (∃ P0, P0.length = 1 ∧ St d1 P0 (numL K)) ∧ d1.t ≤ 4 := by
  obtain ⟨hf, hl⟩ := first_fit K (by omega)
  have h := opn_st.edit (x := 3) (y := 1) (.inr (.inr rfl)) (row := firstL K) (fun u hu => by
      refine ⟨first_okay hf u hu, ?_⟩
      obtain ⟨i, _, rfl⟩ := first_mem hu
      exact ⟨rfl, rfl⟩) (fun u hu => by
      obtain ⟨i, _, rfl⟩ := first_mem hu
      exact (by decide : (1 : Int) ≠ 0)) (by rw [first_len]; omega) hf (by rw [hl, num_len]; omega) (by show 0 < 256; decide)
  rw [hl] at h
  refine ⟨_, h.1, rfl, ⟨_, rfl, h.2⟩, ?_⟩
  have := t_edit (opn 3) 3 1 0 (firstL K) 0
  have := opn_t (j := 3) (by omega)
  omega
theorem und_a {d1 : Dc} {T : List Int} {A : List Un} {P0 : List Op} (h : St d1 P0 T) (h0 : P0.length = 1) (hTn : T.length ≤ 30) (hA : ∀ u ∈ A, Okay u ∧ u.x = 1 ∧ u.y = 1) (hAk : ∀ u ∈ A, u.k ≠ 0) (hAn : A.length ≤ 12) (hAf : FitR A T) :
    ∃ d2 : Dc, (d1.edit 1 1 1 A 0).2.e = 0 ∧ (d1.edit 1 1 1 A 0).1 = d2 ∧ d2.cs = leave A T ∧ d2.t ≤ d1.t + 1 := by
  have lA := len_leave_le hAf
  have e := h.edit (x := 1) (y := 1) (.inl rfl) hA hAk (by omega) hAf (by omega) (by omega)
  rw [h0] at e
  exact ⟨_, e.1, rfl, e.2.cs, t_edit _ _ _ _ _ _⟩
theorem und_b {d1 d2 : Dc} {T Z : List Int} {A B R : List Un} {P0 : List Op} (h : St d1 P0 T) (h0 : P0.length = 1) (hT : ∀ c ∈ T, 1000 ≤ c ∧ c < 2000) (hT1 : T.Nodup) (hTn : T.length ≤ 30)
    (hA : ∀ u ∈ A, Okay u ∧ u.x = 1 ∧ u.y = 1) (hAk : ∀ u ∈ A, u.k ≠ 0) (hAn : A.length ≤ 12) (hAf : FitR A T) (hAb : Brings R2 A)
    (hB : ∀ u ∈ B, Okay u ∧ u.x = 2 ∧ u.y = 1) (hBk : ∀ u ∈ B, u.k ≠ 0) (hBn : B.length ≤ 12) (hBf : FitR B (leave A T)) (hBb : Brings (fun c => 3000 ≤ c) B)
    (hd2 : (d1.edit 1 1 1 A 0).1 = d2) (hZ : Z = leave B (leave A T)) (hR : R = backR 1 2 (fillL A T) [B]) :
    ∃ d3 d4 d5 : Dc, (d2.edit 2 1 2 B 0).2.e = 0 ∧ (d2.edit 2 1 2 B 0).1 = d3 ∧ d3.cs = Z ∧ d3.t ≤ d2.t + 1 ∧
      d3.undo 2 2 2 0 = (d3.touched 0, fails 33) ∧ (((d3.touched 0).undo 1 2 2 0).2.e = 0 ∧ ((d3.touched 0).undo 1 2 2 0).1 = d4) ∧ FitR R Z ∧ d4.cs = leave R Z ∧ (∀ c ∈ leave R Z, ¬ R2 c) ∧ d4.t ≤ d2.t + 3 ∧
      d4.undo 1 3 2 0 = (d4.touched 0, fails 34) ∧ (((d4.touched 0).undo 1 4 4 0).2.e = 0 ∧ ((d4.touched 0).undo 1 4 4 0).1 = d5) ∧ d5.cs = Z ∧ R.length ≤ 12 ∧ Z.length ≤ 60 ∧ (leave R Z).length ≤ 100 := by
  obtain ⟨x2, d3, d4, d5, e1, e2, e3, e4, f1, f2, f3, f4, g1, g2, g3, g4, g5, g6, g7, i1, j1, j2, j3, j4⟩ := both_undone h h0 hT hT1 hTn hA hAk hAn hAf hAb hB hBk hBn hBf hBb
  obtain rfl : x2 = d2 := e2.symm.trans hd2
  subst hZ hR
  have lA := len_leave_le hAf
  have lB := len_leave_le hBf
  have lR := len_leave_le g4
  have hRn : (backR 1 2 (fillL A T) [B]).length ≤ 12 := Nat.le_trans (back_len _ _ _ _) (by rw [fill_len]; exact hAn)
  have t3 : d3.t ≤ x2.t + 1 := by rw [← f2]; exact t_edit _ _ _ _ _ _
  have t4 : d4.t ≤ d3.t + 2 := by rw [← g3]; exact t_undo _ _ _ _ _
  exact ⟨d3, d4, d5, f1, f2, f3, t3, g1, ⟨g2, g3⟩, g4, g5, (fun c hc => g7 c (by rw [g5]; exact hc)), by omega, i1, ⟨j1, j2⟩, j3, hRn, by omega, by omega⟩
end Dc
end Pl
end Go.Proofs.YtldmnkakpmplnaaGreat
namespace Go.Proofs.YtldmnkakpmplnaaGreat
open Go.RowKit
open Pl (Un)
structure DocW (W w : World) (D : Nat) (k : Nat → Nat) (d : Pl.Dc) (M : Nat) : Prop where
  at_ : ∃ m, m ≤ M ∧ DocAt w D k d m
  new : ∀ b, k b ≠ 0 → W.heap.size ≤ b
  below : Below W.heap.size W w
structure KpU (w : World) (k : Nat → Nat) (A : Option Addr) (n c : Nat) (l : List Un) : Prop where
  uns : Uns w w.heap.size A n c l
  off : Apart (fun b => k b ≠ 0) A n
structure KpC (w : World) (k : Nat → Nat) (A : Option Addr) (n c : Nat) (cs : List Int) : Prop where
  crs : Crs w w.heap.size A n c cs
  off : Apart (fun b => k b ≠ 0) A n
section
variable {W w w' : World} {D M m : Nat} {k k' : Nat → Nat} {d d' : Pl.Dc} {A : Option Addr} {n c : Nat} {l : List Un} {cs : List Int} {v : Value}
theorem DocW.lt (h : DocW W w D k d M) : ∀ b, k b ≠ 0 → b < w.heap.size := by
  obtain ⟨m, _, h1⟩ := h.at_
  exact h1.lt
theorem DocW.then_ (h : DocW W w D k d M) (hb : Below w.heap.size w w') : DocW W w' D k d M := by
  obtain ⟨m, h0, h1⟩ := h.at_
  exact ⟨⟨m, h0, h1.then_ hb⟩, h.new, h.below.trans (hb.mono h.below.size)⟩
theorem DocW.more {M' : Nat} (h : DocW W w D k d M) (hm : M ≤ M') : DocW W w D k d M' := by
  obtain ⟨m, h0, h1⟩ := h.at_
  exact ⟨⟨m, Nat.le_trans h0 hm, h1⟩, h.new, h.below⟩
theorem DocW.text (h : DocW W w D k d M) : Calls Tryz.prog 25 #[.pointer (some ⟨D, 0, none⟩)] w (RetC w d.cs) := by
  obtain ⟨m, h0, h1⟩ := h.at_
  exact h1.text
theorem DocW.mv (h : DocW W w D k d M) (hm : ∃ m m', m ≤ M ∧ m' ≤ m + 256 ∧ DocAt w' D k' d' m') (hv : Mv k w k' w') : DocW W w' D k' d' (M + 256) := by
  obtain ⟨m, m', h0, h1, h2⟩ := hm
  refine ⟨⟨m', by omega, h2⟩, fun b hb => ?_, ?_⟩
  · rcases Nat.lt_or_ge b w.heap.size with hlt | hge
    · rw [hv.eq b hlt] at hb; exact h.new b hb
    · exact Nat.le_trans h.below.size hge
  · exact hv.tn.below h.below h.below.size fun b hb => h.new b hb
theorem KpU.then_ (h : KpU w k A n c l) (hb : Below w.heap.size w w') : KpU w' k A n c l := ⟨Rws.then_ h.uns hb, h.off⟩
theorem KpU.mv (h : KpU w k A n c l) (hv : Mv k w k' w') : KpU w' k' A n c l :=
  ⟨Rws.tn h.uns hv.tn h.off, fun h0 ad e hn => by
    have hlt : ad.block < w.heap.size := Rws.in_ h.uns h0 ad e
    replace hn : k' ad.block ≠ 0 := hn
    rw [hv.eq _ hlt] at hn
    exact h.off h0 ad e hn⟩
theorem KpC.then_ (h : KpC w k A n c cs) (hb : Below w.heap.size w w') : KpC w' k A n c cs := ⟨h.crs.then_ hb, h.off⟩
theorem KpC.mv (h : KpC w k A n c cs) (hv : Mv k w k' w') : KpC w' k' A n c cs := by
  have h1 := h.crs
  refine ⟨⟨h1.1, h1.2.1, h1.2.2.1, h1.2.2.2.1, h1.2.2.2.2.1, fun hn => ?_⟩, fun h0 ad e hn => ?_⟩
  · obtain ⟨g, o, e, hg, hc⟩ := h1.2.2.2.2.2 hn
    exact ⟨g, o, e, Nat.lt_of_lt_of_le hg hv.tn.size, fun i hi => (hv.tn.cell (p := ⟨g, o + i, none⟩) hg (h.off hn ⟨g, o, none⟩ e)).trans (hc i hi)⟩
  · obtain ⟨g, o, e2, hg, _⟩ := h1.2.2.2.2.2 h0
    rw [e] at e2; cases e2
    replace hn : k' g ≠ 0 := hn
    rw [hv.eq _ hg] at hn
    exact h.off h0 _ e hn
theorem off_new {B : Nat} (hk : ∀ b, k b ≠ 0 → b < B) (h : ∀ g, Value.ownBlock (.slice A n c) = some g → B ≤ g) (hA : ∀ ad, A = some ad → Value.ownBlock (.slice A n c) = some ad.block) : Apart (fun b => k b ≠ 0) A n := fun _ ad e hn => by
  have h1 := h _ (hA ad e)
  have h2 := hk _ hn
  omega
theorem KpU.new {B : Nat} (hk : ∀ b, k b ≠ 0 → b < B) (ho : OwnU w B (.slice A n c) l) : KpU w k A n c l :=
  ⟨OwnU.uns ho, off_new hk (fun g hg => (ho.lt g hg).1) fun ad e => by subst e; rfl⟩
theorem KpC.new {B : Nat} (hk : ∀ b, k b ≠ 0 → b < B) (ho : OwnC w B (.slice A n c) cs) : KpC w k A n c cs :=
  ⟨ho.crs.2, off_new hk (fun g hg => (ho.lt g hg).1) fun ad e => by subst e; rfl⟩
end
theorem field_err (e : Int) (r0 r1 r2 r3 r4 r5 : Value) : ∀ w', (Instr.field 37 (.agg #[.int .i64 e, r0, r1, r2, r3, r4, r5]) 0).run Tryz.prog w' = .ok (.int .i64 e) w' := fun w' => by
  first | rfl | simp [go_sem, Tryz.underlying37] | simp [go_sem]
def KpX (w : World) (b : Nat) (e : Int) : Prop := w.cell? ⟨b, 0, none⟩ = some (.int .i64 e) ∧ b < w.heap.size
theorem KpX.then_ {w w' : World} {b : Nat} {e : Int} (h : KpX w b e) (hb : Below w.heap.size w w') : KpX w' b e := ⟨(hb.cell (p := ⟨b, 0, none⟩) h.2).trans h.1, Nat.lt_of_lt_of_le h.2 hb.size⟩
theorem KpX.new (w : World) (e : Int) (r : List Value) (t : TypeId) : KpX (w.alloc (.cells (.int .i64 e :: r).toArray t)) w.heap.size e := ⟨cell0 (heap_alloc_new w _), by simp⟩
def DocX (W w : World) (D : Nat) (k : Nat → Nat) (d' : Pl.Dc) (M : Nat) (e : Int) (E : Ending) (w' : World) : Prop :=
  ∃ k' rev b A n c A2 n2 c2 A3 n3 c3, E = .returned (aval e rev b A n c A2 n2 c2 A3 n3 c3) ∧ DocW W w' D k' d' (M + 256) ∧ Mv k w k' w'
section
variable {W w w' : World} {D M m : Nat} {k k' : Nat → Nat} {d d' : Pl.Dc}
theorem docx_of (h : DocW W w D k d M) {dd : Pl.Dc × Pl.An} {E : Ending} {m : Nat} (hm : m ≤ M) {w' : World} (hp : DocP w D k m dd E w') : DocX W w D k dd.1 M dd.2.e E w' := by
  obtain ⟨k', m', v, rfl, hd, hm', hv, A, n, c, A2, n2, c2, A3, n3, c3, rfl, _⟩ := hp
  exact ⟨k', _, _, A, n, c, A2, n2, c2, A3, n3, c3, rfl, h.mv ⟨m, m', hm, hm', hd⟩ hv, hv⟩
theorem openX (h : DocW W w D k d M) {c : Int} (hc : 0 ≤ c ∧ c < 4294967296) (rev : Nat) (hrev : rev ≤ 18446744073709551615) (now : Int) (h0 : 0 ≤ now) (hnow : now ≤ 1099511627776) (ht : d.t + 1 < 18446744073709551616) {e : Int} (he : (d.open_ c rev now).2.e = e) {d' : Pl.Dc} (hd : (d.open_ c rev now).1 = d') :
    Calls Tryz.prog 15 #[.pointer (some ⟨D, 0, none⟩), .int .u32 c, .int .u64 (rev : Int), .int .u64 now] w (DocX W w D k d' M e) := by
  obtain ⟨m, hm, h1⟩ := h.at_
  subst he hd
  exact (open_any h1 hc rev hrev now h0 hnow ht).mono fun E w' hp => docx_of h hm hp
theorem editX (h : DocW W w D k d M) {x y : Int} (hx : 0 ≤ x ∧ x < 4294967296) (base : Nat) (hbase : base ≤ 18446744073709551615) {A0 : Option Addr} {n0 c0 : Nat} {row : List Un} (hu : KpU w k A0 n0 c0 row) (hn0 : n0 ≤ 1000) (now : Int) (h0 : 0 ≤ now) (hnow : now ≤ 1099511627776) (ht : d.t + 1 < 18446744073709551616) (hM : M + 256 ≤ 1073741824) {e : Int} (he : (d.edit x y base row now).2.e = e) {d' : Pl.Dc} (hd : (d.edit x y base row now).1 = d') :
    Calls Tryz.prog 16 #[.pointer (some ⟨D, 0, none⟩), .agg #[.int .u32 x, .int .u64 y], .int .u64 (base : Int), .slice A0 n0 c0, .int .u64 now] w (DocX W w D k d' M e) := by
  obtain ⟨m, hm, h1⟩ := h.at_
  subst he hd
  exact (edit_any h1 hx base hbase A0 n0 c0 row hu.uns hu.off hn0 now h0 hnow ht (by omega)).mono fun E w' hp => docx_of h hm hp
theorem undoX (h : DocW W w D k d M) {x y : Int} (hx : 0 ≤ x ∧ x < 4294967296) (rev : Nat) (hrev : rev ≤ 18446744073709551615) (now : Int) (h0 : 0 ≤ now) (hnow : now ≤ 1099511627776) (ht : d.t + 1 < 18446744073709551616) (hM : M + 256 ≤ 1073741824) {e : Int} (he : (d.undo x y rev now).2.e = e) {d' : Pl.Dc} (hd : (d.undo x y rev now).1 = d') :
    Calls Tryz.prog 39 #[.pointer (some ⟨D, 0, none⟩), .agg #[.int .u32 x, .int .u64 y], .int .u64 (rev : Int), .int .u64 now] w (DocX W w D k d' M e) := by
  obtain ⟨m, hm, h1⟩ := h.at_
  subst he hd
  exact (undo_any h1 hx rev hrev now h0 hnow ht (by omega)).mono fun E w' hp => docx_of h hm hp
end
end Go.Proofs.YtldmnkakpmplnaaGreat
