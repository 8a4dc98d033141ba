/-
  Runs in memory; edit.place and edit.at: where a run's unit stands, and which it is. No conditions but those that each states.
-/
import Derived.Test.YthnenmglmebljaaEdB
namespace Go.Proofs.Ythnenmglmebljaa
open Go.RowKit
open Pl (Un)

/-- a run as a value: its chars are a slice of their own -/
structure RnV where
  k : Int
  p : Int
  x : Int
  y : Int
  A : Option Addr
  n : Nat
  c : Nat
  cs : List Int
instance : Inhabited RnV := ⟨⟨0, 0, 0, 0, none, 0, 0, []⟩⟩
instance : Inhabited Pl.Rn := ⟨⟨0, 0, 0, 0, []⟩⟩
/-- what it says -/
def RnV.rn (r : RnV) : Pl.Rn := ⟨r.k, r.p, r.x, r.y, r.cs⟩
def rval (r : RnV) : Value := .agg #[.int .i64 r.k, .int .i64 r.p, .int .u32 r.x, .int .u64 r.y, .slice r.A r.n r.c]
def encR (r : RnV) : List Value := [.int .i64 r.k, .int .i64 r.p, .int .u32 r.x, .int .u64 r.y, .slice r.A r.n r.c]
theorem encR_len (r : RnV) : (encR r).length = 5 := rfl
theorem encR_one (r : RnV) : ∀ v ∈ encR r, v.oneCell' = true := by
  intro v hv
  simp only [encR, List.mem_cons, List.not_mem_nil, or_false] at hv
  rcases hv with rfl | rfl | rfl | rfl | rfl <;> rfl
set_option maxRecDepth 100000 in
theorem infoRn : (Try.prog.info? 49).map (fun i => (i.zero, i.size, i.bytes)) = some (some (.agg #[.int .i64 0, .int .i64 0, .int .u32 0, .int .u64 0, .slice none 0 0]), 5, 56) := by kernel_rfl
abbrev Rnr := Rws encR
abbrev OwnN (w : World) (base : Nat) (v : Value) (l : List RnV) : Prop := OwnR encR 5 49 w base v l
theorem Rnr.at_ {w : World} {B : Nat} {A : Option Addr} {n c : Nat} {l : List RnV} (h : Rnr w B A n c l) {i : Nat} (hi : i < n) :
    ∃ g o, A = some ⟨g, o, none⟩ ∧ g < B ∧ ∀ i, i < n → w.cell? ⟨g, o + i * 5, none⟩ = some (.int .i64 (l.getD i default).k) ∧ w.cell? ⟨g, o + i * 5 + 1, none⟩ = some (.int .i64 (l.getD i default).p) ∧ w.cell? ⟨g, o + i * 5 + 2, none⟩ = some (.int .u32 (l.getD i default).x) ∧
      w.cell? ⟨g, o + i * 5 + 3, none⟩ = some (.int .u64 (l.getD i default).y) ∧ w.cell? ⟨g, o + i * 5 + 4, none⟩ = some (.slice (l.getD i default).A (l.getD i default).n (l.getD i default).c) := by
  obtain ⟨g, o, e, hg, hc⟩ := Rws.at_ encR_len h hi
  exact ⟨g, o, e, hg, fun i hi => ⟨hc i hi 0 _ (by decide) rfl, hc i hi 1 _ (by decide) rfl, hc i hi 2 _ (by decide) rfl, hc i hi 3 _ (by decide) rfl, hc i hi 4 _ (by decide) rfl⟩⟩
/-- runs that can be read -/
def Rns (w : World) (A : Option Addr) (n c : Nat) (L : List RnV) : Prop := Rnr w w.heap.size A n c L ∧ ∀ r ∈ L, Crs w w.heap.size r.A r.n r.c r.cs
theorem Rns.then_ {w w' : World} {A : Option Addr} {n c : Nat} {L : List RnV} (h : Rns w A n c L) (hb : Below w.heap.size w w') : Rns w' A n c L := ⟨Rws.then_ h.1 hb, fun r hr => (h.2 r hr).then_ hb⟩
/-- a run's cells at the head of a block -/
def RAt (w : World) (b : Nat) (r : RnV) : Prop := w.heap[b]? = some (.cells #[.int .i64 r.k, .int .i64 r.p, .int .u32 r.x, .int .u64 r.y, .slice r.A r.n r.c] 49 (0, 0))
section
variable {w w' : World} {b B : Nat} {r : RnV}
theorem RAt.lt (h : RAt w b r) : b < w.heap.size := lt_of_block h
theorem RAt.below (h : RAt w b r) (hb : Below B w w') (hB : b < B) : RAt w' b r := (hb.block b hB).trans h
theorem RAt.then_ (h : RAt w b r) (hb : Below w.heap.size w w') : RAt w' b r := h.below hb h.lt
theorem RAt.cells (h : RAt w b r) : w.cell? ⟨b, 0, none⟩ = some (.int .i64 r.k) ∧ w.cell? ⟨b, 1, none⟩ = some (.int .i64 r.p) ∧ w.cell? ⟨b, 2, none⟩ = some (.int .u32 r.x) ∧ w.cell? ⟨b, 3, none⟩ = some (.int .u64 r.y) ∧ w.cell? ⟨b, 4, none⟩ = some (.slice r.A r.n r.c) := by
  unfold RAt at h
  refine ⟨?_, ?_, ?_, ?_, ?_⟩ <;> (rw [cell_of_row w b _ _ _ _ h]; rfl)
theorem RAt.far (h : RAt w b r) {q : Addr} (hq : b ≠ q.block) (u : Value) : RAt (w.setCell q u) b r := (blk_keep u hq).trans h
theorem rat_new (w : World) (r : RnV) : RAt (w.alloc (.cells #[.int .i64 r.k, .int .i64 r.p, .int .u32 r.x, .int .u64 r.y, .slice r.A r.n r.c] 49)) w.heap.size r := heap_new rfl
end
set_option maxRecDepth 100000 in
set_option maxHeartbeats 400000 in
theorem place_any (r : RnV) (i : Nat) (w : World) :
    Calls Try.prog 32 #[rval r, .int .i64 (i : Int)] w fun e w' => e = .returned (.int .i64 (Pl.posAt r.rn i)) ∧ Below w.heap.size w w' := by
  obtain ⟨k, p, x, y, A, n, c, cs⟩ := r
  obtain ⟨q, hq⟩ : ∃ q, q = Pl.posAt (RnV.rn ⟨k, p, x, y, A, n, c, cs⟩) i := ⟨_, rfl⟩
  rw [← hq]
  have HQ := Lib.hid hq
  clear hq
  unfold rval
  simp only
  go_enter Try.func32, Try.ntmps32
  by_cases h1 : k = 1
  · have HE := Lib.hid (show q = wrap64 (p + (i : Int)) by rw [HQ.out, h1]; rfl)
    subst h1
    go_wp2_with fail
    go_ret
    exact ⟨by rw [HE.out]; rfl, below_box _ _⟩
  · have HE := Lib.hid (show q = p by rw [HQ.out]; exact if_neg h1)
    go_wp2_with fail
    go_ret
    exact ⟨by rw [HE.out]; rfl, below_box _ _⟩
/-- in the last region of at: the run's own cells, its chars, the answer's cells, and all that was there -/
def AtS (w0 : World) (s : Nat) (r : RnV) (k p c x y : Int) (L : Nat → Bool) (w : World) : Prop :=
  RAt w s r ∧ Crs w s r.A r.n r.c r.cs ∧ (L 13 = false → UAt w (s + 1) 0 0 0 0 0) ∧ (L 13 = true → UAt w (s + 1) k p c x y) ∧ Below s w0 w
def AtR (_ : Nat) (_ _ : World) : Prop := True
section
variable {w0 w w' : World} {s i : Nat} {r : RnV} {k p c x y : Int} {L : Nat → Bool}
theorem AtS.next (h : AtS w0 s r k p c x y L w) (hi : i ≠ 13) (hb : Below w.heap.size w w') : AtS w0 s r k p c x y (Rq.up L i) w' := by
  have e : Rq.up L i 13 = L 13 := by simp [Rq.up, hi]
  unfold AtS
  rw [e]
  exact ⟨h.1.then_ hb, h.2.1.below hb (Nat.le_of_lt h.1.lt), fun hL => (h.2.2.1 hL).then_ hb, fun hL => (h.2.2.2.1 hL).then_ hb, h.2.2.2.2.trans (hb.mono (Nat.le_of_lt h.1.lt))⟩
theorem AtS.stay (h : AtS w0 s r k p c x y L w) (hi : i ≠ 13) : AtS w0 s r k p c x y (Rq.up L i) w := h.next hi (Below.refl _ _)
theorem AtS.laid (h : AtS w0 s r k p c x y L w) (hL : L 13 = false) :
    AtS w0 s r k p c x y (Rq.up L 13) (((((w.setCell ⟨s + 1, 0, none⟩ (.int .i64 k)).setCell ⟨s + 1, 1, none⟩ (.int .i64 p)).setCell ⟨s + 1, 2, none⟩ (.int .i32 c)).setCell ⟨s + 1, 3, none⟩ (.int .u32 x)).setCell ⟨s + 1, 4, none⟩ (.int .u64 y)) := by
  have e1 : s ≠ s + 1 := by omega
  have hb : Below s w (((((w.setCell ⟨s + 1, 0, none⟩ (.int .i64 k)).setCell ⟨s + 1, 1, none⟩ (.int .i64 p)).setCell ⟨s + 1, 2, none⟩ (.int .i32 c)).setCell ⟨s + 1, 3, none⟩ (.int .u32 x)).setCell ⟨s + 1, 4, none⟩ (.int .u64 y)) := below_sets (Below.refl _ _) (by omega) _ _ _ _ _
  refine ⟨((((h.1.far e1 _).far e1 _).far e1 _).far e1 _).far e1 _, h.2.1.below hb (Nat.le_refl _), (fun e => by simp [Rq.up] at e), fun _ => (h.2.2.1 hL).sets _ _ _ _ _, h.2.2.2.2.trans hb⟩
end
set_option maxRecDepth 100000 in
set_option maxHeartbeats 400000 in
theorem at_any (r : RnV) (i : Nat) (w : World) (hr : Crs w w.heap.size r.A r.n r.c r.cs) (hi : i < r.n) :
    Calls Try.prog 33 #[rval r, .int .i64 (i : Int)] w fun e w' => e = .returned (uval (Pl.unitAt r.rn i)) ∧ Below w.heap.size w w' := by
  have hcap := hr.cap
  have hle := hr.le
  unfold maxLen at hcap
  have HP := fun w => Lib.hid (place_any r i w)
  obtain ⟨k, p, x, y, A, n, c, cs⟩ := r
  obtain ⟨q, hq⟩ : ∃ q, q = Pl.posAt (RnV.rn ⟨k, p, x, y, A, n, c, cs⟩) i := ⟨_, rfl⟩
  rw [← hq] at HP
  obtain ⟨u, hu⟩ : ∃ u, u = Pl.unitAt (RnV.rn ⟨k, p, x, y, A, n, c, cs⟩) i := ⟨_, rfl⟩
  rw [← hu]
  simp only at hr hi hcap hle
  obtain ⟨V, hV⟩ : ∃ V, V = (w.alloc (.cells #[.int .i64 k, .int .i64 p, .int .u32 x, .int .u64 y, .slice A n c] 49)).alloc (.cells #[.int .i64 0, .int .i64 0, .int .i32 0, .int .u32 0, .int .u64 0] 44) := ⟨_, rfl⟩
  have HBV := Lib.hid (show Below w.heap.size w V by rw [hV]; exact below_alloc (below_box _ _) _)
  have HUV := Lib.hid (show UAt V (w.heap.size + 1) 0 0 0 0 0 from by rw [hV]; exact heap_new (by simp))
  have HRV := Lib.hid (show RAt V w.heap.size ⟨k, p, x, y, A, n, c, cs⟩ from below_old (show Below (w.heap.size + 1) (w.alloc (.cells #[.int .i64 k, .int .i64 p, .int .u32 x, .int .u64 y, .slice A n c] 49)) V from by rw [hV]; have := below_box (w.alloc (.cells #[.int .i64 k, .int .i64 p, .int .u32 x, .int .u64 y, .slice A n c] 49)) (.cells #[.int .i64 0, .int .i64 0, .int .i32 0, .int .u32 0, .int .u64 0] 44); simpa using this) (heap_new rfl) (by omega))
  have HV := Lib.hid hV
  clear hV
  by_cases h0 : k = 0
  · subst h0
    have HU := Lib.hid (show u = ⟨0, 0, 0, x, y⟩ by rw [hu]; rfl)
    rw [HU.out]
    obtain ⟨c0, c1, c2, c3, c4⟩ := HRV.out.cells
    obtain ⟨d0, d1, d2, d3, d4⟩ := HUV.out.cells
    have f2 := fun j => HUV.out.frozen j
    clear HU hu hq HP hr
    unfold rval
    simp only
    go_enter Try.func33, Try.ntmps33
    go_wp2_with fail
    exact bodyPost_ret (results_unit rfl (by rfl) (show UAt _ (w.heap.size + 1) 0 0 0 x y from heap_new (by simp))) rfl ⟨rfl, below_alloc (below_box _ _) _⟩
  · obtain ⟨g, o, rfl, hg, hc⟩ := hr.at_ hi
    have a0 := hc i hi
    obtain ⟨ch, hch⟩ : ∃ ch, ch = cs.getD i 0 := ⟨_, rfl⟩
    rw [← hch] at a0
    have HU := Lib.hid (show u = ⟨k, q, ch, x, y⟩ by rw [hu, hq, hch]; exact if_neg h0)
    rw [HU.out]
    have z0 : (0 : Int) ≤ (i : Int) := by omega
    have z1 : (i : Int) < (n : Int) := by omega
    have hk0 : (k == 0) = false := by simpa using h0
    have HS := Lib.hid (show AtS w w.heap.size ⟨k, p, x, y, some ⟨g, o, none⟩, n, c, cs⟩ k q ch x y (fun _ => false) V.drew from ⟨HRV.out, hr.below (below_drawn HBV.out) (Nat.le_refl _), fun _ => HUV.out, (fun h => by cases h), below_drawn HBV.out⟩)
    have HCC := Lib.hid (show ∀ w1, Crs w1 w.heap.size (some ⟨g, o, none⟩) n c cs → w1.cell? ⟨g, o + i, none⟩ = some (.int .i32 ch) from fun w1 h => by
      obtain ⟨g', o', e, _, hc'⟩ := h.at_ hi
      cases e
      rw [hch]; exact hc' i hi)
    clear hc hu hq hch HU hr a0
    unfold rval at *
    simp only at HP ⊢
    go_enter Try.func33, Try.ntmps33
    go_wp2_with fail
    rw [← HV.out]
    refine Rq.wp_region_inv (AtS w w.heap.size ⟨k, p, x, y, some ⟨g, o, none⟩, n, c, cs⟩ k q ch x y) AtR (Rq.Wd.at [.is (.pointer (some ⟨w.heap.size, 0, none⟩)), .is (.int .i64 k), .is (.agg #[.int .i64 k, .int .i64 p, .int .u32 x, .int .u64 y, .slice (some ⟨g, o, none⟩) n c]), .is (.int .i64 (i : Int)), .is (.int .i64 q), .is (.pointer (some ⟨w.heap.size, 4, none⟩)), .is (.slice (some ⟨g, o, none⟩) n c), .is (.int .i64 (i : Int)), .is (.pointer (some ⟨g, o + i, none⟩)), .is (.int .i32 ch), .is (.pointer (some ⟨w.heap.size, 2, none⟩)), .is (.agg #[.int .u32 x, .int .u64 y]), .is (uval ⟨k, q, ch, x, y⟩), .any]) (by kernel_rfl) (by kernel_rfl) (Rq.Wd.stays _ _ (fun i q hi => (by rcases i with _ | _ | _ | _ | _ | _ | _ | _ | _ | _ | _ | _ | _ | _ | i <;> simp at hi))) (HS.out) ⟨?_, ?_, ?_, ?_, ?_, ?_, ?_, ?_, ?_, ?_, ?_, ?_, ?_, ?_, trivial⟩ ?_
    · intro L a w1 hL hS hb hd
      have e2 := hb 2 (Rq.nw (by decide))
      simp [Act.eval] at e2
      exact Rq.does_pure (Rq.wanted_none rfl) (by simp [execOp, e2, go_sem]) rfl (hS.stay (by decide)) trivial
    · intro L a w1 hL hS hb hd
      have p11 := (hd ⟨0, .data⟩ (by simp) rfl).2 _ _ rfl rfl
      have e11 : a.tmps[11]?.getD undef = (.pointer (some ⟨w.heap.size, 0, none⟩)) := Rq.slot p11
      exact Rq.does_pure (Rq.wanted_none rfl) (by simp [execOp, e11, hS.1.cells.1, go_sem]) rfl (hS.stay (by decide)) trivial
    · intro L a w1 hL hS hb hd
      have e2 := hb 2 (Rq.nw (by decide))
      simp [Act.eval] at e2
      exact Rq.does_pure (Rq.wanted_none rfl) (by simp [execOp, e2, hS.1.cells.1, hS.1.cells.2.1, hS.1.cells.2.2.1, hS.1.cells.2.2.2.1, hS.1.cells.2.2.2.2, go_sem]) rfl (hS.stay (by decide)) trivial
    · intro L a w1 hL hS hb hd
      have e1 := hb 1 (Rq.nw (by decide))
      simp [Act.eval] at e1
      exact Rq.does_pure (Rq.wanted_none rfl) (by simp [execOp, e1, go_sem]) rfl (hS.stay (by decide)) trivial
    · intro L a w1 hL hS hb hd
      have p13 := (hd ⟨2, .data⟩ (by simp) rfl).2 _ _ rfl rfl
      have e13 : a.tmps[13]?.getD undef = (.agg #[.int .i64 k, .int .i64 p, .int .u32 x, .int .u64 y, .slice (some ⟨g, o, none⟩) n c]) := Rq.slot p13
      have p14 := (hd ⟨3, .data⟩ (by simp) rfl).2 _ _ rfl rfl
      have e14 : a.tmps[14]?.getD undef = (.int .i64 (i : Int)) := Rq.slot p14
      refine Rq.does_call (f := 32) (args := #[.agg #[.int .i64 k, .int .i64 p, .int .u32 x, .int .u64 y, .slice (some ⟨g, o, none⟩) n c], .int .i64 (i : Int)]) (Rq.wanted_none rfl) (by simp [e13, e14, go_sem]) ?_
      refine (HP w1).out.mono ?_; rintro e w3 ⟨rfl, hb3⟩; exact ⟨_, rfl, rfl, hS.next (by decide) hb3, trivial⟩
    · intro L a w1 hL hS hb hd
      have e2 := hb 2 (Rq.nw (by decide))
      simp [Act.eval] at e2
      exact Rq.does_pure (Rq.wanted_none rfl) (by simp [execOp, e2, go_sem]) rfl (hS.stay (by decide)) trivial
    · intro L a w1 hL hS hb hd
      have p16 := (hd ⟨5, .data⟩ (by simp) rfl).2 _ _ rfl rfl
      have e16 : a.tmps[16]?.getD undef = (.pointer (some ⟨w.heap.size, 4, none⟩)) := Rq.slot p16
      exact Rq.does_pure (Rq.wanted_none rfl) (by simp [execOp, e16, hS.1.cells.2.2.2.2, go_sem]) rfl (hS.stay (by decide)) trivial
    · intro L a w1 hL hS hb hd
      have e1 := hb 1 (Rq.nw (by decide))
      simp [Act.eval] at e1
      exact Rq.does_pure (Rq.wanted_none rfl) (by simp [execOp, e1, go_sem]) rfl (hS.stay (by decide)) trivial
    · intro L a w1 hL hS hb hd
      have p17 := (hd ⟨6, .data⟩ (by simp) rfl).2 _ _ rfl rfl
      have e17 : a.tmps[17]?.getD undef = (.slice (some ⟨g, o, none⟩) n c) := Rq.slot p17
      have p18 := (hd ⟨7, .data⟩ (by simp) rfl).2 _ _ rfl rfl
      have e18 : a.tmps[18]?.getD undef = (.int .i64 (i : Int)) := Rq.slot p18
      exact Rq.does_pure (Rq.wanted_none rfl) (by simp [execOp, e17, e18, z0, z1, go_sem]) rfl (hS.stay (by decide)) trivial
    · intro L a w1 hL hS hb hd
      have p19 := (hd ⟨8, .data⟩ (by simp) rfl).2 _ _ rfl rfl
      have e19 : a.tmps[19]?.getD undef = (.pointer (some ⟨g, o + i, none⟩)) := Rq.slot p19
      exact Rq.does_pure (Rq.wanted_none rfl) (by simp [execOp, e19, (HCC.out w1 hS.2.1), go_sem]) rfl (hS.stay (by decide)) trivial
    · intro L a w1 hL hS hb hd
      have e2 := hb 2 (Rq.nw (by decide))
      simp [Act.eval] at e2
      exact Rq.does_pure (Rq.wanted_none rfl) (by simp [execOp, e2, go_sem]) rfl (hS.stay (by decide)) trivial
    · intro L a w1 hL hS hb hd
      have p21 := (hd ⟨10, .data⟩ (by simp) rfl).2 _ _ rfl rfl
      have e21 : a.tmps[21]?.getD undef = (.pointer (some ⟨w.heap.size, 2, none⟩)) := Rq.slot p21
      exact Rq.does_pure (Rq.wanted_none rfl) (by simp [execOp, e21, hS.1.cells.2.2.1, hS.1.cells.2.2.2.1, go_sem]) rfl (hS.stay (by decide)) trivial
    · intro L a w1 hL hS hb hd
      have p12 := (hd ⟨1, .data⟩ (by simp) rfl).2 _ _ rfl rfl
      have e12 : a.tmps[12]?.getD undef = (.int .i64 k) := Rq.slot p12
      have p15 := (hd ⟨4, .data⟩ (by simp) rfl).2 _ _ rfl rfl
      have e15 : a.tmps[15]?.getD undef = (.int .i64 q) := Rq.slot p15
      have p20 := (hd ⟨9, .data⟩ (by simp) rfl).2 _ _ rfl rfl
      have e20 : a.tmps[20]?.getD undef = (.int .i32 ch) := Rq.slot p20
      have p22 := (hd ⟨11, .data⟩ (by simp) rfl).2 _ _ rfl rfl
      have e22 : a.tmps[22]?.getD undef = (.agg #[.int .u32 x, .int .u64 y]) := Rq.slot p22
      exact Rq.does_pure (Rq.wanted_none rfl) (by simp [execOp, e12, e15, e20, e22, uval, go_sem]) rfl (hS.stay (by decide)) trivial
    · intro L a w1 hL hS hb hd
      have e4 := hb 4 (Rq.nw (by decide))
      simp [Act.eval] at e4
      have p23 := (hd ⟨12, .data⟩ (by simp) rfl).2 _ _ rfl rfl
      have e23 : a.tmps[23]?.getD undef = (uval ⟨k, q, ch, x, y⟩) := Rq.slot p23
      obtain ⟨d0, d1, d2, d3, d4⟩ := (hS.2.2.1 hL).cells; have f2 := fun j => (hS.2.2.1 hL).frozen j; exact Rq.does_skip rfl (Rq.wanted_none rfl) (by simp [execOp, e4, e23, uval, go_sem, d0, d1, d2, d3, d4, f2]) trivial (hS.laid hL) trivial
    · intro L v w3 hS hall hv
      have HC4 := Lib.hid (hS.2.2.2.1 (hall 13 (by decide)))
      have HW4 := Lib.hid hS.2.2.2.2
      clear hS hall hv
      simp only [Rq.putAll]
      simp only [Act.put, List.setIfInBounds_toArray, List.set_cons_succ, List.set_cons_zero]
      go_wp2_with fail
      exact bodyPost_ret (results_unit rfl (by rfl) HC4.out) rfl ⟨rfl, HW4.out⟩
end Go.Proofs.Ythnenmglmebljaa
