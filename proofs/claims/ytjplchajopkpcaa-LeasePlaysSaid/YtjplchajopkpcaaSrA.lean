/-
  A row of uint32 of the call's own that is being sorted: its words; cmp.Less. Conditions: those that each states.
-/
import Derived.Test.YtjplchajopkpcaaPceM
import Derived.Lib.Hide
import Derived.BigQuiet
import Derived.BigRegion
import Derived.Handy
import Derived.Sort.AssemblyPlain
namespace Go.Proofs.Ytjplchajopkpcaa
open Go.RowKit Go.Sort

/-- a number, as a cell -/
def encU (x : Int) : List Value := [.int .u32 x]
theorem encU_len (x : Int) : (encU x).length = 1 := rfl
theorem encU_one (x : Int) : ∀ u ∈ encU x, u.oneCell' = true := fun u hu => by
  simp only [encU, List.mem_cons, List.not_mem_nil, or_false] at hu
  rw [hu]; rfl
/-- a row that is being sorted: what it holds, what has turned since w0 -/
structure Sr (w0 : World) (base g n c : Nat) (d : Array Int) (w : World) : Prop where
  own : OwnR encU 1 25 w base (.slice (some ⟨g, 0, none⟩) n c) d.toList
  tn : Tn (fun i => i = g) w0 w
section
variable {w0 w w' : World} {base g n c : Nat} {d : Array Int}
theorem Sr.size (h : Sr w0 base g n c d w) : d.size = n := by
  have := (h.own.rws encU_len).1
  simpa using this.symm
theorem Sr.at_ (h : Sr w0 base g n c d w) : base ≤ g ∧ g < w.heap.size := h.own.lt g rfl
theorem getD_of (d : Array Int) {j : Nat} (hj : j < d.size) : d.toList.getD j default = d[j]! := by
  rw [List.getD_eq_getElem?_getD, getElem!_pos d j hj]
  simp [hj]
theorem Sr.cell (h : Sr w0 base g n c d w) {j : Nat} (hj : j < n) : w.cell? ⟨g, j, none⟩ = some (.int .u32 d[j]!) := by
  obtain ⟨g', o, e, _, hc⟩ := Rws.at_ encU_len (h.own.rws encU_len).2 hj
  cases e
  have := hc j hj 0 _ (by decide) rfl
  rw [getD_of d (by rw [h.size]; exact hj)] at this
  simpa using this
theorem Sr.fro (h : Sr w0 base g n c d w) {j : Nat} : w.frozen? ⟨g, j, none⟩ = false := by
  rcases h.own.2 with ⟨e, _⟩ | ⟨g', cap, cur, e, _, hh, _⟩
  · cases e
  · cases e
    exact frozen_of_row w g j _ _ hh
theorem Sr.tn_ (h : Sr w0 base g n c d w) {T : Nat → Prop} (ht : Tn T w w') (hT : ∀ b, b < w0.heap.size → ¬ T b) (hg : ¬ T g) : Sr w0 base g n c d w' :=
  ⟨h.own.tn ht (fun b hb => by cases hb; exact hg), h.tn.trans ht (fun b hb hb2 => absurd hb2 (hT b hb))⟩
theorem Sr.then_ (h : Sr w0 base g n c d w) (hb : Below w.heap.size w w') : Sr w0 base g n c d w' := h.tn_ (Tn.of (fun _ => False) hb) (fun _ _ x => x) (fun x => x)
theorem Sr.drew (h : Sr w0 base g n c d w) : Sr w0 base g n c d w.drew := h.then_ (below_drawn (Below.refl _ w))
theorem Sr.drewN (h : Sr w0 base g n c d w) (q : Nat) : Sr w0 base g n c d (w.drewN q) := h.then_ ⟨rfl, rfl, rfl, Nat.le_refl _, fun _ _ => rfl⟩
theorem Sr.alloc (h : Sr w0 base g n c d w) (o : Obj) : Sr w0 base g n c d (w.alloc o) := h.then_ ((Below.refl _ w).alloc (Nat.le_refl _) o)
theorem Sr.set1 (h : Sr w0 base g n c d w) {i : Nat} (hi : i < n) (x : Int) : Sr w0 base g n c (d.setIfInBounds i x) (w.setCell ⟨g, i, none⟩ (.int .u32 x)) := by
  have hs := h.size
  have h1 := (OwnR.set_ encU_len h.own i 0 (.int .u32 x) (by decide) (d[i]!) x (by rw [getElem!_pos d i (by omega)]; simp [show i < d.size by omega]) rfl).1
  refine ⟨?_, h.tn.set_ (Or.inr rfl) _⟩
  rw [Array.toList_setIfInBounds]
  simpa using h1
theorem Sr.swap (h : Sr w0 base g n c d w) {i j : Nat} (hi : i < n) (hj : j < n) : Sr w0 base g n c (swp d i j) ((w.setCell ⟨g, i, none⟩ (.int .u32 d[j]!)).setCell ⟨g, j, none⟩ (.int .u32 d[i]!)) := (h.set1 hi _).set1 hj _
theorem Sr.cell2 (h : Sr w0 base g n c d w) {i j : Nat} (hj : j < n) (v : Value) : ∃ u, (w.setCell ⟨g, i, none⟩ v).cell? ⟨g, j, none⟩ = some u := by
  by_cases e : i = j
  · subst e; exact ⟨v, World.cell?_setCell_same _ _ _ (h.cell hj)⟩
  · exact ⟨_, (World.cell?_setCell_other _ _ _ _ (by intro e'; simp only [Addr.mk.injEq] at e'; omega)).trans (h.cell hj)⟩
end
theorem quiet_u {P : Program} {f : FuncId} {args : Array Value} {w : World} {n : Nat} {v : Value}
    (h : Calls P f args (w.drewN n) fun e w' => e = .returned v ∧ w' = w.drewN n) : Calls P f args (w.drewN n) fun e w'' => e = .returned v ∧ ∃ m, w'' = w.drewN m :=
  h.mono fun _ _ ⟨he, hm⟩ => ⟨he, n, hm⟩
set_option maxRecDepth 100000 in
theorem isNaN_u (x : Int) (w : World) : Calls Try.prog 56 #[.int .u32 x] w fun e w' => e = .returned (.bool false) ∧ w' = w := by
  have z : (x == x) = true := by simp
  go_enter Try.func56, Try.ntmps56
  go_wp2_with fail
  go_ret
  exact ⟨rfl, rfl⟩
set_option maxRecDepth 100000 in
set_option maxHeartbeats 400000 in
/-- which is less -/
theorem less_u {x y : Int} {r : Bool} (hr : ltInt x y = r) (w : World) : Calls Try.prog 46 #[.int .u32 x, .int .u32 y] w fun e w' => e = .returned (.bool r) ∧ w' = w := by
  have HX := fun w => Lib.hid (isNaN_u x w)
  have hd : decide (x < y) = r := hr
  clear hr
  go_enter Try.func46, Try.ntmps46
  cases r
  · go_wp2_with fail
    refine (HX _).out.mono ?_
    rintro e w' ⟨rfl, rfl⟩
    go_wp2_with fail
    go_ret
    exact ⟨rfl, rfl⟩
  · go_wp2_with fail
    refine (HX _).out.mono ?_
    rintro e w' ⟨rfl, rfl⟩
    go_wp2_with fail
    go_ret
    exact ⟨rfl, rfl⟩
end Go.Proofs.Ytjplchajopkpcaa
