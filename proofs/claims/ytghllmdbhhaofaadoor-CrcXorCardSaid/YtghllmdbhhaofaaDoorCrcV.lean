/-
  Words for worlds in which what was there still reads as it did; a part of bytes from a place on; conversions to strings in such worlds.
-/
import Derived.Test.YtghllmdbhhaofaaDoorCrcW
namespace Go.Proofs.YtghllmdbhhaofaaDoor
open Go.RowKit

/-- every cell below block B reads in w' as in w -/
def Kept (B : Nat) (w w' : World) : Prop := B ≤ w'.heap.size ∧ ∀ p : Addr, p.block < B → w'.cell? p = w.cell? p
theorem Kept.start {B : Nat} {w : World} (h : B ≤ w.heap.size) : Kept B w w.drew := ⟨h, fun _ _ => rfl⟩
theorem Kept.below {B B' : Nat} {w w1 w2 : World} (h : Kept B w w1) (hb : Below B' w1 w2) (hB : B ≤ B') : Kept B w w2 :=
  ⟨Nat.le_trans h.1 hb.size, fun p hp => (hb.cell (Nat.lt_of_lt_of_le hp hB)).trans (h.2 p hp)⟩
theorem Kept.of {B B' : Nat} {w w1 : World} (hb : Below B' w w1) (hB : B ≤ B') (h : B ≤ w.heap.size) : Kept B w w1 :=
  ⟨Nat.le_trans h hb.size, fun _ hp => hb.cell (Nat.lt_of_lt_of_le hp hB)⟩
theorem Kept.alloc {B : Nat} {w w1 : World} (h : Kept B w w1) (o : Obj) : Kept B w (w1.alloc o) := h.below ((Below.refl _ _).alloc h.1 o) (Nat.le_refl _)
theorem below_drew {B : Nat} {w w' : World} (h : Below B w.drew w') : Below B w w' := ⟨h.os, h.tape, h.output, h.size, h.block⟩
theorem below_drawn {B : Nat} {w w' : World} (h : Below B w w') : Below B w w'.drew := ⟨h.os, h.tape, h.output, h.size, h.block⟩
theorem kb {w w' : World} (h : Below w.heap.size w w') : Kept w.heap.size w w' := Kept.of h (Nat.le_refl _) (Nat.le_refl _)
theorem below_alloc {w w1 : World} (h : Below w.heap.size w w1) (o : Obj) : Below w.heap.size w (w1.alloc o) := h.alloc h.size o
theorem below_then {w w1 w2 : World} (h : Below w.heap.size w w1) (hb : Below w1.heap.size w1 w2) : Below w.heap.size w w2 := h.trans (hb.mono h.size)
theorem Bys.kept {w w' : World} {B : Nat} {A : Option Addr} {n c : Nat} {bs : List Nat} (h : Bys w B A n c bs) (hk : Kept B w w') : Bys w' w'.heap.size A n c bs := (h.keep hk.2).more hk.1
theorem Tab.kept {w w' : World} {B : Nat} (h : Tab w) (hB : 0 < B) (hk : Kept B w w') : Tab w' := ⟨Nat.lt_of_lt_of_le hB hk.1, fun i hi => (hk.2 _ hB).trans (h.2 i hi)⟩
theorem Bys.str {w : World} {B : Nat} {A : Option Addr} {n c : Nat} {bs : List Nat} (h : Bys w B A n c bs) (s : ByteArray) (hs : s = strOfNums (ints bs)) :
    ∀ w', Kept B w w' → (convert 23 9 (.slice A n c)).run Tryd.prog w' = .ok (.string s) w' := fun _ hk => by rw [hs]; exact (h.kept hk).conv
/-- a part from a place on, ahead of the last place of its room -/
theorem Bys.from_ {w : World} {B g o n c k : Nat} {bs : List Nat} (h : Bys w B (some ⟨g, o, none⟩) n c bs) (hk : k ≤ n) : Bys w B (some ⟨g, o + k, none⟩) (n - k) (c - k) (bs.drop k) := by
  have hl := h.len
  have hc := h.cap
  have hle := h.le
  refine ⟨by rw [List.length_drop, hl], by omega, Nat.le_trans (Nat.sub_le _ _) hc, (fun e => by cases e), Pl.oct_drop h.oct k, fun h0 => ?_⟩
  obtain ⟨g', o', e, hg, hcell⟩ := h.at_ (i := k) (by omega)
  cases e
  refine ⟨g, o + k, rfl, hg, fun i hi => ?_⟩
  rw [Nat.add_assoc, hcell (k + i) (by omega), List.getD_eq_getElem?_getD, List.getD_eq_getElem?_getD, List.getElem?_drop]
/-- a part from a place on, whatever the room: one run equation under one name -/
theorem Bys.cut {w : World} {B n c k : Nat} {A : Option Addr} {bs : List Nat} (h : Bys w B A n c bs) (hk : k ≤ n) :
    ∃ A2, Bys w B A2 (n - k) (c - k) (bs.drop k) ∧ ∀ w', (Instr.sliceAt 23 (.slice A n c) (some (.int .i64 (k : Int))) none none).run Tryd.prog w' = .ok (.slice A2 (n - k) (c - k)) w' := by
  have hle := h.le
  obtain ⟨i0, hi, _⟩ := info_parts infoByte
  have hu : Tryd.prog.underlying 23 = some (.slice (Tryd.prog.elem 23)) := by rw [Tryd.underlying23]; rfl
  have he : Tryd.prog.elem 23 = 5 := by kernel_rfl
  have hrun : ∀ w', (Instr.sliceAt 23 (.slice A n c) (some (.int .i64 (k : Int))) none none).run Tryd.prog w' = .ok (sliced A k n c 1) w' := by
    intro w'
    rw [run_sliceAt_slice w' _ _ _ _ _ hu, run_slice_l w' 23 A n c hu .i64 (k : Int) (by omega) (by omega), he, run_sizeOf w' hi]
    simp [Result.andThen, cellsByte]
  cases A with
  | none =>
    have hc0 := h.nil_ rfl
    have hc0' : c = 0 := hc0
    refine ⟨none, ?_, fun w' => by rw [hrun]; simp [sliced]⟩
    have hb : bs.drop k = [] := List.drop_of_length_le (by rw [h.len]; omega)
    rw [hb, show n - k = 0 by omega, show c - k = 0 by omega]
    exact Bys.none_ _ _
  | some ad =>
    by_cases hck : c = k
    · refine ⟨some ad, ?_, fun w' => by rw [hrun]; simp [sliced, hck]⟩
      have hb : bs.drop k = [] := List.drop_of_length_le (by rw [h.len]; omega)
      rw [hb, show n - k = 0 by omega, show c - k = 0 by omega]
      exact ⟨rfl, Nat.le_refl _, Nat.zero_le _, (fun e => by cases e), (fun x hx => by cases hx), fun h => absurd h (by omega)⟩
    · refine ⟨some (ad.add k), ?_, fun w' => by rw [hrun]; simp [sliced, hck]⟩
      have hl := h.len
      have hc := h.cap
      refine ⟨by rw [List.length_drop, hl], by omega, Nat.le_trans (Nat.sub_le _ _) hc, (fun e => by cases e), Pl.oct_drop h.oct k, fun h0 => ?_⟩
      obtain ⟨g, o, e, hg, hcell⟩ := h.at_ (i := k) (by omega)
      cases e
      refine ⟨g, o + k, Addr.add_lit g o k ▸ rfl, hg, fun i hi => ?_⟩
      rw [Nat.add_assoc, hcell (k + i) (by omega), List.getD_eq_getElem?_getD, List.getD_eq_getElem?_getD, List.getElem?_drop]
/-- Sum of one row whose slice stands in a cell -/
theorem sum_cell (w : World) (g : Nat) (A : Option Addr) (n c : Nat) (bs : List Nat) (hT : Tab w) (hc : w.cell? ⟨g, 0, none⟩ = some (.slice A n c)) (h : Bys w w.heap.size A n c bs) :
    Calls Tryd.prog 13 #[.slice (some ⟨g, 0, none⟩) 1 1] w fun e w' => e = .returned (.int .u32 ((Pl.sum bs : Nat) : Int)) ∧ w = w' := by
  have := sum_any (some ⟨g, 0, none⟩) 1 1 [bs] w hT ⟨rfl, Nat.le_refl _, by decide, fun _ => ⟨g, 0, rfl, World.block_lt_of_cell? w _ hc, fun i hi => by
    obtain rfl : i = 0 := by omega
    exact ⟨A, n, c, hc, h⟩⟩⟩
  rw [List.flatten_cons, List.flatten_nil, List.append_nil] at this
  exact this
end Go.Proofs.YtghllmdbhhaofaaDoor
