/-
  Words for worlds in which what was there still reads as it did; a part of bytes from a place on; conversions to strings in such worlds.
-/
import Derived.Test.YtghllmdbhhaofaaDoorCrcW
namespace Go.Proofs.YtghllmdbhhaofaaDoor
open Go.RowKit

/-- every cell below block B reads in w' as in w -/
def Kept (B : Nat) (w w' : World) : Prop := B ≤ w'.heap.size ∧ ∀ p : Addr, p.block < B → w'.cell? p = w.cell? p
theorem Kept.start {B : Nat} {w : World} (h : B ≤ w.heap.size) : Kept B w w.drew := ⟨h, fun _ _ => rfl⟩
theorem Kept.below {B B' : Nat} {w w1 w2 : World} (h : Kept B w w1) (hb : Below B' w1 w2) (hB : B ≤ B') : Kept B w w2 :=
  ⟨Nat.le_trans h.1 hb.size, fun p hp => (hb.cell (Nat.lt_of_lt_of_le hp hB)).trans (h.2 p hp)⟩
theorem Kept.of {B B' : Nat} {w w1 : World} (hb : Below B' w w1) (hB : B ≤ B') (h : B ≤ w.heap.size) : Kept B w w1 :=
  ⟨Nat.le_trans h hb.size, fun _ hp => hb.cell (Nat.lt_of_lt_of_le hp hB)⟩
theorem Kept.alloc {B : Nat} {w w1 : World} (h : Kept B w w1) (o : Obj) : Kept B w (w1.alloc o) := h.below ((Below.refl _ _).alloc h.1 o) (Nat.le_refl _)
theorem below_drew {B : Nat} {w w' : World} (h : Below B w.drew w') : Below B w w' := ⟨h.os, h.tape, h.output, h.size, h.block⟩
theorem Bys.kept {w w' : World} {B : Nat} {A : Option Addr} {n c : Nat} {bs : List Nat} (h : Bys w B A n c bs) (hk : Kept B w w') : Bys w' w'.heap.size A n c bs := (h.keep hk.2).more hk.1
theorem Tab.kept {w w' : World} {B : Nat} (h : Tab w) (hB : 0 < B) (hk : Kept B w w') : Tab w' := ⟨Nat.lt_of_lt_of_le hB hk.1, fun i hi => (hk.2 _ hB).trans (h.2 i hi)⟩
theorem Bys.str {w : World} {B : Nat} {A : Option Addr} {n c : Nat} {bs : List Nat} (h : Bys w B A n c bs) (s : ByteArray) (hs : s = strOfNums (ints bs)) :
    ∀ w', Kept B w w' → (convert 23 9 (.slice A n c)).run Tryd.prog w' = .ok (.string s) w' := fun _ hk => by rw [hs]; exact (h.kept hk).conv
/-- a part from a place on, ahead of the last place of its room -/
theorem Bys.from_ {w : World} {B g o n c k : Nat} {bs : List Nat} (h : Bys w B (some ⟨g, o, none⟩) n c bs) (hk : k ≤ n) : Bys w B (some ⟨g, o + k, none⟩) (n - k) (c - k) (bs.drop k) := by
  have hl := h.len
  have hc := h.cap
  have hle := h.le
  refine ⟨by rw [List.length_drop, hl], by omega, Nat.le_trans (Nat.sub_le _ _) hc, (fun e => by cases e), Pl.oct_drop h.oct k, fun h0 => ?_⟩
  obtain ⟨g', o', e, hg, hcell⟩ := h.at_ (i := k) (by omega)
  cases e
  refine ⟨g, o + k, rfl, hg, fun i hi => ?_⟩
  rw [Nat.add_assoc, hcell (k + i) (by omega), List.getD_eq_getElem?_getD, List.getD_eq_getElem?_getD, List.getElem?_drop]
end Go.Proofs.YtghllmdbhhaofaaDoor
