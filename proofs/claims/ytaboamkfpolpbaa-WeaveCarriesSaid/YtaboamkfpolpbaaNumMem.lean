/-
  Words for slices of bytes in memory: 'Bys': a slice value (nil let in) that reads as a list of bytes; 'Own': a slice at the head of a block of its own; and what keeps them. No conditions but those that each lemma states.
-/
import Derived.Test.YtaboamkfpolpbaaNumPlain
import Derived.WalkKit
import Derived.Below
import Derived.Laws.OwnMore
import Derived.Deep.Draws
import Derived.OwnWalk
import Derived.OpenShut
namespace Go.Proofs.Ytaboamkfpolpbaa.Wi
open Go.RowKit

/-- the cells of bytes -/
def cellsOf (bs : List Nat) : List Value := bs.map fun x : Nat => Value.int .u8 (x : Int)

/-- the slice value '.slice A n c' reads as the bytes bs, below block B -/
def Bys (w : World) (B : Nat) (A : Option Addr) (n c : Nat) (bs : List Nat) : Prop :=
  bs.length = n ∧ n ≤ c ∧ c ≤ maxLen ∧ (A = none → c = 0) ∧ Pl.Oct bs ∧
    (0 < n → ∃ g o, A = some ⟨g, o, none⟩ ∧ g < B ∧ ∀ i, i < n → w.cell? ⟨g, o + i, none⟩ = some (.int .u8 ((bs.getD i 0 : Nat) : Int)))

/-- the bytes bs stand at the head of block g, which is not older than base, with room for cap -/
def Own (w : World) (base g cap : Nat) (bs : List Nat) : Prop :=
  w.ownsRow base 5 1 (.slice (some ⟨g, 0, none⟩) bs.length cap) bs.length (cellsOf bs) ∧ Pl.Oct bs

set_option maxRecDepth 100000 in
theorem len_cells (bs : List Nat) : (cellsOf bs).length = bs.length := by simp [cellsOf]
set_option maxRecDepth 100000 in
theorem cells_append (a b : List Nat) : cellsOf (a ++ b) = cellsOf a ++ cellsOf b := by simp [cellsOf]
set_option maxRecDepth 100000 in
theorem cells_at (bs : List Nat) (i : Nat) (h : i < bs.length) : (cellsOf bs)[i]? = some (.int .u8 ((bs.getD i 0 : Nat) : Int)) := by
  simp [cellsOf, List.getElem?_map, List.getElem?_eq_getElem h, List.getD_eq_getElem?_getD]
set_option maxRecDepth 100000 in
theorem cells_set (bs : List Nat) (i x : Nat) : cellsOf (bs.set i x) = (cellsOf bs).set i (.int .u8 (x : Int)) := by simp [cellsOf]
set_option maxRecDepth 100000 in
theorem cells_one (bs : List Nat) : ∀ u ∈ cellsOf bs, u.oneCell' = true := by
  intro u hu
  obtain ⟨x, _, rfl⟩ := List.mem_map.1 hu
  rfl

section
variable {w w' : World} {B B' : Nat} {A : Option Addr} {n c : Nat} {bs : List Nat}
set_option maxRecDepth 100000 in
theorem Bys.none_ (w : World) (B : Nat) : Bys w B none 0 0 [] := ⟨rfl, Nat.le_refl _, Nat.zero_le _, fun _ => rfl, (fun x hx => by cases hx), fun h => absurd h (by omega)⟩
set_option maxRecDepth 100000 in
theorem Bys.len (h : Bys w B A n c bs) : bs.length = n := h.1
set_option maxRecDepth 100000 in
theorem Bys.le (h : Bys w B A n c bs) : n ≤ c := h.2.1
set_option maxRecDepth 100000 in
theorem Bys.cap (h : Bys w B A n c bs) : c ≤ maxLen := h.2.2.1
set_option maxRecDepth 100000 in
theorem Bys.nil_ (h : Bys w B A n c bs) : A = none → c = 0 := h.2.2.2.1
set_option maxRecDepth 100000 in
theorem Bys.oct (h : Bys w B A n c bs) : Pl.Oct bs := h.2.2.2.2.1
set_option maxRecDepth 100000 in
theorem Bys.at_ (h : Bys w B A n c bs) {i : Nat} (hi : i < n) : ∃ g o, A = some ⟨g, o, none⟩ ∧ g < B ∧ ∀ i, i < n → w.cell? ⟨g, o + i, none⟩ = some (.int .u8 ((bs.getD i 0 : Nat) : Int)) := h.2.2.2.2.2 (by omega)
set_option maxRecDepth 100000 in
theorem Bys.more (h : Bys w B A n c bs) (hB : B ≤ B') : Bys w B' A n c bs :=
  ⟨h.1, h.2.1, h.2.2.1, h.2.2.2.1, h.2.2.2.2.1, fun hn => by
    obtain ⟨g, o, e, hg, hc⟩ := h.2.2.2.2.2 hn
    exact ⟨g, o, e, by omega, hc⟩⟩
set_option maxRecDepth 100000 in
theorem Bys.keep (h : Bys w B A n c bs) (hk : ∀ p : Addr, p.block < B → w'.cell? p = w.cell? p) : Bys w' B A n c bs :=
  ⟨h.1, h.2.1, h.2.2.1, h.2.2.2.1, h.2.2.2.2.1, fun hn => by
    obtain ⟨g, o, e, hg, hc⟩ := h.2.2.2.2.2 hn
    exact ⟨g, o, e, hg, fun i hi => (hk ⟨g, o + i, none⟩ hg).trans (hc i hi)⟩⟩
set_option maxRecDepth 100000 in
theorem Bys.below (h : Bys w B A n c bs) (hb : Below B' w w') (hB : B ≤ B') : Bys w' B A n c bs := h.keep fun _ hp => hb.cell (Nat.lt_of_lt_of_le hp hB)
set_option maxRecDepth 100000 in
theorem Bys.lt (h : Bys w B A n c bs) : Bys w w.heap.size A n c bs :=
  ⟨h.1, h.2.1, h.2.2.1, h.2.2.2.1, h.2.2.2.2.1, fun hn => by
    obtain ⟨g, o, e, _, hc⟩ := h.2.2.2.2.2 hn
    exact ⟨g, o, e, World.block_lt_of_cell? w ⟨g, o + 0, none⟩ (hc 0 hn), hc⟩⟩
set_option maxRecDepth 100000 in
/-- what an append asks of its source -/
theorem Bys.src (h : Bys w B A n c bs) : (A = none → n = 0 ∧ c = 0) ∧ (∀ ad, A = some ad → ∀ j u, (cellsOf bs)[j]? = some u → w.cell? (ad.add j) = some u) := by
  refine ⟨fun e => ?_, fun ad e j u hu => ?_⟩
  · have := h.nil_ e; have := h.le; omega
  · have hj : j < bs.length := by
      have := (List.getElem?_eq_some_iff.1 hu).1
      simpa [cellsOf] using this
    have hl := h.len
    obtain ⟨g, o, e', _, hc⟩ := h.at_ (i := j) (by omega)
    rw [e] at e'
    obtain rfl := Option.some.inj e'
    rw [Addr.add_lit, hc j (by omega), ← cells_at bs j hj, hu]
set_option maxRecDepth 100000 in
/-- a part from the beginning on -/
theorem Bys.upto (h : Bys w B A n c bs) {k : Nat} (hk : k ≤ n) : Bys w B A k c (bs.take k) := by
  have hl := h.len
  refine ⟨by rw [List.length_take]; omega, Nat.le_trans hk h.le, h.cap, h.nil_, Pl.oct_take h.oct k, fun h0 => ?_⟩
  obtain ⟨g, o, e, hg, hc⟩ := h.at_ (i := 0) (by omega)
  refine ⟨g, o, e, hg, fun i hi => ?_⟩
  rw [hc i (by omega), List.getD_eq_getElem?_getD, List.getD_eq_getElem?_getD, List.getElem?_take, if_pos hi]
end

section
variable {w w' : World} {base g cap B : Nat} {bs : List Nat}
set_option maxRecDepth 100000 in
theorem Own.oct (h : Own w base g cap bs) : Pl.Oct bs := h.2
set_option maxRecDepth 100000 in
theorem Own.form (h : Own w base g cap bs) : base ≤ g ∧ g < w.heap.size ∧ bs.length ≤ cap ∧ cap ≤ maxLen := by
  have hlt := h.1.lt g rfl
  rcases h.1.2 with ⟨e, _⟩ | ⟨g', cap', cur, e, _, _, h1, h2, _⟩
  · cases e
  · simp only [Value.slice.injEq, Option.some.injEq, Addr.mk.injEq, and_true, true_and] at e
    obtain ⟨rfl, rfl⟩ := e
    exact ⟨hlt.1, hlt.2, h1, h2⟩
set_option maxRecDepth 100000 in
theorem Own.bys (h : Own w base g cap bs) : Bys w w.heap.size (some ⟨g, 0, none⟩) bs.length cap bs := by
  have hf := h.form
  refine ⟨rfl, hf.2.2.1, hf.2.2.2, (fun e => by cases e), h.2, fun _ => ⟨g, 0, rfl, hf.2.1, fun i hi => ?_⟩⟩
  rw [Nat.zero_add, h.1.cellAt i (by omega), cells_at bs i hi]
set_option maxRecDepth 100000 in
theorem Own.below (h : Own w base g cap bs) (hb : Below B w w') (hg : g < B) : Own w' base g cap bs := by
  refine ⟨⟨h.1.1, ?_⟩, h.2⟩
  rcases h.1.2 with ⟨e, _⟩ | ⟨g', cap', cur, e, h0, hh, hr⟩
  · cases e
  · refine .inr ⟨g', cap', cur, e, h0, ?_, hr⟩
    simp only [Value.slice.injEq, Option.some.injEq, Addr.mk.injEq, and_true, true_and] at e
    obtain ⟨rfl, rfl⟩ := e
    rw [hb.block g hg]; exact hh
set_option maxRecDepth 100000 in
theorem Own.lower {base' : Nat} (h : Own w base g cap bs) (hb : base' ≤ base) : Own w base' g cap bs := by
  refine ⟨⟨h.1.1, ?_⟩, h.2⟩
  rcases h.1.2 with ⟨e, _⟩ | ⟨g', cap', cur, e, h0, hh, hr⟩
  · cases e
  · exact .inr ⟨g', cap', cur, e, by omega, hh, hr⟩
set_option maxRecDepth 100000 in
/-- one byte turned -/
theorem Own.set_ (h : Own w base g cap bs) (i x : Nat) (hx : x < 256) : Own (w.setCell ⟨g, i, none⟩ (.int .u8 (x : Int))) base g cap (bs.set i x) ∧ w.grownBy (w.setCell ⟨g, i, none⟩ (.int .u8 (x : Int))) (some g) := by
  have hs := h.1.stored i (.int .u8 (x : Int))
  refine ⟨⟨?_, ?_⟩, hs.2⟩
  · rw [List.length_set, cells_set]; exact hs.1
  · intro y hy
    rcases List.mem_or_eq_of_mem_set hy with hy | rfl
    · exact h.2 y hy
    · exact hx
end

set_option maxRecDepth 100000 in
/-- what came in, in the words of the library's 'open_ints' -/
theorem Bys.open_ {W : World} {x : Addr} {len cap : Nat} {zs : List Int} (hl : len ≤ cap) (hm : cap ≤ maxLen) (hz : zs.length = cap)
    (hcell : ∀ i, i < zs.length → W.cell? (x.add i) = some (.int .u8 (zs.getD i 0))) (hwz : ∀ n ∈ zs, (Lit.int .u8 n).wf = true) :
    Bys W W.heap.size (some x) len cap ((zs.take len).map Int.toNat) := by
  have hb : ∀ n ∈ zs, 0 ≤ n ∧ n ≤ 255 := fun n hn => bounds_u8 (hwz n hn)
  refine ⟨by rw [List.length_map, List.length_take]; omega, hl, hm, (fun e => by cases e), ?_, fun h0 => ?_⟩
  · intro y hy
    obtain ⟨n, hn, rfl⟩ := List.mem_map.1 hy
    have := hb n (List.mem_of_mem_take hn)
    omega
  · obtain ⟨b, off, spot⟩ := x
    have hc := hcell 0 (by omega)
    have hspot : spot = none := by simpa [Addr.add] using World.cell?_spot hc
    subst hspot
    refine ⟨b, off, rfl, World.block_lt_of_cell? W ⟨b, off, none⟩ (by simpa [Addr.add_lit] using hc), fun i hi => ?_⟩
    have hci := hcell i (by omega)
    rw [Addr.add_lit] at hci
    rw [hci]
    have hil : i < zs.length := by omega
    have hge := hb zs[i] (List.getElem_mem hil)
    have e1 : zs.getD i 0 = zs[i] := by rw [List.getD_eq_getElem?_getD, List.getElem?_eq_getElem hil]; rfl
    have e2 : ((zs.take len).map Int.toNat).getD i 0 = zs[i].toNat := by
      rw [List.getD_eq_getElem?_getD, List.getElem?_map, List.getElem?_take, if_pos hi, List.getElem?_eq_getElem hil]; rfl
    rw [e1, e2, Int.toNat_of_nonneg hge.1]

set_option maxRecDepth 100000 in
/-- bytes that are written out, in new memory -/
theorem own_lit (w : World) (bs : List Nat) (ho : Pl.Oct bs) (hl : bs.length ≤ maxLen) : Own (w.alloc (.cells (cellsOf bs).toArray 5)) w.heap.size w.heap.size bs.length bs := by
  have h := World.ownsRow_lit (base := w.heap.size) (e := 5) (size := 1) w (cellsOf bs).toArray bs.length (Nat.le_refl _) hl (by simp [len_cells])
  exact ⟨by simpa using h, ho⟩
set_option maxRecDepth 100000 in
theorem bys_lit (w : World) (bs : List Nat) (ho : Pl.Oct bs) (hl : bs.length ≤ maxLen) : Bys (w.alloc (.cells (cellsOf bs).toArray 5)) (w.heap.size + 1) (some ⟨w.heap.size, 0, none⟩) bs.length bs.length bs := by
  have := (own_lit w bs ho hl).bys
  simpa using this

/-- a call's answer: the bytes bs in new memory, nothing that was there turned -/
def RetRow (w : World) (bs : List Nat) (e : Ending) (w' : World) : Prop :=
  ∃ g cap, e = .returned (.slice (some ⟨g, 0, none⟩) bs.length cap) ∧ Own w' w.heap.size g cap bs ∧ Below w.heap.size w w'
end Go.Proofs.Ytaboamkfpolpbaa.Wi
