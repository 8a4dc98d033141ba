/-
  The walk of copybooklaw01.NumPuts: it returns true for every slice of at most 2^47 - 4096 bytes and every number of 64 bits, and turns nothing that was there.
-/
import Derived.Test.YtolgomnkgmpnmaaNumS
import Derived.Deep.QuietTactic
import Derived.BigQuiet
namespace Go.Proofs.Ytolgomnkgmpnmaa.numPuts
open Go.RowKit

/-- of W0's blocks only those of S may have turned -/
structure Off (W0 w : World) (S : Nat → Prop) : Prop where
  os : w.os = W0.os
  tape : w.tape = W0.tape
  output : w.output = W0.output
  size : w.heap.size = W0.heap.size
  block : ∀ b, ¬ S b → w.heap[b]? = W0.heap[b]?
section
variable {W0 w : World} {S S' : Nat → Prop}
theorem Off.refl (W0 : World) (S : Nat → Prop) : Off W0 W0 S := ⟨rfl, rfl, rfl, rfl, fun _ _ => rfl⟩
theorem Off.drewN (h : Off W0 w S) (n : Nat) : Off W0 (w.drewN n) S := ⟨h.os, h.tape, h.output, h.size, h.block⟩
theorem Off.more (h : Off W0 w S) (hS : ∀ b, S b → S' b) : Off W0 w S' := ⟨h.os, h.tape, h.output, h.size, fun b hb => h.block b (fun hs => hb (hS b hs))⟩
theorem Off.set_ (h : Off W0 w S) {p : Addr} (hp : S p.block) (u : Value) : Off W0 (w.setCell p u) S :=
  ⟨h.os, h.tape, h.output, by simpa [World.setCell] using h.size, fun b hb => (Below.heap_setCell w p u b (fun e => hb (e ▸ hp))).trans (h.block b hb)⟩
theorem Off.cell (h : Off W0 w S) {p : Addr} (hp : ¬ S p.block) : w.cell? p = W0.cell? p := World.cell?_of_block (w := W0) (h.block p.block hp)
theorem Off.own (h : Off W0 w S) {base g c : Nat} {X : List Nat} (hO : Own W0 base g c X) (hg : ¬ S g) : Own w base g c X := by
  refine ⟨⟨hO.1.1, ?_⟩, hO.2⟩
  rcases hO.1.2 with ⟨e, _⟩ | ⟨g', cap', cur, e, h0, hh, hr⟩
  · cases e
  · refine .inr ⟨g', cap', cur, e, h0, ?_, hr⟩
    simp only [Value.slice.injEq, Option.some.injEq, Addr.mk.injEq, and_true, true_and] at e
    obtain ⟨rfl, rfl⟩ := e
    rw [h.block g hg]; exact hh
theorem Off.bys (h : Off W0 w S) {B n c : Nat} {A : Option Addr} {X : List Nat} (hB : Bys W0 B A n c X) (hS : ∀ b, b < B → ¬ S b) : Bys w B A n c X := hB.keep fun _ hp => h.cell (hS _ hp)
theorem Off.below {B : Nat} (h : Off W0 w S) {w0 : World} (hb : Below B w0 W0) (hS : ∀ b, b < B → ¬ S b) : Below B w0 w :=
  ⟨h.os.trans hb.os, h.tape.trans hb.tape, h.output.trans hb.output, by rw [h.size]; exact hb.size, fun b hB => (h.block b (hS b hB)).trans (hb.block b hB)⟩
end

theorem quiet_of {P : Program} {f : FuncId} {args : Array Value} {w : World} {n : Nat} {v : Value}
    (h : Calls P f args (w.drewN n) fun e w' => e = .returned v ∧ w.drewN n = w') : Calls P f args (w.drewN n) fun e w'' => e = .returned v ∧ ∃ m, w'' = w.drewN m :=
  h.mono fun _ _ ⟨he, hm⟩ => ⟨he, n, hm.symm⟩

/-- four of a kind -/
def four {α : Type} (a b c d : α) (i : Nat) : α := match i with | 0 => a | 1 => b | 2 => c | _ => d
theorem four_all {α : Type} {P : Nat → α → Prop} {a b c d : α} (h0 : P 0 a) (h1 : P 1 b) (h2 : P 2 c) (h3 : P 3 d) : ∀ i, i < 4 → P i (four a b c d i) := by
  intro i hi
  match i, hi with
  | 0, _ => exact h0
  | 1, _ => exact h1
  | 2, _ => exact h2
  | 3, _ => exact h3

/-- what stands in memory ahead of the loop: four rows of the call's own (G), the document's four (H), the two lists that hold them (gl, gw); each in a block of its own -/
structure St (W : World) (base top gl gw : Nat) (G C H D : Nat → Nat) (X : Nat → List Nat) : Prop where
  l : ∀ i, i < 4 → W.cell? ⟨gl, i, none⟩ = some (.slice (some ⟨G i, 0, none⟩) (X i).length (C i))
  r : ∀ i, i < 4 → W.cell? ⟨gw, i, none⟩ = some (.slice (some ⟨H i, 0, none⟩) (X i).length (D i))
  own : ∀ i, i < 4 → Own W base (G i) (C i) (X i)
  want : ∀ i, i < 4 → Own W base (H i) (D i) (X i)
  inj : ∀ i j, i < 4 → j < 4 → G i = G j → i = j
  nl : ∀ i, i < 4 → G i ≠ gl
  nw : ∀ i, i < 4 → G i ≠ gw
  nh : ∀ i j, i < 4 → j < 4 → G i ≠ H j
  up : ∀ i, i < 4 → top ≤ G i
/-- the rows ahead of i -/
def Upto (G : Nat → Nat) (i : Nat) (b : Nat) : Prop := ∃ j, j < i ∧ b = G j

/-- the outer loop -/
def ORel (W0 : World) (G : Nat → Nat) (t : Value) (wr : World) : Prop := ∃ i : Nat, t = .int .i64 (i : Int) ∧ i ≤ 4 ∧ Off W0 wr (Upto G i)
/-- the inner loop -/
def IRel (W0 : World) (base : Nat) (G C : Nat → Nat) (i n : Nat) (t : Value) (wr : World) : Prop :=
  ∃ (k : Nat) (Y : List Nat), t = .int .i64 (k : Int) ∧ k ≤ n ∧ Y.length = n ∧ Own wr base (G i) (C i) Y ∧ Off W0 wr (Upto G (i + 1))

theorem mkSt {w w1 w2 w3 w4 w5 w6 w7 w8 w9 w10 W0 : World} {g2 g3 g4 g5 g7 g8 g9 g10 c2 c3 c4 c5 c7 c8 c9 c10 : Nat} {X0 X1 X2 X3 : List Nat}
    (y1 : w.heap.size ≤ w1.heap.size) (O2 : Own w2 w1.heap.size g2 c2 X0) (O3 : Own w3 w2.heap.size g3 c3 X1) (O4 : Own w4 w3.heap.size g4 c4 X2) (O5 : Own w5 w4.heap.size g5 c5 X3)
    (hb2 : Below w1.heap.size w1 w2) (hb3 : Below w2.heap.size w2 w3) (hb4 : Below w3.heap.size w3 w4) (hb5 : Below w4.heap.size w4 w5) (hb6 : Below w5.heap.size w5 w6) (z6 : w6.heap.size = w5.heap.size + 1)
    (K6 : w6.heap[w5.heap.size]? = some (.cells #[Value.slice (some ⟨g2, 0, none⟩) X0.length c2, Value.slice (some ⟨g3, 0, none⟩) X1.length c3, Value.slice (some ⟨g4, 0, none⟩) X2.length c4, Value.slice (some ⟨g5, 0, none⟩) X3.length c5] 22 (0, 0)))
    (O7 : Own w7 w6.heap.size g7 c7 X0) (O8 : Own w8 w7.heap.size g8 c8 X1) (O9 : Own w9 w8.heap.size g9 c9 X2) (O10 : Own w10 w9.heap.size g10 c10 X3)
    (hb7 : Below w6.heap.size w6 w7) (hb8 : Below w7.heap.size w7 w8) (hb9 : Below w8.heap.size w8 w9) (hb10 : Below w9.heap.size w9 w10) (hb11 : Below w10.heap.size w10 W0)
    (K11 : W0.heap[w10.heap.size]? = some (.cells #[Value.slice (some ⟨g7, 0, none⟩) X0.length c7, Value.slice (some ⟨g8, 0, none⟩) X1.length c8, Value.slice (some ⟨g9, 0, none⟩) X2.length c9, Value.slice (some ⟨g10, 0, none⟩) X3.length c10] 22 (0, 0))) :
    St W0 w.heap.size w1.heap.size w5.heap.size w10.heap.size (four g2 g3 g4 g5) (four c2 c3 c4 c5) (four g7 g8 g9 g10) (four c7 c8 c9 c10) (four X0 X1 X2 X3) := by
  have F2 := O2.form; have F3 := O3.form; have F4 := O4.form; have F5 := O5.form
  have F7 := O7.form; have F8 := O8.form; have F9 := O9.form; have F10 := O10.form
  have y2 := hb2.size; have y3 := hb3.size; have y4 := hb4.size; have y5 := hb5.size; have y6 := hb6.size; have y7 := hb7.size; have y8 := hb8.size; have y9 := hb9.size; have y10 := hb10.size; have y11 := hb11.size
  have b10 : Below w9.heap.size w9 W0 := hb10.trans (hb11.mono y10)
  have b9 : Below w8.heap.size w8 W0 := hb9.trans (b10.mono y9)
  have b8 : Below w7.heap.size w7 W0 := hb8.trans (b9.mono y8)
  have b7 : Below w6.heap.size w6 W0 := hb7.trans (b8.mono y7)
  have b6 : Below w5.heap.size w5 W0 := hb6.trans (b7.mono y6)
  have b5 : Below w4.heap.size w4 W0 := hb5.trans (b6.mono y5)
  have b4 : Below w3.heap.size w3 W0 := hb4.trans (b5.mono y4)
  have b3 : Below w2.heap.size w2 W0 := hb3.trans (b4.mono y3)
  have K6' : W0.heap[w5.heap.size]? = some (.cells #[Value.slice (some ⟨g2, 0, none⟩) X0.length c2, Value.slice (some ⟨g3, 0, none⟩) X1.length c3, Value.slice (some ⟨g4, 0, none⟩) X2.length c4, Value.slice (some ⟨g5, 0, none⟩) X3.length c5] 22 (0, 0)) := (b7.block _ (by omega)).trans K6
  refine ⟨?_, ?_, ?_, ?_, ?_, ?_, ?_, ?_, ?_⟩
  · intro i hi
    rw [cell_of_row W0 _ i _ _ (0, 0) K6']
    match i, hi with
    | 0, _ => rfl
    | 1, _ => rfl
    | 2, _ => rfl
    | 3, _ => rfl
  · intro i hi
    rw [cell_of_row W0 _ i _ _ (0, 0) K11]
    match i, hi with
    | 0, _ => rfl
    | 1, _ => rfl
    | 2, _ => rfl
    | 3, _ => rfl
  · intro i hi
    match i, hi with
    | 0, _ => exact (O2.below b3 F2.2.1).lower (by omega)
    | 1, _ => exact (O3.below b4 F3.2.1).lower (by omega)
    | 2, _ => exact (O4.below b5 F4.2.1).lower (by omega)
    | 3, _ => exact (O5.below b6 F5.2.1).lower (by omega)
  · intro i hi
    match i, hi with
    | 0, _ => exact (O7.below b8 F7.2.1).lower (by omega)
    | 1, _ => exact (O8.below b9 F8.2.1).lower (by omega)
    | 2, _ => exact (O9.below b10 F9.2.1).lower (by omega)
    | 3, _ => exact (O10.below hb11 F10.2.1).lower (by omega)
  · intro i j hi hj e
    match i, j, hi, hj with
    | 0, 0, _, _ => rfl
    | 1, 1, _, _ => rfl
    | 2, 2, _, _ => rfl
    | 3, 3, _, _ => rfl
    | 0, 1, _, _ => have e : g2 = g3 := e; omega
    | 0, 2, _, _ => have e : g2 = g4 := e; omega
    | 0, 3, _, _ => have e : g2 = g5 := e; omega
    | 1, 0, _, _ => have e : g3 = g2 := e; omega
    | 1, 2, _, _ => have e : g3 = g4 := e; omega
    | 1, 3, _, _ => have e : g3 = g5 := e; omega
    | 2, 0, _, _ => have e : g4 = g2 := e; omega
    | 2, 1, _, _ => have e : g4 = g3 := e; omega
    | 2, 3, _, _ => have e : g4 = g5 := e; omega
    | 3, 0, _, _ => have e : g5 = g2 := e; omega
    | 3, 1, _, _ => have e : g5 = g3 := e; omega
    | 3, 2, _, _ => have e : g5 = g4 := e; omega
  · refine four_all (P := fun _ g => g ≠ w5.heap.size) ?_ ?_ ?_ ?_ <;> omega
  · refine four_all (P := fun _ g => g ≠ w10.heap.size) ?_ ?_ ?_ ?_ <;> omega
  · intro i j hi hj
    have h1 : four g2 g3 g4 g5 i < w5.heap.size := four_all (P := fun _ g => g < w5.heap.size) (by omega) (by omega) (by omega) (by omega) i hi
    have h2 : w6.heap.size ≤ four g7 g8 g9 g10 j := four_all (P := fun _ g => w6.heap.size ≤ g) (by omega) (by omega) (by omega) (by omega) j hj
    omega
  · refine four_all (P := fun _ g => w1.heap.size ≤ g) ?_ ?_ ?_ ?_ <;> omega
end Go.Proofs.Ytolgomnkgmpnmaa.numPuts
