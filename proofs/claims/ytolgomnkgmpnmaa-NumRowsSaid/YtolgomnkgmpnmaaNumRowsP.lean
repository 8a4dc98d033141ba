/-
  For copybooklaw01.NumRows: numbers behind each other as bytes (plain), and slices of numbers in memory. No conditions but those that each lemma states.
-/
import Derived.Test.YtolgomnkgmpnmaaNumE
namespace Go.Proofs.Ytolgomnkgmpnmaa
open Go.RowKit

namespace Pl
/-- numbers' bytes, one behind the other -/
def encs : List Nat → List Nat
  | [] => []
  | n :: r => enc n ++ encs r
theorem encs_append (a b : List Nat) : encs (a ++ b) = encs a ++ encs b := by
  induction a with
  | nil => rfl
  | cons x a ih => simp [encs, ih]
theorem encs_snoc (l : List Nat) (j : Nat) (h : j < l.length) : encs (l.take (j + 1)) = encs (l.take j) ++ enc (l.getD j 0) := by
  rw [take_snoc l j h, encs_append]; simp [encs]
theorem encs_at (l : List Nat) (j : Nat) (h : j < l.length) : (encs l).drop (encs (l.take j)).length = enc (l.getD j 0) ++ encs (l.drop (j + 1)) := by
  have e : l = l.take j ++ (l.getD j 0 :: l.drop (j + 1)) := by
    rw [List.getD_eq_getElem?_getD, List.getElem?_eq_getElem h]
    simp
  have e2 : encs l = encs (l.take j) ++ (enc (l.getD j 0) ++ encs (l.drop (j + 1))) := by
    conv => lhs; rw [e, encs_append]
    rfl
  rw [e2, List.drop_left]
theorem len_encs (l : List Nat) (h : ∀ x ∈ l, U x) : (encs l).length ≤ 10 * l.length := by
  induction l with
  | nil => simp [encs]
  | cons x l ih =>
    have h1 := sz_le10 (h x (by simp)).out
    have h2 := ih fun y hy => h y (by simp [hy])
    rw [encs, List.length_append, len_enc, List.length_cons]; omega
theorem oct_encs (l : List Nat) : Oct (encs l) := by
  induction l with
  | nil => intro x hx; cases hx
  | cons x l ih => exact oct_append (oct_enc x) ih
/-- where number j begins -/
def pos (l : List Nat) (j : Nat) : Nat := (encs (l.take j)).length
theorem pos_succ (l : List Nat) (j : Nat) (h : j < l.length) : pos l (j + 1) = pos l j + sz (l.getD j 0) := by
  unfold pos; rw [encs_snoc l j h, List.length_append, len_enc]
theorem pos_all (l : List Nat) : pos l l.length = (encs l).length := by unfold pos; rw [List.take_length]
theorem pos_room (l : List Nat) (j : Nat) (h : j < l.length) : pos l j + sz (l.getD j 0) ≤ (encs l).length := by
  have h1 := congrArg List.length (encs_at l j h)
  rw [List.length_drop, List.length_append, len_enc] at h1
  have h2 : 1 ≤ sz (l.getD j 0) := sz_pos _
  unfold pos; omega
end Pl

/-- the slice value '.slice A n c' reads as the numbers zs, each of 64 bits, below block B -/
def Us (w : World) (B : Nat) (A : Option Addr) (n c : Nat) (zs : List Nat) : Prop :=
  zs.length = n ∧ n ≤ c ∧ c ≤ maxLen ∧ (A = none → c = 0) ∧ (∀ x ∈ zs, Pl.U x) ∧
    (0 < n → ∃ g o, A = some ⟨g, o, none⟩ ∧ g < B ∧ ∀ i, i < n → w.cell? ⟨g, o + i, none⟩ = some (.int .u64 ((zs.getD i 0 : Nat) : Int)))
section
variable {w w' : World} {B B' : Nat} {A : Option Addr} {n c : Nat} {zs : List Nat}
theorem Us.none_ (w : World) (B : Nat) : Us w B none 0 0 [] := ⟨rfl, Nat.le_refl _, Nat.zero_le _, fun _ => rfl, (fun x hx => by cases hx), fun h => absurd h (by omega)⟩
theorem Us.len (h : Us w B A n c zs) : zs.length = n := h.1
theorem Us.le (h : Us w B A n c zs) : n ≤ c := h.2.1
theorem Us.cap (h : Us w B A n c zs) : c ≤ maxLen := h.2.2.1
theorem Us.us (h : Us w B A n c zs) : ∀ x ∈ zs, Pl.U x := h.2.2.2.2.1
theorem Us.getU (h : Us w B A n c zs) (i : Nat) : Pl.U (zs.getD i 0) := by
  rw [List.getD_eq_getElem?_getD]
  rcases Nat.lt_or_ge i zs.length with hi | hi
  · rw [List.getElem?_eq_getElem hi]; exact h.us _ (List.getElem_mem hi)
  · rw [List.getElem?_eq_none hi]; exact Pl.U.mk (by decide)
theorem Us.at_ (h : Us w B A n c zs) {i : Nat} (hi : i < n) : ∃ g o, A = some ⟨g, o, none⟩ ∧ g < B ∧ ∀ i, i < n → w.cell? ⟨g, o + i, none⟩ = some (.int .u64 ((zs.getD i 0 : Nat) : Int)) := h.2.2.2.2.2 (by omega)
theorem Us.upto (h : Us w B A n c zs) {k : Nat} (hk : k ≤ n) : Us w B A k c (zs.take k) := by
  have hl := h.len
  refine ⟨by rw [List.length_take]; omega, Nat.le_trans hk h.le, h.cap, h.2.2.2.1, (fun x hx => h.us x (List.mem_of_mem_take hx)), fun h0 => ?_⟩
  obtain ⟨g, o, e, hg, hc⟩ := h.at_ (i := 0) (by omega)
  refine ⟨g, o, e, hg, fun i hi => ?_⟩
  rw [hc i (by omega), List.getD_eq_getElem?_getD, List.getD_eq_getElem?_getD, List.getElem?_take, if_pos hi]
theorem Us.open_ {W : World} {x : Addr} {len cap : Nat} {zs : List Int} (hl : len ≤ cap) (hm : cap ≤ maxLen) (hz : zs.length = cap)
    (hcell : ∀ i, i < zs.length → W.cell? (x.add i) = some (.int .u64 (zs.getD i 0))) (hwz : ∀ n ∈ zs, (Lit.int .u64 n).wf = true) :
    Us W W.heap.size (some x) len cap ((zs.take len).map Int.toNat) := by
  have hb : ∀ n ∈ zs, 0 ≤ n ∧ n ≤ 18446744073709551615 := fun n hn => bounds_u64 (hwz n hn)
  refine ⟨by rw [List.length_map, List.length_take]; omega, hl, hm, (fun e => by cases e), ?_, fun h0 => ?_⟩
  · intro y hy
    obtain ⟨n, hn, rfl⟩ := List.mem_map.1 hy
    have := hb n (List.mem_of_mem_take hn)
    exact Pl.U.mk (by omega)
  · obtain ⟨b, off, spot⟩ := x
    have hc := hcell 0 (by omega)
    have hspot : spot = none := by simpa [Addr.add] using World.cell?_spot hc
    subst hspot
    refine ⟨b, off, rfl, World.block_lt_of_cell? W ⟨b, off, none⟩ (by simpa [Addr.add_lit] using hc), fun i hi => ?_⟩
    have hci := hcell i (by omega)
    rw [Addr.add_lit] at hci
    rw [hci]
    have hil : i < zs.length := by omega
    have hge := hb zs[i] (List.getElem_mem hil)
    have e1 : zs.getD i 0 = zs[i] := by rw [List.getD_eq_getElem?_getD, List.getElem?_eq_getElem hil]; rfl
    have e2 : ((zs.take len).map Int.toNat).getD i 0 = zs[i].toNat := by
      rw [List.getD_eq_getElem?_getD, List.getElem?_map, List.getElem?_take, if_pos hi, List.getElem?_eq_getElem hil]; rfl
    rw [e1, e2, Int.toNat_of_nonneg hge.1]
end

/-- a part from 'at' on -/
theorem Bys.from_ {w : World} {B g o n c k : Nat} {bs : List Nat} (h : Bys w B (some ⟨g, o, none⟩) n c bs) (hk : k ≤ n) : Bys w B (some ⟨g, o + k, none⟩) (n - k) (c - k) (bs.drop k) := by
  have hl := h.len
  have hle := h.le
  have hcap := h.cap
  refine ⟨by rw [List.length_drop]; omega, by omega, by unfold maxLen at *; omega, (fun e => by cases e), Pl.oct_drop h.oct k, fun h0 => ?_⟩
  obtain ⟨g', o', e, hg, hc⟩ := h.at_ (i := 0) (by omega)
  injection e with e
  injection e with e1 e2
  subst e1 e2
  refine ⟨g, o + k, rfl, hg, fun i hi => ?_⟩
  have := hc (k + i) (by omega)
  rw [← Nat.add_assoc] at this
  rw [this, List.getD_eq_getElem?_getD, List.getD_eq_getElem?_getD, List.getElem?_drop]
end Go.Proofs.Ytolgomnkgmpnmaa
