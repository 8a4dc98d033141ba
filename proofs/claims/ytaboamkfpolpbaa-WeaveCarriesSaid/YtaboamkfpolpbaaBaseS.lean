/-
  Parts of bytes as the walk's run equations (b[k:], b[:k], b[:k:k], string(b)); small words for worlds. Conditions: those that each states.
-/
import Derived.Test.YtaboamkfpolpbaaBaseF
import Derived.WalkKit
namespace Go.Proofs.Ytaboamkfpolpbaa.Wi
open Go.RowKit

set_option maxRecDepth 100000 in
theorem cellsByte : Try.prog.cellsOf 5 = 1 := by kernel_rfl
set_option maxRecDepth 100000 in
theorem below_drew {B : Nat} {w w' : World} (h : Below B w.drew w') : Below B w w' := ⟨h.os, h.tape, h.output, h.size, h.block⟩
set_option maxRecDepth 100000 in
theorem below_drawn {B : Nat} {w w' : World} (h : Below B w w') : Below B w w'.drew := ⟨h.os, h.tape, h.output, h.size, h.block⟩
set_option maxRecDepth 100000 in
theorem below_alloc {w w1 : World} (h : Below w.heap.size w w1) (o : Obj) : Below w.heap.size w (w1.alloc o) := h.alloc h.size o
set_option maxRecDepth 100000 in
theorem below_then {w w1 w2 : World} (h : Below w.heap.size w w1) (hb : Below w1.heap.size w1 w2) : Below w.heap.size w w2 := h.trans (hb.mono h.size)
set_option maxRecDepth 100000 in
theorem Bys.conv {w : World} {B : Nat} {A : Option Addr} {n c : Nat} {bs : List Nat} (h : Bys w B A n c bs) : (convert 53 9 (.slice A n c)).run Try.prog w = .ok (.string (strOfNums (ints bs))) w :=
  h.bytesIn.convert (P := Try.prog) (by rw [ints, List.length_map, h.len]) c 53 5 9 Try.underlying53 Try.underlying5 Try.underlying9
set_option maxRecDepth 100000 in
/-- a part from a place on, whatever the room: one run equation under one name -/
theorem Bys.cut {w : World} {B n c k : Nat} {A : Option Addr} {bs : List Nat} (h : Bys w B A n c bs) (hk : k ≤ n) :
    ∃ A2, Bys w B A2 (n - k) (c - k) (bs.drop k) ∧ (∀ ad2, A2 = some ad2 → ∃ ad, A = some ad ∧ ad2.block = ad.block) ∧ ∀ w', (Instr.sliceAt 53 (.slice A n c) (some (.int .i64 (k : Int))) none none).run Try.prog w' = .ok (.slice A2 (n - k) (c - k)) w' := by
  have hle := h.le
  obtain ⟨i0, hi, _⟩ := info_parts infoByte
  have hu : Try.prog.underlying 53 = some (.slice (Try.prog.elem 53)) := by kernel_rfl
  have he : Try.prog.elem 53 = 5 := by kernel_rfl
  have hrun : ∀ w', (Instr.sliceAt 53 (.slice A n c) (some (.int .i64 (k : Int))) none none).run Try.prog w' = .ok (sliced A k n c 1) w' := by
    intro w'
    rw [run_sliceAt_slice w' _ _ _ _ _ hu, run_slice_l w' 53 A n c hu .i64 (k : Int) (by omega) (by omega), he, run_sizeOf w' hi]
    simp [Result.andThen, cellsByte]
  cases A with
  | none =>
    have hc0 := h.nil_ rfl
    have hc0' : c = 0 := hc0
    refine ⟨none, ?_, (fun _ h => by cases h), fun w' => by rw [hrun]; simp [sliced]⟩
    have hb : bs.drop k = [] := List.drop_of_length_le (by rw [h.len]; omega)
    rw [hb, show n - k = 0 by omega, show c - k = 0 by omega]
    exact Bys.none_ _ _
  | some ad =>
    by_cases hck : c = k
    · refine ⟨some ad, ?_, (fun _ h => by cases h; exact ⟨ad, rfl, rfl⟩), fun w' => by rw [hrun]; simp [sliced, hck]⟩
      have hb : bs.drop k = [] := List.drop_of_length_le (by rw [h.len]; omega)
      rw [hb, show n - k = 0 by omega, show c - k = 0 by omega]
      exact ⟨rfl, Nat.le_refl _, Nat.zero_le _, (fun e => by cases e), (fun x hx => by cases hx), fun h => absurd h (by omega)⟩
    · refine ⟨some (ad.add k), ?_, (fun _ h => by cases h; exact ⟨ad, rfl, by unfold Addr.add; split <;> rfl⟩), fun w' => by rw [hrun]; simp [sliced, hck]⟩
      have hl := h.len
      have hc := h.cap
      refine ⟨by rw [List.length_drop, hl], by omega, Nat.le_trans (Nat.sub_le _ _) hc, (fun e => by cases e), Pl.oct_drop h.oct k, fun h0 => ?_⟩
      obtain ⟨g, o, e, hg, hcell⟩ := h.at_ (i := k) (by omega)
      cases e
      refine ⟨g, o + k, Addr.add_lit g o k ▸ rfl, hg, fun i hi => ?_⟩
      rw [Nat.add_assoc, hcell (k + i) (by omega), List.getD_eq_getElem?_getD, List.getD_eq_getElem?_getD, List.getElem?_drop]
set_option maxRecDepth 100000 in
/-- b[:k] -/
theorem slice_to (A : Option Addr) (n c k : Nat) (hk : k ≤ c) : ∀ w', (Instr.sliceAt 53 (.slice A n c) none (some (.int .i64 (k : Int))) none).run Try.prog w' = .ok (.slice A k c) w' := by
  intro w'
  obtain ⟨i0, hi, _⟩ := info_parts infoByte
  have hu : Try.prog.underlying 53 = some (.slice (Try.prog.elem 53)) := by kernel_rfl
  have he : Try.prog.elem 53 = 5 := by kernel_rfl
  rw [run_sliceAt_slice w' _ _ _ _ _ hu, run_slice_h w' 53 A n c hu .i64 (k : Int) (by omega) (by omega), he, run_sizeOf w' hi]
  simp only [Result.andThen, sliced, Int.toNat_natCast, Nat.zero_mul, Nat.sub_zero]
  congr 2
  split
  · rfl
  · cases A <;> rfl
set_option maxRecDepth 100000 in
/-- b[:k:k] -/
theorem slice_cap (A : Option Addr) (n c k : Nat) (hk : k ≤ c) : ∀ w', (Instr.sliceAt 53 (.slice A n c) none (some (.int .i64 (k : Int))) (some (.int .i64 (k : Int)))).run Try.prog w' = .ok (.slice A k k) w' := by
  intro w'
  obtain ⟨i0, hi, _⟩ := info_parts infoByte
  have hu : Try.prog.underlying 53 = some (.slice (Try.prog.elem 53)) := by kernel_rfl
  have he : Try.prog.elem 53 = 5 := by kernel_rfl
  rw [run_sliceAt_slice w' _ _ _ _ _ hu, run_slice_hm w' 53 A n c hu .i64 .i64 (k : Int) (k : Int) (by omega) (by omega) (by omega), he, run_sizeOf w' hi]
  simp only [Result.andThen, sliced, Int.toNat_natCast, Nat.zero_mul, Nat.sub_zero]
  congr 2
  split
  · rfl
  · cases A <;> rfl
set_option maxRecDepth 100000 in
/-- a part from the beginning on, its room cut too -/
theorem Bys.upcap {w : World} {B : Nat} {A : Option Addr} {n c : Nat} {bs : List Nat} (h : Bys w B A n c bs) {k : Nat} (hk : k ≤ n) : Bys w B A k k (bs.take k) := by
  have h2 := h.upto hk
  exact ⟨h2.1, Nat.le_refl _, Nat.le_trans h2.2.1 h2.2.2.1, fun e => by have := h.nil_ e; have := h.le; omega, h2.2.2.2.2⟩
set_option maxRecDepth 100000 in
/-- append onto bytes of one's own, as the run of the builtin -/
theorem run_append_bys (w : World) (ty : TypeId) (base : Nat) (A : Option Addr) (n c : Nat) (bs : List Nat) (hown : OwnV w base (.slice A n c) bs)
    (B : Nat) (A' : Option Addr) (m c' : Nat) (cs : List Nat) (hsrc : Bys w B A' m c' cs) (hfit : n + m ≤ 140737488355328) (hbase : base ≤ w.heap.size) :
    ∃ A2 c2 w', (Builtin.append_ #[53, 53] ty #[.slice A n c, .slice A' m c']).run Try.prog w = .ok (.slice A2 (n + m) c2) w' ∧ OwnV w' base (.slice A2 (n + m) c2) (bs ++ cs) ∧ w.grownBy w' (Value.ownBlock (.slice A n c)) ∧
      (Value.ownBlock (.slice A2 (n + m) c2) = Value.ownBlock (.slice A n c) ∨ Value.ownBlock (.slice A2 (n + m) c2) = some w.heap.size) := by
  obtain ⟨i0, hi, hz0, hz1, hz2⟩ := info_parts infoByte
  obtain ⟨hn, _⟩ := hown.bys
  have hm := hsrc.len
  have ho : w.ownsRow base 5 1 (.slice A n c) n (cellsOf bs) := by rw [hn]; rw [hn] at hown; exact hown.1
  cases A' with
  | none =>
    have hc0 := hsrc.nil_ rfl
    have hle := hsrc.le
    obtain rfl : c' = 0 := hc0
    obtain rfl : m = 0 := by omega
    obtain rfl : cs = [] := List.eq_nil_of_length_eq_zero hm
    refine ⟨A, c, w, run_append_owned_none w base 53 ty 5 i0 1 Try.underlying53 hi (.slice A n c) n (cellsOf bs) ho, by rw [List.append_nil]; exact hown, World.grownBy.refl w _, Or.inl rfl⟩
  | some ad =>
    obtain ⟨v', w1, hr, hv, hg, _, hat⟩ := run_append_own_at (P := Try.prog) w base 53 ty 5 i0 (.int .u8 0) 1 1 Try.underlying53 hi hz0 hz1 hz2 rfl (by decide) (.slice A n c) n (cellsOf bs) ho ad m c' (cellsOf cs)
      (by rw [len_cells, hm, Nat.mul_one]) (hsrc.src.2 ad rfl) (cells_one cs) (by unfold maxLen; omega) (by omega) hbase
    have hV : OwnV w1 base v' (bs ++ cs) := by
      refine ⟨?_, Pl.oct_append hown.2 hsrc.oct⟩
      rw [List.length_append, ← hn, hm, cells_append]
      exact hv
    obtain ⟨A2, c2, e, hb2⟩ := hV.shape
    have hl2 : (bs ++ cs).length = n + m := by rw [List.length_append, ← hn, hm]
    rw [hl2] at e
    subst e
    exact ⟨A2, c2, w1, hr, hV, hg, hat⟩
end Go.Proofs.Ytaboamkfpolpbaa.Wi
