/-
  Parts of rows of units; append where an operation's guard is met; what WeaveParts' frame opens. Conditions: those that each states.
-/
import Derived.Test.YtfjnliebgndemaaWvJ
namespace Go.Proofs.Ytfjnliebgndemaa
open Go.RowKit
open Pl (Un)

set_option maxRecDepth 100000 in
theorem cellsUn : Try.prog.cellsOf 57 = 5 := by kernel_rfl
set_option maxRecDepth 100000 in
theorem slice_toU (A : Option Addr) (n c k : Nat) (hk : k ≤ c) : ∀ w', (Instr.sliceAt 33 (.slice A n c) none (some (.int .i64 (k : Int))) none).run Try.prog w' = .ok (.slice A k c) w' := by
  intro w'
  obtain ⟨i0, hi, _⟩ := info_parts infoUn
  have hu : Try.prog.underlying 33 = some (.slice (Try.prog.elem 33)) := by kernel_rfl
  have he : Try.prog.elem 33 = 57 := by kernel_rfl
  rw [run_sliceAt_slice w' _ _ _ _ _ hu, run_slice_h w' 33 A n c hu .i64 (k : Int) (by omega) (by omega), he, run_sizeOf w' hi]
  simp only [Result.andThen, sliced, Int.toNat_natCast, Nat.zero_mul, Nat.sub_zero]
  congr 2
  split
  · rfl
  · cases A <;> rfl
set_option maxRecDepth 100000 in
theorem slice_fromU (A : Option Addr) (n c k : Nat) (hk : k ≤ n) : ∀ w', (Instr.sliceAt 33 (.slice A n c) (some (.int .i64 (k : Int))) none none).run Try.prog w' = .ok (.slice (if c = k then A else A.map (·.add (k * 5))) (n - k) (c - k)) w' := by
  intro w'
  obtain ⟨i0, hi, _⟩ := info_parts infoUn
  have hu : Try.prog.underlying 33 = some (.slice (Try.prog.elem 33)) := by kernel_rfl
  have he : Try.prog.elem 33 = 57 := by kernel_rfl
  rw [run_sliceAt_slice w' _ _ _ _ _ hu, run_slice_l w' 33 A n c hu .i64 (k : Int) (by omega) (by omega), he, run_sizeOf w' hi]
  simp only [Result.andThen, sliced, Int.toNat_natCast, cellsUn]
theorem Rws.upto {α : Type} {enc : α → List Value} {k : Nat} (hk : ∀ x, (enc x).length = k) {w : World} {B n c i : Nat} {A : Option Addr} {l : List α} (h : Rws enc w B A n c l) (hi : i ≤ n) : Rws enc w B A i c (l.take i) := by
  have hl := h.len
  have hle := h.le
  refine ⟨by rw [List.length_take]; omega, by omega, h.cap, h.nil_, fun h0 => ?_⟩
  obtain ⟨g, o, e, hg, hc⟩ := h.2.2.2.2 (by omega)
  refine ⟨g, o, e, hg, fun j u hj => hc j u ?_⟩
  rw [← cellsR_take hk, List.getElem?_take] at hj
  split at hj
  · exact hj
  · cases hj
theorem Rws.from_ {α : Type} {enc : α → List Value} {k : Nat} (hk : ∀ x, (enc x).length = k) {w : World} {B n c i : Nat} {A : Option Addr} {l : List α} (h : Rws enc w B A n c l) (hi : i ≤ n) : Rws enc w B (if c = i then A else A.map (·.add (i * k))) (n - i) (c - i) (l.drop i) := by
  have := h.part hk hi (Nat.le_refl n)
  rwa [List.take_of_length_le (by rw [List.length_drop, h.len]; omega)] at this


/-- append onto units of one's own, at an operation whose guard is met -/
theorem wpList_append_unit {ops : Array Oper} {rest : List Oper} {o : Oper} {a : Act} {Q : Exit → Act → World → Prop} (w : World) (hgd : Region.wanted o (yielded ops a.tmps) = true) (s x : Operand) (ho : o.op = .call { callee := .builtin .append, args := #[s, x], argTypes := #[33, 33] })
    (base : Nat) (A : Option Addr) (n c : Nat) (l : List Un) (hs : a.eval s = .slice A n c) (hown : OwnU w base (.slice A n c) l)
    (B : Nat) (A' : Option Addr) (m c' : Nat) (d : List Un) (hx : a.eval x = .slice A' m c') (hsrc : Uns w B A' m c' d) (hmax : n + m ≤ 1000) (hbase : base ≤ w.heap.size)
    (h : ∀ A2 c2 w', OwnU w' base (.slice A2 (n + m) c2) (l ++ d) → w.grownBy w' (Value.ownBlock (.slice A n c)) → wpList Try.prog ops Q rest (a.put o.dst (.slice A2 (n + m) c2)) w') : wpList Try.prog ops Q (o :: rest) a w := by
  obtain ⟨A2, c2, w1, hr, h2, h3, _⟩ := run_append_rws encU_len encU_one Try.underlying33 infoUn (by decide) (by decide) w o.type base A n c l hown B A' m c' d hsrc (by unfold maxLen; omega) (by omega) hbase
  refine BigFrame.wpList_want hgd fun K hK => ?_
  unfold Oper.wp execOp
  simp only [ho, resolve, invoke, builtin, Sem.run_bind, Sem.run_pure, Result.andThen_ok, List.map_toArray, List.map_cons, List.map_nil, hs, hx, hr]
  exact hK _ _ (h A2 c2 w1 h2 h3)
/-- a row's value, told by what it reads as -/
def RowU (l : List Un) (v : Value) (w : World) : Prop := ∃ A c, v = .slice A l.length c ∧ Uns w w.heap.size A l.length c l
theorem RowU.stb {l : List Un} : Rg.Stb (RowU l) := fun _ _ _ ⟨A, c, e, h⟩ hb => ⟨A, c, e, Rws.then_ h hb⟩
/-- rows' value -/
def RowsU (R : List RowV) (v : Value) (w : World) : Prop := ∃ A c, v = .slice A R.length c ∧ RowsV w A R
theorem RowsU.stb {R : List RowV} : Rg.Stb (RowsU R) := fun _ _ _ ⟨A, c, e, h⟩ hb => ⟨A, c, e, RowsV.then_ h hb⟩
theorem RowsV.none_ (w : World) (B : Option Addr) : RowsV w B [] := fun h => absurd h (by simp)
section
variable {H : Type} {enc : TypeId × Value → H} {W : World}
theorem trod_struct3 {P : Program} {w : World} {base : Nat} {spare : Nat → Bool} {held : Bool} {t : TypeId} {f0 f1 f2 : Field} {fuel : Nat} {cs : List Value} {x : DataW H × List MemPlace} (ht : P.underlying t = some (.struct #[f0, f1, f2])) (h : DataW.trod enc P w base spare held fuel t cs = some x) :
    ∃ y0 y1 y2 n, DataW.trod enc P w base spare held n f0.type ((cs.drop f0.offset).take (P.cellsOf f0.type)) = some y0 ∧ DataW.trod enc P w base spare held n f1.type ((cs.drop f1.offset).take (P.cellsOf f1.type)) = some y1 ∧
      DataW.trod enc P w base spare held n f2.type ((cs.drop f2.offset).take (P.cellsOf f2.type)) = some y2 := by
  obtain ⟨xs, n, _, rfl, hl, hlen, hf⟩ := DataW.trod_struct ht h
  match xs, hlen with
  | [y0, y1, y2], _ => exact ⟨y0, y1, y2, n, by simpa using hf 0 f0 rfl, by simpa using hf 1 f1 rfl, by simpa using hf 2 f2 rfl⟩
end
end Go.Proofs.Ytfjnliebgndemaa
