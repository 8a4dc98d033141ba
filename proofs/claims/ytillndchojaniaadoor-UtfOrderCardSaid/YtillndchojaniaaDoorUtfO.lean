/-
  What the rows of layer 4 hand to their walks: the tables of utf as the row lists them; slices of bytes and of code points, opened; what the second form's bound gives. No conditions but those that each states.
-/
import Derived.Test.YtillndchojaniaaDoorRows
import Derived.Test.YtillndchojaniaaDoorUtfC
import Derived.WalkKit
import Derived.ProofKit
import Derived.OpenShut
import Derived.ChangeOld
import Derived.SizedLaws
import Derived.LaidMore
import Derived.Stop.Joined
import Derived.Stop.LaidErr
import Derived.SevenTiedAt
import Derived.Lib.LaidTab
namespace Go.Proofs.YtillndchojaniaaDoor.Op
open Go.ChangeShapes Go.WideShapes Go.ChangeAt Go.RowKit
set_option linter.unusedVariables false

theorem own : ownKnob Tryd.prog.godebug = none := by kernel_rfl
theorem laidOut : laidOutB Tryd.prog = true := by kernel_rfl
theorem bytesByte : Tryd.prog.bytesOf 5 = 1 := by kernel_rfl
theorem bytesChar : Tryd.prog.bytesOf 24 = 4 := by kernel_rfl
theorem gSizes : Tryd.prog.globalNamed "copybook/utf.sizes" = some 1 := by kernel_rfl
theorem tSizes : (Tryd.prog.globals[1]?).map (·.type) = some 58 := by kernel_rfl
theorem gMarks : Tryd.prog.globalNamed "copybook/utf.marks" = some 0 := by kernel_rfl
theorem tMarks : (Tryd.prog.globals[0]?).map (·.type) = some 55 := by kernel_rfl
theorem cellsInt : Tryd.prog.cellsOf 3 = 1 := by kernel_rfl
theorem cellsSizes : Tryd.prog.cellsOf 58 = 32 := by kernel_rfl
theorem cellsMarks : Tryd.prog.cellsOf 55 = 5 := by kernel_rfl
def zs : List Int := [1, 1, 1, 1, 1, 1, 1, 1, 1, 1, 1, 1, 1, 1, 1, 1, 0, 0, 0, 0, 0, 0, 0, 0, 2, 2, 2, 2, 3, 3, 4, 0]
def ms : List Int := [0, 0, 192, 224, 240]
theorem zs_tab : ∀ i, i < 32 → zs.getD i 0 = ((Pl.szTab.getD i 0 : Nat) : Int) := by decide
theorem ms_tab : ∀ i, i < 5 → ms.getD i 0 = ((Pl.mkTab.getD i 0 : Nat) : Int) := by decide
/-- What the condition gives the walk. -/
theorem of_laid {W : World} (h : laidMet Tryd.prog [("copybook/utf.sizes", Rows.laid_copybook_utf_sizes), ("copybook/utf.marks", Rows.laid_copybook_utf_marks)] W) : Tab W := by
  have hT : Lib.TabIs Tryd.prog W "copybook/utf.sizes" .i64 zs := Lib.tabIs_of_head gSizes tSizes Tryd.underlying58 Tryd.underlying3 cellsInt cellsSizes (zs := zs) (rest := [("copybook/utf.marks", Rows.laid_copybook_utf_marks)]) h
  have h2 : laidMet Tryd.prog [("copybook/utf.marks", Rows.laid_copybook_utf_marks)] W := laidMet.tail h
  have hM : Lib.TabIs Tryd.prog W "copybook/utf.marks" .u8 ms := Lib.tabIs_of_head gMarks tMarks Tryd.underlying55 Tryd.underlying5 cellsByte cellsMarks (zs := ms) (rest := []) h2
  have hc : ∀ i, i < 32 → W.cell? ⟨1, i, none⟩ = some (.int .i64 ((Pl.szTab.getD i 0 : Nat) : Int)) := fun i hi => by rw [hT.cell gSizes i hi, zs_tab i hi]
  have hd : ∀ i, i < 5 → W.cell? ⟨0, i, none⟩ = some (.int .u8 ((Pl.mkTab.getD i 0 : Nat) : Int)) := fun i hi => by rw [hM.cell gMarks i hi, ms_tab i hi]
  exact ⟨World.block_lt_of_cell? W ⟨1, 0, none⟩ (hc 0 (by omega)), hc, hd⟩

theorem one_le {H : Type} (d : DataW H) : 1 ≤ Rows.uptoBulk d := by
  cases d with
  | lit l => cases l <;> simp [Rows.uptoBulk]
  | nil => simp [Rows.uptoBulk]
  | ptr d => simp [Rows.uptoBulk]
  | slice elems spare => simp [Rows.uptoBulk]
  | agg parts => simp [Rows.uptoBulk]
  | iface t d => simp [Rows.uptoBulk]
  | map entries => simp [Rows.uptoBulk]
  | held h => simp [Rows.uptoBulk]
theorem length_le {H : Type} (l : List (DataW H)) : l.length ≤ Rows.uptoBulkAll l := by
  induction l with
  | nil => simp [Rows.uptoBulkAll]
  | cons x r ih => have := one_le x; simp only [Rows.uptoBulkAll, List.length_cons]; omega
/-- bytes, opened -/
theorem open_bytes {H : Type} {enc : TypeId × Value → H} {W : World} {A : Option Addr} {n c : Nat} {d : DataW H} {p : List MemPlace} (h : DataW.Trod enc Tryd.prog W 0 (fun _ => true) true 23 (.slice A n c) d p) :
    ∃ bs, Bys W W.heap.size A n c bs ∧ n ≤ Rows.uptoBulk d ∧ (d = .nil ∧ c = 0 ∨ ∃ zs : List Int, zs.length = c ∧ d = .slice (lits .u8 (zs.take n)) (lits .u8 (zs.drop n))) := by
  obtain ⟨fuel, hf⟩ := h
  rcases open_ints Tryd.underlying23 Tryd.underlying5 (by kernel_rfl) hf with ⟨hcs, hx⟩ | ⟨x, l, c, zs, hcs, _, hl, hm, hz, hx, hcell, hwz⟩
  · simp [Value.cells] at hcs
    obtain ⟨rfl, rfl, rfl⟩ := hcs
    simp only [Prod.mk.injEq] at hx
    exact ⟨[], Bys.none_ _ _, by omega, Or.inl ⟨hx.1, rfl⟩⟩
  · simp [Value.cells] at hcs
    obtain ⟨rfl, rfl, rfl⟩ := hcs
    have hz' : zs.length = c := by simpa using hz
    simp only [Prod.mk.injEq] at hx
    obtain ⟨rfl, _⟩ := hx
    refine ⟨_, Bys.open_ hl hm hz' hcell hwz, ?_, Or.inr ⟨zs, hz', rfl⟩⟩
    have h7 := length_le (H := H) (lits .u8 (zs.take n))
    simp only [lits, List.length_map, List.length_take] at h7
    simp only [Rows.uptoBulk, lits]
    omega
/-- code points, opened -/
theorem open_chars {H : Type} {enc : TypeId × Value → H} {W : World} {A : Option Addr} {n c : Nat} {d : DataW H} {p : List MemPlace} (h : DataW.Trod enc Tryd.prog W 0 (fun _ => true) true 22 (.slice A n c) d p) :
    ∃ cs, Crs W W.heap.size A n c cs ∧ n ≤ Rows.uptoBulk d ∧ (d = .nil ∧ c = 0 ∨ ∃ zs : List Int, zs.length = c ∧ d = .slice (lits .i32 (zs.take n)) (lits .i32 (zs.drop n))) := by
  obtain ⟨fuel, hf⟩ := h
  rcases open_ints Tryd.underlying22 Tryd.underlying24 (by kernel_rfl) hf with ⟨hcs, hx⟩ | ⟨x, l, c, zs, hcs, _, hl, hm, hz, hx, hcell, hwz⟩
  · simp [Value.cells] at hcs
    obtain ⟨rfl, rfl, rfl⟩ := hcs
    simp only [Prod.mk.injEq] at hx
    exact ⟨[], Crs.none_ _ _, by omega, Or.inl ⟨hx.1, rfl⟩⟩
  · simp [Value.cells] at hcs
    obtain ⟨rfl, rfl, rfl⟩ := hcs
    have hz' : zs.length = c := by simpa using hz
    simp only [Prod.mk.injEq] at hx
    obtain ⟨rfl, _⟩ := hx
    refine ⟨_, Crs.open_ hl hm hz' hcell hwz, ?_, Or.inr ⟨zs, hz', rfl⟩⟩
    have h7 := length_le (H := H) (lits .i32 (zs.take n))
    simp only [lits, List.length_map, List.length_take] at h7
    simp only [Rows.uptoBulk, lits]
    omega
def laySizes : Obj → Obj
  | .cells _ t frozen => .cells (zs.map fun z => Value.int .i64 z).toArray t frozen
  | o => o
def layMarks : Obj → Obj
  | .cells _ t frozen => .cells (ms.map fun z => Value.int .u8 z).toArray t frozen
  | o => o
/-- a world in which the tables stand -/
noncomputable def laidWorld (os : Os) : World :=
  { World.holding Tryd.prog os ⟨#[], #[], []⟩ with heap := ((World.holding Tryd.prog os ⟨#[], #[], []⟩).heap.modify 1 laySizes).modify 0 layMarks }
end Go.Proofs.YtillndchojaniaaDoor.Op
