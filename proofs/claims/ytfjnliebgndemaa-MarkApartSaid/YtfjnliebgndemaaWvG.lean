/-
  The statements' own awake (the document's examples): it returns true; nothing that was there turned. No conditions.
-/
import Derived.Test.YtfjnliebgndemaaWvF
namespace Go.Proofs.Ytfjnliebgndemaa
open Go.RowKit
open Pl (Un)

theorem both1 : Pl.bothR [⟨1, 0, 120, 1, 1⟩] [⟨1, 0, 121, 2, 1⟩] = ([⟨1, 0, 120, 1, 1⟩], [⟨1, 1, 121, 2, 1⟩]) := by decide +kernel
theorem both2 : Pl.bothR [⟨2, 0, 0, 1, 1⟩] [⟨1, 0, 121, 2, 1⟩] = ([⟨2, 1, 0, 1, 1⟩], [⟨1, 0, 121, 2, 1⟩]) := by decide +kernel
theorem leave1 : Pl.leave [⟨1, 0, 121, 2, 1⟩, ⟨1, 0, 120, 1, 1⟩] [109] = [120, 121, 109] := by decide +kernel
theorem place1 : Pl.placeR 1 [⟨1, 0, 121, 2, 1⟩] = 2 := by decide +kernel
theorem fit1 : Pl.FitR [⟨1, 0, 121, 2, 1⟩, ⟨1, 0, 120, 1, 1⟩] [109] := ⟨by decide, by decide, trivial⟩
theorem long1 : Pl.longL [⟨1, 1, 120, 1, 1⟩] 0 = (0, 30) := by decide +kernel
/-- one unit, written out -/
theorem unit_row (w : World) (k p c x y : Int) : OwnU (w.alloc (.cells #[.int .i64 k, .int .i64 p, .int .i32 c, .int .u32 x, .int .u64 y] 57)) w.heap.size (.slice (some ⟨w.heap.size, 0, none⟩) 1 1) [⟨k, p, c, x, y⟩] := units_lit w [⟨k, p, c, x, y⟩] (by simp [maxLen])
theorem chars_row (w : World) (cs : List Int) (hj : ∀ x ∈ cs, Pl.J x) (hl : cs.length ≤ maxLen) : Crs (w.alloc (.cells (cellsC cs).toArray 25)) (w.alloc (.cells (cellsC cs).toArray 25)).heap.size (some ⟨w.heap.size, 0, none⟩) cs.length cs.length cs := (crs_lit w cs hj hl).crs.2
theorem small_js {cs : List Int} (h : ∀ x ∈ cs, 0 ≤ x ∧ x ≤ 1000000) : ∀ x ∈ cs, Pl.J x := fun x hx => by have := h x hx; unfold Pl.J; omega
/-- the place of a row's first unit -/
theorem OwnU.first {w : World} {base g n c : Nat} {u : Un} {l : List Un} (h : OwnU w base (.slice (some ⟨g, 0, none⟩) n c) (u :: l)) : w.cell? ⟨g, 1, none⟩ = some (.int .i64 u.p) := by
  have hn := h.len
  have := (OwnU.cells h (i := 0) (by rw [hn]; simp)).2.1
  simpa using this
theorem OwnU.block {w : World} {base n c : Nat} {A : Option Addr} {l : List Un} (h : OwnU w base (.slice A n c) l) (hn : 0 < n) : ∃ g, A = some ⟨g, 0, none⟩ := by
  obtain ⟨g, e, _⟩ := OwnR.pos_ h hn
  exact ⟨g, e⟩
end Go.Proofs.Ytfjnliebgndemaa
