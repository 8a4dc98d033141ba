/-
  Rows of units written out as a row; one small word on lists. No conditions but those that each states.
-/
import Derived.Test.YtlnekhkdncccgaaWvI
namespace Go.Proofs.Ytlnekhkdncccgaa
open Go.RowKit
open Pl (Un)

namespace Pl
end Pl
/-- rows written out as a row -/
theorem rows_one (w : World) (q : RowV) (h : Uns w w.heap.size q.A q.n q.c q.l) (hn : q.n ≤ 1000) : RowsV (w.alloc (.cells #[q.val] 23)) (some ⟨w.heap.size, 0, none⟩) [q] := by
  have hb := below_box w (.cells #[q.val] 23)
  refine fun _ => ⟨w.heap.size, rfl, by simp, fun j hj => ?_⟩
  obtain rfl : j = 0 := by simp at hj; exact hj
  exact ⟨cell0 (r := []) (heap_new rfl), Rws.then_ h hb, hn⟩
theorem rows_two (w : World) (q r : RowV) (h : Uns w w.heap.size q.A q.n q.c q.l) (hn : q.n ≤ 1000) (h2 : Uns w w.heap.size r.A r.n r.c r.l) (hn2 : r.n ≤ 1000) : RowsV (w.alloc (.cells #[q.val, r.val] 23)) (some ⟨w.heap.size, 0, none⟩) [q, r] := by
  have hb := below_box w (.cells #[q.val, r.val] 23)
  refine fun _ => ⟨w.heap.size, rfl, by simp, fun j hj => ?_⟩
  rcases j with _ | _ | j
  · exact ⟨cell0 (r := [r.val]) (heap_new rfl), Rws.then_ h hb, hn⟩
  · exact ⟨cell1 (r := []) (heap_new rfl), Rws.then_ h2 hb, hn2⟩
  · simp at hj; omega
theorem get_of_getD {l : List Int} {i : Nat} (h : i < l.length) : l[i]? = some (l.getD i 0) := by
  rw [List.getD_eq_getElem?_getD, List.getElem?_eq_getElem h]; rfl
end Go.Proofs.Ytlnekhkdncccgaa

