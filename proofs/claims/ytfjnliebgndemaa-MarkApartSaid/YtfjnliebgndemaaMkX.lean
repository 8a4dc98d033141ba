/-
  Marks as rows of two cells: what a sort asks of such a row, what it leaves; the comparison of two clients. Conditions: those that each states.
-/
import Derived.Test.YtfjnliebgndemaaMkV
import Derived.Test.YtfjnliebgndemaaShelf
namespace Go.Proofs.Ytfjnliebgndemaa
open Go.RowKit
open Go.Shelf Go.Lib Go.Sort

/-- a mark's two cells -/
def encMk (q : Int × Int) : List Value := [.int .u32 q.1, .int .i64 q.2]
theorem encMk_len (q : Int × Int) : (encMk q).length = 2 := rfl
theorem encMk_one (q : Int × Int) : ∀ u ∈ encMk q, u.oneCell' = true := fun u hu => by
  simp only [encMk, List.mem_cons, List.not_mem_nil, or_false] at hu
  rcases hu with rfl | rfl <;> rfl
/-- who comes first -/
def cmpMk (x y : Int × Int) : Int := if x.1 < y.1 then -1 else if y.1 < x.1 then 1 else 0
theorem cmpMk_lt (x y : Int × Int) : ltOf cmpMk x y = decide (x.1 < y.1) := by
  unfold ltOf cmpMk
  by_cases h1 : x.1 < y.1
  · simp [h1]
  · by_cases h2 : y.1 < x.1 <;> simp [h1, h2]
theorem cmpMk_swo : Go.Sort.SWO (ltOf cmpMk) where
  irrefl x := by rw [cmpMk_lt]; simp
  trans x y z h1 h2 := by rw [cmpMk_lt] at *; simp at *; omega
  ntrans x y z h1 h2 := by rw [cmpMk_lt] at *; simp at *; omega
/-- what the sort asks of the row -/
theorem holds_of {w : World} {g c : Nat} {l : List (Int × Int)} (h : Rws encMk w w.heap.size (some ⟨g, 0, none⟩) l.length c l) (hn : 0 < l.length) (hb : ∃ cs, w.heap[g]? = some (.cells cs 61 (0, 0))) : HoldsK encMk 2 w g 0 l.toArray ∧ g < w.heap.size := by
  obtain ⟨g', o, e, hg, hc⟩ := Rws.at_ encMk_len h hn
  cases e
  obtain ⟨cs, hcs⟩ := hb
  refine ⟨fun j hj => ?_, hg⟩
  rw [size_flatK] at hj
  simp only [List.size_toArray] at hj
  have h1 : j / 2 < l.length := by omega
  have h2 := hc (j / 2) h1 (j % 2)
  rw [show j / 2 * 2 + j % 2 = j by omega] at h2
  refine ⟨?_, frozen_of_row w g _ _ _ hcs⟩
  rw [get_flatK encMk 2 l.toArray j (by simpa using hj)]
  have e1 : l.toArray[j / 2]! = l.getD (j / 2) default := by
    rw [List.getD_eq_getElem?_getD, List.getElem?_eq_getElem h1]
    simp [h1]
  rw [e1]
  refine h2 _ (by omega) ?_
  obtain ⟨a, b⟩ := l.getD (j / 2) default
  rcases Nat.mod_two_eq_zero_or_one j with e | e <;> rw [e] <;> rfl
/-- what the sort leaves -/
theorem rows_of {w : World} {g c : Nat} {d : Array (Int × Int)} (h : HoldsK encMk 2 w g 0 d) (hg : g < w.heap.size) (hc : d.size ≤ c) (hm : c ≤ maxLen) : Rws encMk w w.heap.size (some ⟨g, 0, none⟩) d.size c d.toList := by
  refine ⟨by simp, hc, hm, (fun e => by cases e), fun _ => ⟨g, 0, rfl, hg, fun j u hu => ?_⟩⟩
  have hj : j < (cellsR encMk d.toList).length := (List.getElem?_eq_some_iff.1 hu).1
  rw [len_cellsR encMk_len] at hj
  simp only [Array.length_toList] at hj
  have h1 : j / 2 < d.size := by omega
  have := (HoldsK.cell h h1 (c := j % 2) (by omega)).1
  rw [show 0 + j / 2 * 2 + j % 2 = 0 + j by omega] at this
  rw [this]
  have e2 := cellsR_at encMk_len d.toList (j / 2) (j % 2) (by simpa using h1) (by omega)
  rw [show j / 2 * 2 + j % 2 = j by omega, hu] at e2
  have e1 : d[j / 2]! = d.toList.getD (j / 2) default := by
    rw [List.getD_eq_getElem?_getD, List.getElem?_eq_getElem (by simpa using h1)]
    simp [h1]
  rw [e1, e2]
  obtain ⟨a, b⟩ := d.toList.getD (j / 2) default
  rcases Nat.mod_two_eq_zero_or_one j with e | e <;> rw [e] <;> rfl
/-- the row's block alone has turned -/
theorem sort_tn (w : World) (g n : Nat) (d : Array (Int × Int)) (os : Array Obj) : Tn (fun i => i = g) w (sortWorldK encMk 2 w g 0 n d os) := by
  refine ⟨rfl, rfl, rfl, ?_, fun i hi hn => ?_⟩
  · simp [sortWorldK, Go.Sort.grow, putRowK, Go.Sort.putRow, Go.Sort.mapBlock, Go.Sort.ahead]
  · unfold sortWorldK
    rw [Go.Sort.heap_grow_old _ _ (by simpa [putRowK, Go.Sort.putRow, Go.Sort.mapBlock, Go.Sort.ahead] using hi)]
    simp only [putRowK, Go.Sort.putRow, Go.Sort.mapBlock, Go.Sort.ahead]
    rw [Array.getElem?_modify, if_neg (fun e => hn e.symm)]
end Go.Proofs.Ytfjnliebgndemaa
