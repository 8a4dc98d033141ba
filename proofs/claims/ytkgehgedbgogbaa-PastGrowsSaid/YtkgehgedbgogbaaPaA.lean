/-
  slices.Clone at rows of units, over the words of layer 8, for rows of any length that memory holds (layer 10 bounds no row). Conditions: those that each states.
-/
import Derived.Test.YtkgehgedbgogbaaEdM
import Derived.Lib.SlBytesConst
namespace Go.Proofs.Ytkgehgedbgogbaa
open Go.RowKit
open Pl (Un)

theorem eqlU_nil (A : Option Addr) (n c : Nat) (w : World) : (binOp .eql 36 (.slice A n c) (.slice none 0 0)).run Try.prog w = .ok (.bool A.isNone) w := Lib.run_eql_slice_nil w _ _ A n c 0 0 Try.underlying36
/-- a call's answer: a row of units in new memory, nothing that was there turned -/
def RetU (w : World) (l : List Un) (e : Ending) (w' : World) : Prop := ∃ A c, e = .returned (.slice A l.length c) ∧ OwnU w' w.heap.size (.slice A l.length c) l ∧ Below w.heap.size w w'
set_option maxRecDepth 100000 in
theorem units_lit (w : World) (l : List Un) (hl : l.length ≤ maxLen) : OwnU (w.alloc (.cells (cellsR encU l).toArray 65)) w.heap.size (.slice (some ⟨w.heap.size, 0, none⟩) l.length l.length) l := OwnR.lit encU_len w l hl
theorem OwnU.uns {w : World} {base n c : Nat} {A : Option Addr} {l : List Un} (h : OwnU w base (.slice A n c) l) : Uns w w.heap.size A n c l := (OwnR.rws encU_len h).2
theorem OwnU.len {w : World} {base n c : Nat} {A : Option Addr} {l : List Un} (h : OwnU w base (.slice A n c) l) : n = l.length := (OwnR.rws encU_len h).1
set_option maxRecDepth 100000 in
set_option maxHeartbeats 400000 in
theorem cloneU_big (A : Option Addr) (n c : Nat) (l : List Un) (w : World) (h1 : Uns w w.heap.size A n c l) (hr : n * 40 ≤ 140737488355328) :
    Calls Try.prog 45 #[.slice A n c] w (RetU w l) := by
  cases A with
  | none =>
    have hc : c = 0 := h1.nil_ rfl
    have hn : n = 0 := by have := h1.le; omega
    subst hc hn
    obtain rfl : l = [] := List.eq_nil_of_length_eq_zero h1.len
    have q := eqlU_nil none 0 0
    go_enter Try.func45, Try.ntmps45
    go_wp2_with fail
    go_ret
    exact ⟨none, 0, rfl, OwnR.nil_ _ _ _ _ _, Below.refl _ _⟩
  | some ad =>
    have q := eqlU_nil (some ad) n c
    have hb1 : Below w.heap.size w (w.alloc (.cells #[] 65)) := (Below.refl _ _).alloc (Nat.le_refl _) _
    have HB := Lib.hid (h1.below hb1 (Nat.le_refl _))
    have HV := Lib.hid (show OwnU (w.alloc (.cells #[] 65)) w.heap.size (.slice (some ⟨w.heap.size, 0, none⟩) 0 0) [] from units_lit w [] (by simp))
    have HL := Lib.hid h1.len
    have HB1 := Lib.hid hb1
    clear h1 hb1
    go_enter Try.func45, Try.ntmps45
    go_wp2_with (at_builtin; refine wpList_append_rws encU_len encU_one Try.underlying36 infoUn (by decide) (by decide) (w.alloc (.cells #[] 65)) rfl (.tmp 5) (.tmp 6) rfl w.heap.size _ _ _ [] (by rfl) HV.out w.heap.size _ _ _ l (by rfl) HB.out (by unfold maxLen; omega) (by omega) (by simp) ?_)
    intro A2 c2 w2 hV2 hg2 hx2
    have hb2 := OwnR.grownBelow HV.out hg2 HB1.out (by simp)
    clear hx2 hg2
    have hV2 : OwnU w2 w.heap.size (.slice A2 n c2) l := by simpa using hV2
    have H2 := Lib.hid (And.intro hV2 hb2)
    clear hV2 hb2
    go_wp2_with fail
    go_ret
    refine ⟨A2, c2, ?_, ?_, H2.out.2⟩
    · rw [HL.out]; simp
    · rw [HL.out]; exact H2.out.1
theorem Pl.grows_le (k : Int) : -1 ≤ Pl.grows k ∧ Pl.grows k ≤ 1 := by unfold Pl.grows; split <;> (try split) <;> omega
end Go.Proofs.Ytkgehgedbgogbaa
