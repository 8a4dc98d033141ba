/-
  undo.Inverse's closure, undo.Inverse. Conditions: rows of at most a thousand units.
-/
import Derived.Test.YtlnekhkdncccgaaUnD
namespace Go.Proofs.Ytlnekhkdncccgaa
open Go.RowKit
open Pl (Un)

/-- an Id in a block of its own -/
def IdAt (w : World) (b : Nat) (x y : Int) : Prop := w.heap[b]? = some (.cells #[.int .u32 x, .int .u64 y] 34 (0, 0))
theorem IdAt.cells {w : World} {b : Nat} {x y : Int} (h : IdAt w b x y) : w.cell? ⟨b, 0, none⟩ = some (.int .u32 x) ∧ w.cell? ⟨b, 1, none⟩ = some (.int .u64 y) := ⟨cell0 (r := [.int .u64 y]) h, cell1 (r := []) h⟩
theorem IdAt.lt {w : World} {b : Nat} {x y : Int} (h : IdAt w b x y) : b < w.heap.size := lt_of_block h
theorem IdAt.tn {T : Nat → Prop} {w w' : World} {b : Nat} {x y : Int} (h : IdAt w b x y) (ht : Tn T w w') (hT : ¬ T b) : IdAt w' b x y := ht.old h hT
set_option maxRecDepth 100000 in
set_option maxHeartbeats 400000 in
theorem invert_any (u : Un) (x y : Int) (pb : Nat) (w : World) (hp : IdAt w pb x y) :
    Calls Try.prog 39 #[uval u, .pointer (some ⟨pb, 0, none⟩)] w fun e w' => e = .returned (uval (Pl.invU x y u)) ∧ Below w.heap.size w w' := by
  obtain ⟨k, p, ch, x0, y0⟩ := u
  have hb2 : Below w.heap.size w ((w.alloc (.cells #[.int .i64 k, .int .i64 p, .int .i32 ch, .int .u32 x0, .int .u64 y0] 42)).alloc (.cells #[.int .i64 0, .int .i64 0, .int .i32 0, .int .u32 0, .int .u64 0] 42)) := below_alloc (below_box _ _) _
  obtain ⟨W2, hW2⟩ : ∃ W2, W2 = (w.alloc (.cells #[.int .i64 k, .int .i64 p, .int .i32 ch, .int .u32 x0, .int .u64 y0] 42)).alloc (.cells #[.int .i64 0, .int .i64 0, .int .i32 0, .int .u32 0, .int .u64 0] 42) := ⟨_, rfl⟩
  rw [← hW2] at hb2
  have hu : UAt W2 w.heap.size k p ch x0 y0 := by rw [hW2]; exact (uat_new w k p ch x0 y0).alloc _
  have hr : UAt W2 (w.heap.size + 1) 0 0 0 0 0 := by rw [hW2]; exact heap_new (by simp)
  obtain ⟨a0, a1, a2, a3, a4⟩ := hu.cells
  obtain ⟨r0, r1, r2, r3, r4⟩ := hr.cells
  have rf := fun j => hr.frozen j
  obtain ⟨i0, i1⟩ := (hp.tn (Tn.of (fun _ => False) hb2) (fun h => h)).cells
  have HR := Lib.hid hr
  have HB := Lib.hid hb2
  have HW := Lib.hid hW2
  obtain ⟨⟨kr, pr, cr, xr, yr⟩, hq⟩ : ∃ q, q = Pl.invU x y ⟨k, p, ch, x0, y0⟩ := ⟨_, rfl⟩
  rw [← hq]
  have HQ := Lib.hid hq
  unfold uval
  simp only
  rw [hW2] at a0 a1 a2 a3 a4 r0 r1 r2 r3 r4 i0 i1
  simp only [hW2] at rf
  clear hu hr hb2 hq hW2 hp
  by_cases h1 : k = 1
  · subst h1
    have HE := Lib.hid (show (⟨kr, pr, cr, xr, yr⟩ : Un) = ⟨2, p, 0, x, y⟩ from HQ.out)
    go_enter Try.func39, Try.ntmps39
    go_wp2_with fail
    exact bodyPost_ret (results_unit rfl (by rfl) (show UAt _ (w.heap.size + 1) 2 p 0 x y from heap_new (by simp))) rfl ⟨by rw [show (.agg #[.int .i64 kr, .int .i64 pr, .int .i32 cr, .int .u32 xr, .int .u64 yr] : Value) = uval ⟨kr, pr, cr, xr, yr⟩ from rfl, HE.out], below_alloc (below_box _ _) _⟩
  · have h1b : (k == 1) = false := by simpa using h1
    by_cases h2 : k = 2
    · subst h2
      have HE := Lib.hid (show (⟨kr, pr, cr, xr, yr⟩ : Un) = ⟨1, p, ch, x, y⟩ from HQ.out)
      go_enter Try.func39, Try.ntmps39
      go_wp2_with fail
      exact bodyPost_ret (results_unit rfl (by rfl) (show UAt _ (w.heap.size + 1) 1 p ch x y from heap_new (by simp))) rfl ⟨by rw [show (.agg #[.int .i64 kr, .int .i64 pr, .int .i32 cr, .int .u32 xr, .int .u64 yr] : Value) = uval ⟨kr, pr, cr, xr, yr⟩ from rfl, HE.out], below_alloc (below_box _ _) _⟩
    · have h2b : (k == 2) = false := by simpa using h2
      have HE := Lib.hid (show (⟨kr, pr, cr, xr, yr⟩ : Un) = ⟨0, 0, 0, x, y⟩ by rw [HQ.out]; unfold Pl.invU; rw [if_neg h1, if_neg h2])
      clear h1 h2
      go_enter Try.func39, Try.ntmps39
      go_wp2_with fail
      exact bodyPost_ret (results_unit rfl (by rfl) (show UAt _ (w.heap.size + 1) 0 0 0 x y from heap_new (by simp))) rfl ⟨by rw [show (.agg #[.int .i64 kr, .int .i64 pr, .int .i32 cr, .int .u32 xr, .int .u64 yr] : Value) = uval ⟨kr, pr, cr, xr, yr⟩ from rfl, HE.out], below_alloc (below_box _ _) _⟩
theorem callInv (args : Array Value) (w : World) : (callFunc 39 args).run Try.prog w = .ok (.enter 39 args) w := by simp [go_sem]
theorem inv_outs (x y : Int) (l : List Un) : (List.range l.length).map (fun j => Pl.invU x y (l.getD j default)) = l.map (Pl.invU x y) := by
  refine List.ext_getElem (by simp) fun i h1 h2 => ?_
  have hi : i < l.length := by simpa using h1
  simp [List.getD_eq_getElem?_getD, hi]
set_option maxRecDepth 100000 in
set_option maxHeartbeats 400000 in
theorem inverse_any (A : Option Addr) (n c : Nat) (l : List Un) (x y : Int) (w : World) (h1 : Uns w w.heap.size A n c l) (hr : n ≤ 1000) :
    Calls Try.prog 12 #[.slice A n c, .agg #[.int .u32 x, .int .u64 y]] w (RetU w (Pl.invR x y l)) := by
  obtain ⟨W1, hW1⟩ : ∃ W1, W1 = w.alloc (.cells #[.int .u32 x, .int .u64 y] 34) := ⟨_, rfl⟩
  have hb1 : Below w.heap.size w W1 := by rw [hW1]; exact below_box _ _
  have hid : IdAt W1 w.heap.size x y := by rw [hW1]; exact heap_new rfl
  have HL := Lib.hid h1.len
  have HLR := Lib.hid (show l.length ≤ 1000 by rw [h1.len]; exact hr)
  have HT := Lib.hid (turn_any 39 #[.pointer (some ⟨w.heap.size, 0, none⟩)] callInv A n c l W1 (Rws.then_ h1 hb1) hr (fun _ X wr => (X = fun b => b = w.heap.size) ∧ IdAt wr w.heap.size x y) (fun j => Pl.invU x y (l.getD j default)) (fun b => b = w.heap.size)
    (fun j X wr _ hS => (invert_any (l.getD j default) x y w.heap.size wr hS.2).mono fun e w' h => ⟨h.1, X, ⟨hS.1, hS.2.tn (Tn.of (fun _ => False) h.2) (fun h => h)⟩, Tn.of _ h.2, fun b hb => Or.inl hb⟩)
    (fun j X Y wr w' hS ht hd => ⟨hS.1, hS.2.tn ht (fun h => hd _ h (by rw [hS.1]))⟩) ⟨rfl, hid⟩ (fun b hb => by rw [hb]; exact hid.lt))
  have HB1 := Lib.hid hb1
  have HW1 := Lib.hid hW1
  clear h1 hb1 hid hW1
  go_enter Try.func12, Try.ntmps12
  go_wp2_with fail
  rw [show w.alloc (.cells #[.int .u32 x, .int .u64 y] 34) = W1 from HW1.out.symm]
  refine HT.out.mono ?_
  rintro e w2 ⟨A2, c2, rfl, ho, _, ht⟩
  rw [inv_outs] at ho
  have HB2 := Lib.hid (show Below w.heap.size w w2 from ht.below HB1.out HB1.out.size (fun b hb => by omega))
  have HV := Lib.hid (reverse_any w2 w.heap.size A2 l.length c2 (l.map (Pl.invU x y)) (OwnR.lower ho HB1.out.size) HLR.out)
  have HOL := Lib.hid ho
  clear ho ht HT
  go_wp2_with fail
  refine HV.out.mono ?_
  rintro e w3 ⟨rfl, ho, ht⟩
  have HO := Lib.hid (show OwnU w3 w.heap.size (.slice A2 l.length c2) (Pl.invR x y l) from ho)
  have HB3 := Lib.hid (show Below w.heap.size w w3 from ht.below HB2.out HB2.out.size (fun b hb => Nat.le_trans HB1.out.size ((HOL.out.lt b hb).1)))
  clear ho ht HV
  go_wp2_with fail
  go_ret
  exact ⟨A2, c2, by rw [Pl.inv_len]; rfl, by rw [Pl.inv_len]; exact HO.out, HB3.out⟩
end Go.Proofs.Ytlnekhkdncccgaa
