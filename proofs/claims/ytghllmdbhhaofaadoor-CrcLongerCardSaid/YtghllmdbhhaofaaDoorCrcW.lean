/-
  Contract of the statements' own 'wakes': it returns true in every world in which the table stands in crc.steps; nothing that was there turned.
-/
import Derived.Test.YtghllmdbhhaofaaDoorCrcC
import Derived.Lib.SlBytesConst
namespace Go.Proofs.YtghllmdbhhaofaaDoor
open Go.RowKit

theorem ret_bool {a b : Bool} (h : a = b) : Ending.returned (.bool a) = .returned (.bool b) := by rw [h]
/-- Strip of a frame -/
theorem strip_ok (A : Option Addr) (n c : Nat) (bs : List Nat) (w : World) (hT : Tab w) (h1 : Bys w w.heap.size A n c (Pl.mark bs)) (hr : n ≤ 140737488355328) :
    Calls Tryd.prog 11 #[.slice A n c] w fun e w' => ∃ g cap, e = .returned (.tuple #[.slice (some ⟨g, 0, none⟩) bs.length cap, .int .i64 0]) ∧ Own w' w.heap.size g cap bs ∧ Below w.heap.size w w' := by
  have hl := h1.len
  rw [Pl.mark_len] at hl
  have e1 : (Pl.mark bs).take (n - 4) = bs := by rw [Pl.mark, List.take_append_of_le_length (by omega), List.take_of_length_le (by omega)]
  have e2 : (Pl.mark bs).drop (n - 4) = Pl.lay 4 (Pl.sum bs) := by rw [Pl.mark, List.drop_append_of_le_length (by omega), List.drop_of_length_le (by omega), List.nil_append]
  refine (strip_any A n c _ w hT h1 (by omega) hr).mono fun e w' ⟨h3, _, h4⟩ => ?_
  rw [e1, e2] at h4
  obtain ⟨g, cap, h5, h6⟩ := h4 (decide_eq_true rfl)
  exact ⟨g, cap, h5, h6, h3⟩
/-- Strip of what is no frame -/
theorem strip_bad (A : Option Addr) (n c : Nat) (bs : List Nat) (w : World) (hT : Tab w) (h1 : Bys w w.heap.size A n c bs) (h4 : 4 ≤ n) (hr : n ≤ 140737488355328) (hne : Pl.lay 4 (Pl.sum (bs.take (n - 4))) ≠ bs.drop (n - 4)) :
    Calls Tryd.prog 11 #[.slice A n c] w fun e w' => e = .returned (.tuple #[.slice none 0 0, .int .i64 20]) ∧ Below w.heap.size w w' :=
  (strip_any A n c _ w hT h1 h4 hr).mono fun _ _ ⟨h3, h5, _⟩ => ⟨h5 (decide_eq_false hne), h3⟩
theorem strip_bad_lit (W : World) (bs : List Nat) (hT : Tab W) (ho : bs.all (fun x => decide (x < 256)) = true) (h4 : 4 ≤ bs.length) (hl : bs.length ≤ 1000) (hne : Pl.lay 4 (Pl.sum (bs.take (bs.length - 4))) ≠ bs.drop (bs.length - 4)) :
    Calls Tryd.prog 11 #[.slice (some ⟨W.heap.size, 0, none⟩) bs.length bs.length] (W.alloc (.cells (cellsOf bs).toArray 5)) fun e w' => e = .returned (.tuple #[.slice none 0 0, .int .i64 20]) ∧ Below W.heap.size W w' :=
  (strip_bad _ _ _ bs _ (hT.below ((Below.refl _ _).alloc (Nat.le_refl _) _) hT.pos) ((bys_lit W bs (oct_lit bs ho) (by unfold maxLen; omega)).more (by simp)) h4 (by omega) hne).mono
    fun _ _ ⟨h1, h2⟩ => ⟨h1, ((Below.refl _ _).alloc (Nat.le_refl _) _).trans (h2.mono (by simp))⟩
/-- Sum of one row that is laid out at the call -/
theorem sum_bytes (W : World) (bs : List Nat) (fr : Nat × Nat) (hT : Tab W) (ho : bs.all (fun x => decide (x < 256)) = true) (hl : bs.length ≤ 1000) (s : Nat) (hs : Pl.sum bs = s) :
    Calls Tryd.prog 13 #[.slice (some ⟨W.heap.size + 1, 0, none⟩) 1 1] ((W.alloc (.cells (cellsOf bs).toArray 5 fr)).alloc (.cells #[.slice (some ⟨W.heap.size, 0, none⟩) bs.length bs.length] 23)) fun e w' =>
      e = .returned (.int .u32 (s : Int)) ∧ Below W.heap.size W w' := by
  have h := sum_one (W.alloc (.cells (cellsOf bs).toArray 5 fr)) (some ⟨W.heap.size, 0, none⟩) bs.length bs.length bs (hT.below ((Below.refl _ _).alloc (Nat.le_refl _) _) hT.pos) ((bys_cells W bs _ fr (oct_lit bs ho) (by unfold maxLen; omega)).more (by simp))
  have e : (W.alloc (.cells (cellsOf bs).toArray 5 fr)).heap.size = W.heap.size + 1 := by simp
  rw [e, hs] at h
  exact h.mono fun _ _ ⟨h1, h2⟩ => ⟨h1, ((Below.refl _ _).alloc (Nat.le_refl _) _).trans (h2.mono (by simp))⟩
theorem Bys.conv {w : World} {B : Nat} {A : Option Addr} {n c : Nat} {bs : List Nat} (h : Bys w B A n c bs) : (convert 23 9 (.slice A n c)).run Tryd.prog w = .ok (.string (strOfNums (ints bs))) w :=
  h.bytesIn.convert (P := Tryd.prog) (by rw [ints, List.length_map, h.len]) c 23 5 9 Tryd.underlying23 Tryd.underlying5 Tryd.underlying9
theorem mark_nil : Pl.mark [] = [0, 0, 0, 0] := by decide
theorem str4 : strOfNums (ints [0, 0, 0, 0]) = ⟨#[0, 0, 0, 0]⟩ := by decide

set_option maxRecDepth 100000 in
set_option maxHeartbeats 400000 in
theorem wakes_any (w : World) (hT : Tab w) : Calls Tryd.prog 16 #[] w fun e w' => e = .returned (.bool true) ∧ Below w.heap.size w w' := by
  obtain ⟨i0, hi, hz0, hz1, hz2⟩ := info_parts infoByte
  have HI := Lib.hid (show i0.bytes * 3 ≤ 281474976710656 by rw [hz2]; omega)
  clear hz2
  have kc := fun (w : World) (C : Array Value) => Lib.run_convert_bytes_const (P := Tryd.prog) w 23 5 C 9 9 Tryd.underlying23 Tryd.underlying5
  go_enter Tryd.func16, Tryd.ntmps16
  go_wp2_with (at_make; refine wpList_make_full _ rfl (.const (.int .i64 3)) (.const (.int .i64 3)) 23 rfl w.heap.size 5 i0 (.int .u8 0) 1 Tryd.underlying23 hi hz0 hz1 .i64 .i64 _ _ 3 rfl rfl rfl rfl ?c2 ?c3 ?c4 ?_)
  case c2 => exact HI.out
  case c3 => decide
  case c4 => exact Nat.le_refl _
  intro w1 o1 g1
  have hb1 : Below w.heap.size w w1 := (Below.refl _ w).grown g1 (Nat.le_refl _) (fun k e => by cases e)
  have hT1 := hT.below hb1 hT.pos
  clear o1 g1 hz0 hz1 hi
  go_wp2_with fail
  refine (strip_short _ 3 3 w1 (by omega)).mono ?_
  rintro e w1' ⟨rfl, rfl⟩
  go_wp2_with fail
  refine (strip_bad_lit w1 [0, 0, 0, 1] hT1 (by decide) (by decide) (by decide) (by decide)).mono ?_
  rintro e w2 ⟨rfl, hb2⟩
  have hT2 := hT1.below hb2 hT1.pos
  go_wp2_with fail
  refine (sum_bytes w2 [49, 50, 51, 52, 53, 54, 55, 56, 57] (9, 10) hT2 (by decide) (by decide) 3421780262 (by decide +kernel)).mono ?_
  rintro e w3 ⟨rfl, hb3⟩
  have hT3 := hT2.below hb3 hT2.pos
  go_wp2_with fail
  refine (sum_any none 0 0 [] w3 hT3 (Parts.none_ _ _)).mono ?_
  rintro e w3' ⟨rfl, rfl⟩
  rw [List.flatten_nil, Pl.sum_nil]
  go_wp2_with fail
  refine (sum_bytes w3 [0] (0, 0) hT3 (by decide) (by decide) 3523407757 (by decide +kernel)).mono ?_
  rintro e w4 ⟨rfl, hb4⟩
  have hT4 := hT3.below hb4 hT3.pos
  go_wp2_with fail
  refine (mark_any none 0 0 [] w4 hT4 (Bys.none_ _ _) (by omega)).mono ?_
  rw [mark_nil]
  rintro e w5 ⟨g5, c5, rfl, hO5, hb5⟩
  have hc5 := hO5.bys.conv
  rw [str4] at hc5
  have hc5' : (convert 23 9 (.slice (some ⟨g5, 0, none⟩) 4 c5)).run Tryd.prog w5 = .ok (.string ⟨#[0, 0, 0, 0]⟩) w5 := hc5
  clear hc5
  go_wp2_with fail
  go_ret
  refine ⟨rfl, ?_⟩
  have s1 := hb1.size; have s2 := hb2.size; have s3 := hb3.size; have s4 := hb4.size; have s5 := hb5.size
  exact (((hb1.trans (hb2.mono (by omega))).trans (hb3.mono (by omega))).trans (hb4.mono (by omega))).trans (hb5.mono (by omega))
end Go.Proofs.YtghllmdbhhaofaaDoor
