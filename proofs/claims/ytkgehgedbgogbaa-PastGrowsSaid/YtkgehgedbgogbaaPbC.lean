/-
  The law's wakes: the chapter's rows. Conditions: none.
-/
import Derived.Test.YtkgehgedbgogbaaPbB
namespace Go.Proofs.Ytkgehgedbgogbaa
open Go.RowKit
open Pl (Un)

namespace Pl
/-- what 'end' gives -/
def E (pos : Int) : Op := ⟨0, 0, [⟨1, pos, 122, 0, 0⟩], false⟩
/-- the zero operation -/
def Z : Op := ⟨0, 0, [], false⟩
end Pl
theorem past_new {w : World} {p : Nat} {F : Nat → Prop} {fr : Nat} {N : Int} {P : List Pl.Op} (h : PastAt w p F fr N P) : ∀ b, w.heap.size ≤ b → b ≠ p := fun b hb e => by have := h.lt; omega
theorem tn_past {w0 w w' : World} {p : Nat} (hp : w0.heap.size ≤ p) (h : Below w0.heap.size w0 w) (ht : Tn (fun b => b = p) w w') : Below w0.heap.size w0 w' := ht.below h h.size (fun b hb => by rw [hb]; exact hp)
set_option maxRecDepth 100000 in
set_option maxHeartbeats 1000000 in
theorem wakes_any (w : World) : Calls Try.prog 19 #[] w fun e w' => e = .returned (.bool true) ∧ Below w.heap.size w w' := by
  go_enter Try.func19, Try.ntmps19
  go_wp2_with fail
  refine (show Calls Try.prog 7 #[.int .u64 7, .int .i64 3] w _ from new_any 7 3 w (by decide) (by decide)).mono ?_
  rintro e w1 ⟨rfl, hp1, hb1⟩
  obtain ⟨p, hp⟩ : ∃ p, p = w.heap.size + 1 := ⟨_, rfl⟩
  rw [← hp] at hp1 ⊢
  have HLE := Lib.hid (show w.heap.size ≤ p by omega)
  have HP1 := Lib.hid hp1
  have HB1 := Lib.hid hb1
  clear hp hp1 hb1
  go_wp2_with fail
  refine (end_any 3 _).mono ?_
  rintro e w2 ⟨A2, c2, rfl, ho2, hb2⟩
  have hq2 := HP1.out.then_ hb2
  have HB2 := Lib.hid (below_then HB1.out hb2)
  have HU2 := Lib.hid (push_ok hq2 (past_new hq2) 0 0 A2 1 c2 [⟨1, 3, 122, 0, 0⟩] false (OwnU.uns ho2) (by decide) (by decide) 4 (by decide) (by decide) (by decide))
  clear ho2 hb2 hq2
  go_wp2_with fail
  refine HU2.out.mono ?_
  rintro e w3 ⟨rfl, hp3, ht3⟩
  have HP3 := Lib.hid (show PastAt w3 p (fun b => b ≠ p) 7 3 [Pl.E 3] from hp3)
  have HB3 := Lib.hid (tn_past HLE.out HB2.out ht3)
  have HU3 := Lib.hid (push_ok hp3 (past_new hp3) 0 0 none 0 0 [] false (Rws.none_ _ _ _) (by decide) (by decide) 4 (by decide) (by decide) (by decide))
  clear hp3 ht3 HU2 HP1
  go_wp2_with fail
  refine HU3.out.mono ?_
  rintro e w4 ⟨rfl, hp4, ht4⟩
  have HP4 := Lib.hid (show PastAt w4 p (fun b => b ≠ p) 7 3 [Pl.E 3, Pl.Z] from hp4)
  have HB4 := Lib.hid (tn_past HLE.out HB3.out ht4)
  have HL4 := Lib.hid (length_ok HP4.out 1 8 (by decide) (by decide))
  clear hp4 ht4 HU3 HP3
  go_wp2_with fail
  refine (show Calls Try.prog 17 #[.pointer (some ⟨p, 0, none⟩), .int .u64 8] w4 _ from HL4.out).mono ?_
  rintro e w5 ⟨rfl, hb5⟩
  have HP5 := Lib.hid (HP4.out.then_ hb5)
  have HB5 := Lib.hid (below_then HB4.out hb5)
  have HS5 := Lib.hid (since_ok HP5.out 1 8 (by decide) (by decide))
  clear hb5 HL4 HP4
  go_wp2_with fail
  refine (show Calls Try.prog 16 #[.pointer (some ⟨p, 0, none⟩), .int .u64 8] w5 _ from HS5.out).mono ?_
  rintro e w6 ⟨A6, c6, rfl, _, hb6⟩
  have HP6 := Lib.hid (HP5.out.then_ hb6)
  have HB6 := Lib.hid (below_then HB5.out hb6)
  have HS6 := Lib.hid (since_bad HP6.out 6 (by decide) 32 (by decide) (by decide))
  clear hb6 HS5 HP5
  go_wp2_with fail
  refine (show Calls Try.prog 16 #[.pointer (some ⟨p, 0, none⟩), .int .u64 6] w6 _ from HS6.out).mono ?_
  rintro e w7 ⟨rfl, hb7⟩
  have HP7 := Lib.hid (HP6.out.then_ hb7)
  have HB7 := Lib.hid (below_then HB6.out hb7)
  have HS7 := Lib.hid (since_bad HP7.out 10 (by decide) 31 (by decide) (by decide))
  clear hb7 HS6 HP6
  go_wp2_with fail
  refine (show Calls Try.prog 16 #[.pointer (some ⟨p, 0, none⟩), .int .u64 10] w7 _ from HS7.out).mono ?_
  rintro e w8 ⟨rfl, hb8⟩
  have HP8 := Lib.hid (HP7.out.then_ hb8)
  have HB8 := Lib.hid (below_then HB7.out hb8)
  have HS8 := Lib.hid (undo_ok HP8.out (past_new HP8.out) 1 8 (by decide) (by decide) (by decide) (by decide))
  clear hb8 HS7 HP7
  go_wp2_with fail
  refine (show Calls Try.prog 20 #[.pointer (some ⟨p, 0, none⟩), .int .u64 8] w8 _ from HS8.out).mono ?_
  rintro e w9 ⟨rfl, hp9, ht9⟩
  have HP9 := Lib.hid hp9
  have HB9 := Lib.hid (tn_past HLE.out HB8.out ht9)
  have HS9 := Lib.hid (undo_done HP9.out 1 8 (by decide) (by decide) (by decide) (by decide))
  clear hp9 ht9 HS8 HP8
  go_wp2_with fail
  refine (show Calls Try.prog 20 #[.pointer (some ⟨p, 0, none⟩), .int .u64 8] w9 _ from HS9.out).mono ?_
  rintro e w10 ⟨rfl, hb10⟩
  have HP10 := Lib.hid (HP9.out.then_ hb10)
  have HB10 := Lib.hid (below_then HB9.out hb10)
  have HS10 := Lib.hid (at_bad HP10.out 7 (by decide) 32 (by decide) (by decide))
  clear hb10 HS9 HP9
  go_wp2_with fail
  refine (show Calls Try.prog 22 #[.pointer (some ⟨p, 0, none⟩), .int .u64 7] w10 _ from HS10.out).mono ?_
  rintro e w11 ⟨rfl, hb11⟩
  have HP11 := Lib.hid (HP10.out.then_ hb11)
  have HB11 := Lib.hid (below_then HB10.out hb11)
  have HB12 := Lib.hid (below_alloc HB11.out (.cells #[.int .u32 0, .int .u64 0, .slice none 0 0, .bool false] 38))
  have HN12 := Lib.hid (now_past (HP11.out.then_ (below_box w11 (.cells #[.int .u32 0, .int .u64 0, .slice none 0 0, .bool false] 38))))
  clear hb11 HS10 HP10
  go_wp2_with fail
  refine HN12.out.mono ?_
  rintro e w13 ⟨rfl, hw⟩
  rw [hw]
  clear hw
  go_wp2_with fail
  go_ret
  exact ⟨rfl, HB12.out⟩
end Go.Proofs.Ytkgehgedbgogbaa
