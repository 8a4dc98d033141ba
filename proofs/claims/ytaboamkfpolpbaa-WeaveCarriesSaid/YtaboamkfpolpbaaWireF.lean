/-
  Contracts of the reader of wire, the second part (bounded, Upto, Bool, Count, take, Bytes, Str, End), in any state and of none: what each answers and leaves. Conditions: those that each states.
-/
import Derived.Test.YtaboamkfpolpbaaWireE
import Derived.Test.YtaboamkfpolpbaaWireB
namespace Go.Proofs.Ytaboamkfpolpbaa.Wi
open Go.RowKit

set_option maxRecDepth 100000 in
set_option maxHeartbeats 400000 in
theorem bounded_any (A : Option Addr) (F : Nat → Prop) (r : List Nat) (e : Int) (most : Nat) (ab : Int) (w : World) (h : Rd w A F r e) (hab : ab ≠ 0) (hI : Pl.I ab) :
    Calls Try.prog 69 #[.pointer A, .int .u64 (most : Int), .int .i64 ab] w fun en w' => en = .returned (.int .u64 (((Pl.rb r e most ab).1 : Nat) : Int)) ∧ RdTo w A F (Pl.rb r e most ab).2 w' := by
  have HN := Lib.hid (rnum_any A F r e w h)
  have HP := Lib.hid (Pl.rn_pos (r := r) (e := e))
  unfold Pl.rb
  obtain ⟨x, r1, e1, hx⟩ : ∃ x r1 e1, Pl.rn r e = (x, r1, e1) := ⟨_, _, _, rfl⟩
  rw [hx] at HN HP ⊢
  clear hx h
  by_cases hlt : most < x
  · go_enter Try.func69, Try.ntmps69
    go_wp2_with fail
    refine HN.out.mono ?_
    rintro en w1 ⟨rfl, hR, hT⟩
    obtain rfl : e1 = 0 := HP.out (by show 0 < x; omega)
    have HF := Lib.hid (fail_now A F r1 ab w1 hR hab hI)
    clear hab
    go_wp2_with fail
    refine HF.out.mono ?_
    rintro en w2 ⟨rfl, hR2, hT2⟩
    go_wp2_with fail
    go_ret
    exact ⟨rfl, hR2, hT.trans hT2 (fun _ _ x => x)⟩
  · go_enter Try.func69, Try.ntmps69
    go_wp2_with fail
    refine HN.out.mono ?_
    rintro en w1 ⟨rfl, hR, hT⟩
    go_wp2_with fail
    go_ret
    exact ⟨rfl, hR, hT⟩

set_option maxRecDepth 100000 in
theorem I3 : Pl.I 3 := Pl.I.mk (by omega)
set_option maxRecDepth 100000 in
theorem I5 : Pl.I 5 := Pl.I.mk (by omega)
set_option maxRecDepth 100000 in
theorem upto_any (A : Option Addr) (F : Nat → Prop) (r : List Nat) (e : Int) (most : Nat) (w : World) (h : Rd w A F r e) :
    Calls Try.prog 57 #[.pointer A, .int .u64 (most : Int)] w fun en w' => en = .returned (.int .u64 (((Pl.rb r e most 3).1 : Nat) : Int)) ∧ RdTo w A F (Pl.rb r e most 3).2 w' := by
  have HN := Lib.hid (bounded_any A F r e most 3 w h (by omega) I3)
  clear h
  go_enter Try.func57, Try.ntmps57
  go_wp2_with fail
  refine HN.out.mono ?_
  rintro en w1 ⟨rfl, hR⟩
  go_wp2_with fail
  go_ret
  exact ⟨rfl, hR⟩
set_option maxRecDepth 100000 in
theorem count_any (A : Option Addr) (F : Nat → Prop) (r : List Nat) (e m : Int) (w : World) (h : Rd w A F r e) (hm : Pl.I m) :
    Calls Try.prog 44 #[.pointer A, .int .i64 m] w fun en w' => en = .returned (.int .i64 (((Pl.rb r e m.toNat 3).1 : Nat) : Int)) ∧ RdTo w A F (Pl.rb r e m.toNat 3).2 w' := by
  have HN := Lib.hid (upto_any A F r e m.toNat w h)
  have HL := Lib.hid (Pl.rb_le (r := r) (e := e) (most := m.toNat) (ab := 3))
  obtain ⟨x, r1, e1, hx⟩ : ∃ x r1 e1, Pl.rb r e m.toNat 3 = (x, r1, e1) := ⟨_, _, _, rfl⟩
  rw [hx] at HN HL ⊢
  have hx63 : x ≤ 9223372036854775807 := by have := hm.out; have := HL.out; simp only at this; omega
  have hm' : m ≤ 9223372036854775807 := by have := hm.out; omega
  have HM := Lib.hid (show max m 0 = (m.toNat : Int) by omega)
  clear h hx hm
  go_enter Try.func44, Try.ntmps44
  go_wp2_with fail
  rw [HM.out]
  refine HN.out.mono ?_
  rintro en w1 ⟨rfl, hR⟩
  go_wp2_with fail
  go_ret
  exact ⟨rfl, hR⟩

/-- what take answers and leaves -/
def Took (w : World) (A : Option Addr) (F : Nat → Prop) (t : List Nat × List Nat × Int) (en : Ending) (w' : World) : Prop :=
  ∃ A2 c2, en = .returned (.slice A2 t.1.length c2) ∧ Bys w' w'.heap.size A2 t.1.length c2 t.1 ∧ RdTo w A F t.2 w'

end Go.Proofs.Ytaboamkfpolpbaa.Wi
