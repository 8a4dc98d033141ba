/-
  weave.readUnit and weave.Read at the bytes of a row. Conditions: those that each states.
-/
import Derived.Test.YtaboamkfpolpbaaWvS
namespace Go.Proofs.Ytaboamkfpolpbaa
open Go.RowKit
open Pl (Un)

theorem rn_enc (n : Nat) (r1 : List Nat) (h : Wi.Pl.U n) : Wi.Pl.rn (Wi.Pl.enc n ++ r1) 0 = (n, r1, 0) := by
  have hg := Wi.Pl.get_enc n r1 h.out
  rw [Wi.Pl.rn_ok (by rw [hg]), hg]
  simp only
  rw [← Wi.Pl.len_enc n, List.drop_left]
theorem rb_enc (n m : Nat) (ab : Int) (r1 : List Nat) (h : Wi.Pl.U n) (hm : n ≤ m) : Wi.Pl.rb (Wi.Pl.enc n ++ r1) 0 m ab = (n, r1, 0) := by
  unfold Wi.Pl.rb; rw [rn_enc n r1 h]; simp only; rw [if_neg (by omega)]
/-- Num at the bytes of a number -/
theorem rnum_enc {A : Option Addr} {F : Nat → Prop} {w : World} (n : Nat) (r1 : List Nat) (hn : n ≤ 18446744073709551615) (h : Wi.Rd w A F (Wi.Pl.enc n ++ r1) 0) :
    Calls Try.prog 58 #[.pointer A] w fun en w' => en = .returned (.int .u64 (n : Int)) ∧ Wi.RdTo w A F (r1, 0) w' := by
  have := Wi.rnum_any A F _ 0 w h
  rw [rn_enc n r1 (Wi.Pl.U.mk (by omega))] at this
  exact this
/-- Upto at the bytes of a number that is not above it -/
theorem upto_enc {A : Option Addr} {F : Nat → Prop} {w : World} (n m : Nat) (r1 : List Nat) (hn : n ≤ 18446744073709551615) (hm : n ≤ m) (h : Wi.Rd w A F (Wi.Pl.enc n ++ r1) 0) :
    Calls Try.prog 57 #[.pointer A, .int .u64 (m : Int)] w fun en w' => en = .returned (.int .u64 (n : Int)) ∧ Wi.RdTo w A F (r1, 0) w' := by
  have := Wi.upto_any A F _ 0 m w h
  rw [rb_enc n m 3 r1 (Wi.Pl.U.mk (by omega)) hm] at this
  exact this
/-- a reader with r left since w, and a unit's box at w's end -/
def RuS (w : World) (A : Option Addr) (F : Nat → Prop) (r : List Nat) (k q c x y : Int) (w1 : World) : Prop :=
  Wi.Rd w1 A F r 0 ∧ Wi.Tn (Wi.Pt A) w w1 ∧ ¬ F w.heap.size ∧ UAt w1 w.heap.size k q c x y
theorem RuS.uat {w w1 : World} {A : Option Addr} {F : Nat → Prop} {r : List Nat} {k q c x y : Int} (h : RuS w A F r k q c x y w1) : UAt w1 w.heap.size k q c x y := h.2.2.2
theorem RuS.to {w w1 : World} {A : Option Addr} {F : Nat → Prop} {r : List Nat} {k q c x y : Int} (h : RuS w A F r k q c x y w1) : Wi.RdTo w A F (r, 0) w1 := ⟨h.1, h.2.1⟩
theorem RuS.start {w : World} {A : Option Addr} {F : Nat → Prop} {r : List Nat} (h : Wi.Rd w A F r 0) (k q c x y : Int) : RuS w A F r k q c x y (w.alloc (.cells #[.int .i64 k, .int .i64 q, .int .i32 c, .int .u32 x, .int .u64 y] 36)) :=
  ⟨h.below (below_box _ _), Wi.Tn.of _ (below_box _ _), fun hf => by have := h.lt _ hf; omega, uat_new _ _ _ _ _ _⟩
theorem RuS.on {w w1 w2 : World} {A : Option Addr} {F : Nat → Prop} {r r1 : List Nat} {k q c x y : Int} (h : RuS w A F r k q c x y w1) (g : Wi.RdTo w1 A F (r1, 0) w2) : RuS w A F r1 k q c x y w2 :=
  ⟨g.1, h.2.1.trans g.2 (fun _ _ x => x), h.2.2.1, UAt.tn h.2.2.2 (tn_of_wi g.2) (fun hp => h.2.2.1 (h.1.pt _ hp))⟩
theorem RuS.sets {w w1 : World} {A : Option Addr} {F : Nat → Prop} {r : List Nat} {k q c x y : Int} (h : RuS w A F r k q c x y w1) (v0 v1 v2 v3 v4 : Value) :
    Wi.RdTo w A F (r, 0) (((((w1.setCell ⟨w.heap.size, 0, none⟩ v0).setCell ⟨w.heap.size, 1, none⟩ v1).setCell ⟨w.heap.size, 2, none⟩ v2).setCell ⟨w.heap.size, 3, none⟩ v3).setCell ⟨w.heap.size, 4, none⟩ v4) := by
  have hl : w.heap.size ≤ w.heap.size := Nat.le_refl _
  refine ⟨h.1.keep (T := fun b => b = w.heap.size) ?_ (fun b hb e => h.2.2.1 (e ▸ hb)), ?_⟩
  · exact (((((Wi.Tn.refl (fun b => b = w.heap.size) w1).set_ (p := ⟨w.heap.size, 0, none⟩) (Or.inr rfl) v0).set_ (p := ⟨w.heap.size, 1, none⟩) (Or.inr rfl) v1).set_ (p := ⟨w.heap.size, 2, none⟩) (Or.inr rfl) v2).set_ (p := ⟨w.heap.size, 3, none⟩) (Or.inr rfl) v3).set_ (p := ⟨w.heap.size, 4, none⟩) (Or.inr rfl) v4
  · exact ((((h.2.1.set_ (p := ⟨w.heap.size, 0, none⟩) (Or.inl hl) v0).set_ (p := ⟨w.heap.size, 1, none⟩) (Or.inl hl) v1).set_ (p := ⟨w.heap.size, 2, none⟩) (Or.inl hl) v2).set_ (p := ⟨w.heap.size, 3, none⟩) (Or.inl hl) v3).set_ (p := ⟨w.heap.size, 4, none⟩) (Or.inl hl) v4
theorem RuS.num {w w1 : World} {A : Option Addr} {F : Nat → Prop} {k q c x y : Int} (n : Nat) (r : List Nat) (hn : n ≤ 18446744073709551615) (h : RuS w A F (Wi.Pl.enc n ++ r) k q c x y w1) :
    Calls Try.prog 58 #[.pointer A] w1 fun en w2 => en = .returned (.int .u64 (n : Int)) ∧ RuS w A F r k q c x y w2 :=
  (rnum_enc n r hn h.1).mono (fun _ _ g => ⟨g.1, h.on g.2⟩)
theorem RuS.upto {w w1 : World} {A : Option Addr} {F : Nat → Prop} {k q c x y : Int} (n m : Nat) (r : List Nat) (hn : n ≤ 18446744073709551615) (hm : n ≤ m) (h : RuS w A F (Wi.Pl.enc n ++ r) k q c x y w1) :
    Calls Try.prog 57 #[.pointer A, .int .u64 (m : Int)] w1 fun en w2 => en = .returned (.int .u64 (n : Int)) ∧ RuS w A F r k q c x y w2 :=
  (upto_enc n m r hn hm h.1).mono (fun _ _ g => ⟨g.1, h.on g.2⟩)
set_option maxRecDepth 100000 in
set_option maxHeartbeats 2000000 in
theorem readUnit_any (A : Option Addr) (F : Nat → Prop) (u : Un) (r1 : List Nat) (w : World) (hu : Pl.Good u) (h : Wi.Rd w A F (Pl.urec u ++ r1) 0) :
    Calls Try.prog 45 #[.pointer A] w fun en w' => en = .returned (uval u) ∧ Wi.RdTo w A F (r1, 0) w' := by
  obtain ⟨k, q, ch, x, y, rfl, h1, h2, h3, h4, h5⟩ := hu
  simp only [Pl.urec, Int.toNat_natCast, List.append_assoc] at h
  have HS0 := Lib.hid (RuS.start h 0 0 0 0 0)
  have kk : (0:Int) ≤ (k:Int) := Int.natCast_nonneg k
  have k1 : (k:Int) ≤ 2 := by omega
  have e1 : IntKind.i64.wrap (k : Int) = (k : Int) := by exact IntWalk.i64_in _ (by omega)
  have e2 : IntKind.i64.wrap (q : Int) = (q : Int) := by exact IntWalk.i64_in _ (by omega)
  have e3 : IntKind.i32.wrap (ch : Int) = (ch : Int) := IntWalk.i32_in _ (by omega)
  have e4 : IntKind.u32.wrap (x : Int) = (x : Int) := IntWalk.u32_in _ (by omega)
  clear h
  go_enter Try.func45, Try.ntmps45
  go_wp2_with fail
  refine (RuS.num k _ (by omega) HS0.out).mono ?_
  rintro en w1 ⟨rfl, hs⟩
  have HS1 := Lib.hid hs
  clear hs HS0
  go_wp2_with fail
  refine (RuS.upto q 2147483648 _ (by omega) (by omega) HS1.out).mono ?_
  rintro en w2 ⟨rfl, hs⟩
  have HS2 := Lib.hid hs
  clear hs HS1
  go_wp2_with fail
  refine (RuS.upto ch 1114111 _ (by omega) (by omega) HS2.out).mono ?_
  rintro en w3 ⟨rfl, hs⟩
  have HS3 := Lib.hid hs
  clear hs HS2
  go_wp2_with fail
  refine (RuS.upto x 4294967295 _ (by omega) (by omega) HS3.out).mono ?_
  rintro en w4 ⟨rfl, hs⟩
  have HS4 := Lib.hid hs
  clear hs HS3
  go_wp2_with fail
  refine (RuS.num y _ (by omega) HS4.out).mono ?_
  rintro en w5 ⟨rfl, hs⟩
  have HS5 := Lib.hid hs
  obtain ⟨c0, c1, c2, c3, c4⟩ := hs.uat.cells
  have fz := hs.uat.frozen
  have HU := Lib.hid (UAt.sets hs.uat (k : Int) (q : Int) (ch : Int) (x : Int) (y : Int))
  clear hs HS4
  go_wp2_with fail
  refine bodyPost_ret (results_unit rfl (by rfl) HU.out) rfl ?_
  exact ⟨rfl, HS5.out.sets _ _ _ _ _⟩
end Go.Proofs.Ytaboamkfpolpbaa
