/-
  The statements' own awake (the chapter's rows): it returns true; nothing that was there turns. What a call on marks of one's own leaves of what was there. No conditions.
-/
import Derived.Test.YtfjnliebgndemaaMkW
import Derived.Test.YtfjnliebgndemaaWvG
namespace Go.Proofs.Ytfjnliebgndemaa
open Go.RowKit
open Pl (Un)

/-- marks of the call's own: both blocks are not older than B -/
structure MarksO (w : World) (B p b : Nat) (N : Int) (M : Pl.Mks) : Prop where
  p_ : B ≤ p
  b_ : B ≤ b
  at_ : MarksW w p b N M
theorem MarksO.tn {w w' w0 : World} {p b : Nat} {N : Int} {M : Pl.Mks} (h : MarksO w w0.heap.size p b N M) (hb : Below w0.heap.size w0 w) (ht : Tn (fun i => i = b ∨ i = p) w w') : Below w0.heap.size w0 w' :=
  ht.below hb hb.size (fun i hi => by have := h.p_; have := h.b_; omega)
theorem MarksO.then_ {w w' : World} {B p b : Nat} {N : Int} {M : Pl.Mks} (h : MarksO w B p b N M) (hb : Below w.heap.size w w') : MarksO w' B p b N M := ⟨h.p_, h.b_, h.at_.then_ hb⟩
theorem newM_own (N : Int) (w : World) (hN : 0 ≤ N ∧ N < 9223372036854775808) :
    Calls Try.prog 7 #[.int .i64 N] w fun e w' => ∃ p b, e = .returned (.tuple #[.pointer (some ⟨p, 0, none⟩), .int .i64 0]) ∧ MarksO w' w.heap.size p b N [] ∧ Below w.heap.size w w' :=
  (newM_any N w hN).mono fun _ _ ⟨h1, h2, h3⟩ => ⟨_, _, h1, ⟨Nat.le_succ _, Nat.le_refl _, h2⟩, h3⟩
theorem setM_own {w0 w : World} {p b : Nat} {N : Int} {M M' : Pl.Mks} (h : MarksO w w0.heap.size p b N M) (hb : Below w0.heap.size w0 w) {c v : Int} (hc : 0 ≤ c ∧ c < 4294967296) (hv : 0 ≤ v ∧ v ≤ N) (hM : Pl.putM M c v = M') :
    Calls Try.prog 9 #[.pointer (some ⟨p, 0, none⟩), .int .u32 c, .int .i64 v] w fun e w' => e = .returned (.int .i64 0) ∧ MarksO w' w0.heap.size p b N M' ∧ Below w0.heap.size w0 w' :=
  (setM_any h.at_ hc hv).mono fun _ _ ⟨h1, h2, h3⟩ => ⟨h1, ⟨h.p_, h.b_, hM ▸ h2⟩, h.tn hb (h3.more fun _ _ e => .inl e)⟩
theorem goM_own {w0 w : World} {p b : Nat} {N N1 : Int} {M M' : Pl.Mks} (h : MarksO w w0.heap.size p b N M) (hb : Below w0.heap.size w0 w) {B : Option Addr} {m d : Nat} {l : List Un} (hu : Uns w w.heap.size B m d l) (hm : m ≤ 1000) (hN : N ≤ 1000000) (hlo : Pl.longL l N = (N1, 0)) (hN1 : 0 ≤ N1 ∧ N1 < 9223372036854775808)
    (hM : Pl.goM (fun v => Pl.placeR v l) M = M') :
    Calls Try.prog 11 #[.pointer (some ⟨p, 0, none⟩), .slice B m d] w fun e w' => ∃ b', e = .returned (.int .i64 0) ∧ MarksO w' w0.heap.size p b' N1 M' ∧ Below w0.heap.size w0 w' :=
  (goM_ok h.at_ hu hm hN hlo hN1).mono fun _ _ ⟨b', h1, h2, h3, h4⟩ => ⟨b', h1, ⟨h.p_, Nat.le_trans hb.size h2, hM ▸ h3⟩, h.tn hb (h4.more fun _ _ e => .inr e)⟩
set_option maxRecDepth 100000 in
set_option maxHeartbeats 2000000 in
theorem awakeM (w : World) : Calls Try.prog 8 #[] w fun e w' => e = .returned (.bool true) ∧ Below w.heap.size w w' := by
  go_enter Try.func8, Try.ntmps8
  go_wp2_with fail
  refine (newM_own 3 w (by decide)).mono ?_
  rintro e w1 ⟨p, b, rfl, h1, hb1⟩
  have HS1 := Lib.hid (setM_own h1 hb1 (c := 1) (v := 2) (M' := [(1, 2)]) (by decide) (by decide) (by decide))
  clear h1 hb1
  go_wp2_with fail
  refine HS1.out.mono ?_
  rintro e w2 ⟨rfl, h2, hb2⟩
  have HS2 := Lib.hid (setM_bad h2.at_ (c := 2) (v := 4) (by decide))
  have H2 := Lib.hid h2
  have HB2 := Lib.hid hb2
  clear h2 hb2 HS1
  go_wp2_with fail
  refine HS2.out.mono ?_
  rintro e w3 ⟨rfl, hw⟩
  rw [hw]
  clear hw w3
  have hbx := below_box w2 (.cells #[.int .i64 1, .int .i64 2, .int .i32 120, .int .u32 0, .int .u64 0] 57)
  have hU := OwnU.uns (unit_row w2 1 2 120 0 0)
  have HG := Lib.hid (goM_own (H2.out.then_ hbx) (below_then HB2.out hbx) hU (by decide) (by decide) (N1 := 4) (M' := [(1, 3)]) (by decide +kernel) (by decide) (by decide +kernel))
  clear hbx hU
  go_wp2_with fail
  refine HG.out.mono ?_
  rintro e w4 ⟨b4, rfl, h4, hb4⟩
  have HG4 := Lib.hid (getM_any h4.at_ (c := 1) (by decide))
  have H4 := Lib.hid h4
  have HB4 := Lib.hid hb4
  clear h4 hb4 HG HS2 H2 HB2
  go_wp2_with fail
  refine (show Calls Try.prog 12 #[.pointer (some ⟨p, 0, none⟩), .int .u32 1] w4 _ from HG4.out).mono ?_
  rintro e w5 ⟨rfl, hw⟩
  rw [hw, show gotM [(1, 3)] 1 = .tuple #[.int .i64 3, .bool true] from rfl]
  clear hw w5
  have hbx := below_box w4 (.cells #[.int .i64 2, .int .i64 0, .int .i32 0, .int .u32 0, .int .u64 0] 57)
  have hU := OwnU.uns (unit_row w4 2 0 0 0 0)
  have HG := Lib.hid (goM_own (H4.out.then_ hbx) (below_then HB4.out hbx) hU (by decide) (by decide) (N1 := 3) (M' := [(1, 2)]) (by decide +kernel) (by decide) (by decide +kernel))
  clear hbx hU HG4
  go_wp2_with fail
  refine HG.out.mono ?_
  rintro e w6 ⟨b6, rfl, h6, hb6⟩
  have HG6 := Lib.hid (getM_any h6.at_ (c := 1) (by decide))
  have HL6 := Lib.hid (longM h6.at_)
  have HB6 := Lib.hid hb6
  clear h6 hb6 HG H4 HB4
  go_wp2_with fail
  refine (show Calls Try.prog 12 #[.pointer (some ⟨p, 0, none⟩), .int .u32 1] w6 _ from HG6.out).mono ?_
  rintro e w7 ⟨rfl, hw⟩
  rw [hw, show gotM [(1, 2)] 1 = .tuple #[.int .i64 2, .bool true] from rfl]
  clear hw w7
  go_wp2_with fail
  refine HL6.out.mono ?_
  rintro e w8 ⟨rfl, hw⟩
  rw [hw]
  clear hw w8
  go_wp2_with fail
  go_ret
  exact ⟨rfl, HB6.out⟩
end Go.Proofs.Ytfjnliebgndemaa
