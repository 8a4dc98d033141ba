/-
  MarkKnown's walk: the chapter's rows, ends, none: it returns true; nothing that was there turns. No conditions.
-/
import Derived.Test.YtfjnliebgndemaaMkA
import Derived.Test.YtfjnliebgndemaaMkC
namespace Go.Proofs.Ytfjnliebgndemaa.markKnown
open Go.RowKit
open Pl (Un)

theorem eq3 (w : World) : (binOp .eql 61 (.agg #[.int .u32 3, .int .i64 0]) (.agg #[.int .u32 3, .int .i64 0])).run Try.prog w = .ok (.bool true) w := by kernel_rfl
theorem eq5 (w : World) : (binOp .eql 61 (.agg #[.int .u32 5, .int .i64 0]) (.agg #[.int .u32 5, .int .i64 0])).run Try.prog w = .ok (.bool true) w := by kernel_rfl
theorem eqp (w : World) : (binOp .eql 26 (.pointer none) (.pointer none)).run Try.prog w = .ok (.bool true) w := by kernel_rfl
theorem drop_own {w0 w : World} {p b : Nat} {N : Int} {M M' : Pl.Mks} (h : MarksO w w0.heap.size p b N M) (hb : Below w0.heap.size w0 w) {c : Int} (hc : 0 ≤ c ∧ c < 4294967296) (hg : (Pl.getM M c).isSome = true) (hM : Pl.delM M c = M') :
    Calls Try.prog 18 #[.pointer (some ⟨p, 0, none⟩), .int .u32 c] w fun e w' => e = .returned (.int .i64 0) ∧ MarksO w' w0.heap.size p b N M' ∧ Below w0.heap.size w0 w' ∧ Tn (fun i => i = b) w w' :=
  (dropM_any h.at_ hc hg).mono fun _ _ ⟨h1, h2, h3⟩ => ⟨h1, ⟨h.p_, h.b_, hM ▸ h2⟩, h.tn hb (h3.more fun _ _ e => .inl e), h3⟩
set_option maxRecDepth 100000 in
set_option maxHeartbeats 4000000 in
theorem walk (w : World) : Calls Try.prog 6 #[] w fun e w' => e = .returned (.bool true) ∧ Below w.heap.size w w' := by
  have HNB := Lib.hid (newM_bad (-1) w (by decide))
  go_enter Try.func6, Try.ntmps6
  go_wp2_with fail
  refine HNB.out.mono ?_
  rintro e w0 ⟨rfl, hw⟩
  rw [hw]
  clear hw w0
  have HN0 := Lib.hid (newM_own 0 w (by decide))
  clear HNB
  go_wp2_with fail
  refine HN0.out.mono ?_
  rintro e w1 ⟨p, b, rfl, h1, hb1⟩
  have HS1 := Lib.hid (setM_own h1 hb1 (c := 5) (v := 0) (M' := [(5, 0)]) (by decide) (by decide) (by decide))
  clear h1 hb1 HN0
  go_wp2_with fail
  refine HS1.out.mono ?_
  rintro e w2 ⟨rfl, h2, hb2⟩
  have HS2 := Lib.hid (setM_bad h2.at_ (c := 5) (v := 1) (by decide))
  have HD2 := Lib.hid (dropM_no h2.at_ (c := 6) (by decide) (by decide))
  have H2 := Lib.hid h2
  have HB2 := Lib.hid hb2
  clear h2 hb2 HS1
  go_wp2_with fail
  refine HS2.out.mono ?_
  rintro e w3 ⟨rfl, hw⟩
  rw [hw]
  clear hw w3 HS2
  go_wp2_with fail
  refine HD2.out.mono ?_
  rintro e w3 ⟨rfl, hw⟩
  rw [hw]
  clear hw w3 HD2
  have hbx := below_box w2 (.cells #[.int .i64 2, .int .i64 0, .int .i32 0, .int .u32 0, .int .u64 0] 57)
  have hU := OwnU.uns (unit_row w2 2 0 0 0 0)
  have HG := Lib.hid (goM_bad (H2.out.then_ hbx).at_ hU (by decide) (by decide) (e0 := 30) (by decide +kernel) (by decide))
  have H2x := Lib.hid (H2.out.then_ hbx)
  have HB2x := Lib.hid (below_then HB2.out hbx)
  clear hbx hU
  go_wp2_with fail
  refine HG.out.mono ?_
  rintro e w3 ⟨rfl, hb3⟩
  have h3 := H2x.out.then_ hb3
  have hB3 := below_then HB2x.out hb3
  have HS3 := Lib.hid (setM_own h3 hB3 (c := 3) (v := 0) (M' := [(3, 0), (5, 0)]) (by decide) (by decide) (by decide))
  clear h3 hB3 hb3 HG H2x HB2x H2 HB2
  go_wp2_with fail
  refine HS3.out.mono ?_
  rintro e w4 ⟨rfl, h4, hb4⟩
  have HA4 := Lib.hid (allM h4.at_)
  have H4 := Lib.hid h4
  have HB4 := Lib.hid hb4
  clear h4 hb4 HS3
  go_wp2_with fail
  refine HA4.out.mono ?_
  rintro e w5 ⟨A, ca, rfl, hr5, hA5, hb5⟩
  have h5 := H4.out.then_ hb5
  have hB5 := below_then HB4.out hb5
  have HD5 := Lib.hid (drop_own h5 hB5 (c := 5) (M' := [(3, 0)]) (by decide) (by decide) (by decide))
  have HR5 := Lib.hid hr5
  have HA5 := Lib.hid hA5
  have HBB := Lib.hid (show b < w4.heap.size from H4.out.at_.own.lt)
  clear h5 hB5 hb5 hr5 hA5 H4 HB4 HA4
  go_wp2_with fail
  refine HD5.out.mono ?_
  rintro e w6 ⟨rfl, h6, hb6, ht6⟩
  have HG6 := Lib.hid (getM_any h6.at_ (c := 5) (by decide))
  have HR6 := Lib.hid (Rws.tn HR5.out ht6 (fun _ ad e hi => by have := HA5.out ad e; have := HBB.out; omega))
  have HB6 := Lib.hid hb6
  clear h6 hb6 ht6 HD5 HR5 HA5 HBB
  go_wp2_with fail
  refine (show Calls Try.prog 12 #[.pointer (some ⟨p, 0, none⟩), .int .u32 5] w6 _ from HG6.out).mono ?_
  rintro e w7 ⟨rfl, hw⟩
  rw [hw, show gotM [(3, 0)] 5 = .tuple #[.int .i64 0, .bool false] from rfl]
  clear hw w7 HG6
  have HGN := fun w => Lib.hid (getM_non (w := w) (v := .pointer none) (.inl rfl) 1)
  have HWA := fun w => Lib.hid (awakeM w)
  go_wp2_with fail
  refine (HGN _).out.mono ?_
  rintro e w7 ⟨rfl, hw⟩
  rw [hw]
  clear hw w7
  go_wp2_with fail
  refine (HWA _).out.mono ?_
  rintro e w7 ⟨rfl, hb7⟩
  have hR7 := Rws.then_ HR6.out hb7
  have HB7 := Lib.hid (below_then HB6.out hb7)
  obtain ⟨g, o, rfl, _, hc⟩ := Rws.at_ encMk_len hR7 (i := 0) (by decide)
  have hcap := hR7.cap
  have hle := hR7.le
  unfold maxLen at hcap
  simp only [List.length_cons, List.length_nil] at hle
  have c0 : w7.cell? ⟨g, o, none⟩ = some (.int .u32 3) := by have := hc 0 (by decide) 0 _ (by decide) rfl; simpa using this
  have c1 : w7.cell? ⟨g, o + 1, none⟩ = some (.int .i64 0) := by have := hc 0 (by decide) 1 _ (by decide) rfl; simpa using this
  have c2 : w7.cell? ⟨g, o + 2, none⟩ = some (.int .u32 5) := by have := hc 1 (by decide) 0 _ (by decide) rfl; simpa using this
  have c3 : w7.cell? ⟨g, o + 3, none⟩ = some (.int .i64 0) := by have := hc 1 (by decide) 1 _ (by decide) rfl; simpa using this
  have q3 := eq3
  have q5 := eq5
  clear hb7 hR7 hc HR6 HB6 HWA
  have qp := eqp
  have HGo := Lib.hid (goM_non (w := w7) (v := none) (.inl rfl) none 0 0)
  have HDr := Lib.hid (dropM_non (w := w7) (v := .pointer none) (.inl rfl) 1)
  have HSe := Lib.hid (setM_non (w := w7) (v := .pointer none) (.inl rfl) 1 0)
  have HLo := Lib.hid (longM_non (w := w7) (v := .pointer none) (.inl rfl))
  have HAl := Lib.hid (allM_non (w := w7) (v := none) (.inl rfl))
  have HCo := Lib.hid (copyM_non (w := w7) (v := none) (.inl rfl))
  go_wp2_with fail
  refine HGo.out.mono ?_
  rintro e w8 ⟨rfl, hw⟩
  rw [hw]
  clear hw w8 c0 c1 c2 c3
  go_wp2_with fail
  refine HDr.out.mono ?_
  rintro e w8 ⟨rfl, hw⟩
  rw [hw]
  clear hw w8
  go_wp2_with fail
  refine HSe.out.mono ?_
  rintro e w8 ⟨rfl, hw⟩
  rw [hw]
  clear hw w8
  go_wp2_with fail
  refine HLo.out.mono ?_
  rintro e w8 ⟨rfl, hw⟩
  rw [hw]
  clear hw w8
  go_wp2_with fail
  refine HAl.out.mono ?_
  rintro e w8 ⟨rfl, hw⟩
  rw [hw]
  clear hw w8
  go_wp2_with fail
  refine HCo.out.mono ?_
  rintro e w8 ⟨rfl, hw⟩
  rw [hw]
  clear hw w8
  have hb8 := below_box w7 (.cells #[.int .i64 0, .map none] 65)
  have HZ := Lib.hid (dropM_non (w := w7.alloc (.cells #[.int .i64 0, .map none] 65)) (v := .pointer (some ⟨w7.heap.size, 0, none⟩)) (.inr ⟨_, rfl, heap_new rfl⟩) 1)
  have HB8 := Lib.hid (below_then HB7.out hb8)
  clear hb8
  go_wp2_with fail
  refine HZ.out.mono ?_
  rintro e w8 ⟨rfl, hw⟩
  rw [hw]
  clear hw w8
  go_wp2_with fail
  go_ret
  exact ⟨rfl, HB8.out⟩
end Go.Proofs.Ytfjnliebgndemaa.markKnown
