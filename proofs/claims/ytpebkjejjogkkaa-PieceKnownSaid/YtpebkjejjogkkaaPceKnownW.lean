/-
  The walk of copybooklaw05.PieceKnown: it returns true; nothing that was there turned. No conditions.
-/
import Derived.Test.YtpebkjejjogkkaaPceQ
namespace Go.Proofs.Ytpebkjejjogkkaa.pieceKnown
open Go.RowKit
open Pl (Pc Plc Tab)

namespace Kn
def k0 : Tab := Pl.fresh []
def k1 : Tab := Pl.insT k0 1 [120]
def k2 : Tab := Pl.insT k1 0 []
def k3 : Tab := Pl.delT k2 0 1
def k4 : Tab := Pl.delT k3 0 0
def k5 : Tab := Pl.insT k4 0 [120, 121]
def k6 : Tab := Pl.delT k5 1 (-1)
def k7 : Tab := Pl.insT k6 (-1) []
theorem e1 : Pl.reachE k0.L.length 1 0 = 30 := by decide
theorem e2 : Pl.reachE k1.L.length 0 0 = 0 := by decide
theorem e3 : Pl.reachE k2.L.length 0 1 = 30 := by decide
theorem e4 : Pl.reachE k3.L.length 0 0 = 0 := by decide
theorem e5 : Pl.reachE k4.L.length 0 0 = 0 := by decide
theorem r6 : Pl.reachE k5.L.length 4611686018427387904 4611686018427387904 = 30 := by decide
theorem r7 : Pl.reachE k5.L.length (-1) 1 = 30 := by decide
theorem e6 : Pl.reachE k5.L.length 1 (-1) = 30 := by decide
theorem e7 : Pl.reachE k6.L.length (-1) 0 = 30 := by decide
theorem len : k7.L.length = 2 := by decide
end Kn
theorem read_has {base : Nat} {w0 w : World} {p : Nat} {t : Tab} {m : Nat} (h : Has base w0 p t m w) (hbase : base ≤ w.heap.size) (pos n er : Int) (hpos : Pl.I pos) (he : Pl.reachE t.L.length pos n = er) :
    Calls Try.prog 16 #[.pointer (some ⟨p, 0, none⟩), .int .i64 pos, .int .i64 n] w fun e w' => ∃ A k c, e = .returned (.tuple #[.slice A k c, .int .i64 er]) ∧ Has base w0 p t m w' := by
  subst he
  obtain ⟨F, h1, h2, h3⟩ := h
  exact (read_tb h1 pos n hpos).mono fun _ _ ⟨A, c, k1, k2, k3⟩ => ⟨A, _, c, k1, Has.grow ⟨F, h1, h2, h3⟩ k3 hbase⟩
theorem nil_crs (w : World) : Crs w w.heap.size none 0 0 [] := Crs.none_ _ _

set_option maxRecDepth 100000 in
set_option maxHeartbeats 4000000 in
theorem walk (w : World) : Calls Try.prog 8 #[] w fun e w' => e = .returned (.bool true) ∧ Below w.heap.size w w' := by
  go_enter Try.func8, Try.ntmps8
  go_wp2_with fail
  refine (awake_any w).mono ?_
  rintro e w1 ⟨rfl, hb1⟩
  have HN := Lib.hid (new_has none 0 0 [] w1 (nil_crs w1) (by decide) hb1 hb1.size)
  clear hb1
  go_wp2_with fail
  refine HN.out.mono ?_
  rintro e w2 ⟨p, rfl, hT2, hb2⟩
  have H2 := Lib.hid (show Has w.heap.size w p Kn.k0 0 w2 from hT2)
  clear hT2 hb2 HN
  go_wp2_with fail
  refine (chars_lit _ [120] 1 (by rfl) rfl (by decide) w2).mono ?_
  rintro e w3 ⟨A3, c3, rfl, hO3, hb3⟩
  have hz := H2.out.bel.size
  have HI := Lib.hid (ins_has (H2.out.grow hb3 hz) (Nat.le_trans hz hb3.size) 1 (Pl.I.mk (by omega)) A3 1 c3 _ hO3.crs.2 (by decide))
  rw [Kn.e1] at HI
  clear hO3 hb3 hz
  go_wp2_with fail
  refine HI.out.mono ?_
  rintro e w4 ⟨rfl, hT⟩
  have H4 := Lib.hid (show Has w.heap.size w p Kn.k1 1 w4 from hT)
  clear hT HI
  have HI := Lib.hid (ins_has H4.out H4.out.bel.size 0 (Pl.I.mk (by omega)) none 0 0 [] (nil_crs w4) (by decide))
  rw [Kn.e2] at HI
  go_wp2_with fail
  refine HI.out.mono ?_
  rintro e w5 ⟨rfl, hT⟩
  have H5 := Lib.hid (show Has w.heap.size w p Kn.k2 1 w5 from hT)
  clear hT HI
  have HI := Lib.hid (del_has H5.out H5.out.bel.size 0 1 (Pl.I.mk (by omega)))
  rw [Kn.e3] at HI
  go_wp2_with fail
  refine HI.out.mono ?_
  rintro e w6 ⟨rfl, hT⟩
  have H6 := Lib.hid (show Has w.heap.size w p Kn.k3 1 w6 from hT)
  clear hT HI
  have HI := Lib.hid (del_has H6.out H6.out.bel.size 0 0 (Pl.I.mk (by omega)))
  rw [Kn.e4] at HI
  go_wp2_with fail
  refine HI.out.mono ?_
  rintro e w7 ⟨rfl, hT⟩
  have H7 := Lib.hid (show Has w.heap.size w p Kn.k4 1 w7 from hT)
  clear hT HI
  go_wp2_with fail
  refine (chars_lit _ [120, 121] 2 (by rfl) rfl (by decide) w7).mono ?_
  rintro e w8 ⟨A8, c8, rfl, hO8, hb8⟩
  have hz := H7.out.bel.size
  have HI := Lib.hid (ins_has (H7.out.grow hb8 hz) (Nat.le_trans hz hb8.size) 0 (Pl.I.mk (by omega)) A8 2 c8 _ hO8.crs.2 (by decide))
  rw [Kn.e5] at HI
  clear hO8 hb8 hz
  go_wp2_with fail
  refine HI.out.mono ?_
  rintro e w9 ⟨rfl, hT⟩
  have H9 := Lib.hid (show Has w.heap.size w p Kn.k5 3 w9 from hT)
  clear hT HI
  have HI := Lib.hid (read_has H9.out H9.out.bel.size 4611686018427387904 4611686018427387904 30 (Pl.I.mk (by omega)) Kn.r6)
  go_wp2_with fail
  refine HI.out.mono ?_
  rintro e w10 ⟨B1, n1, d1, rfl, hT⟩
  have H10 := Lib.hid hT
  clear hT HI
  have HI := Lib.hid (read_has H10.out H10.out.bel.size (-1) 1 30 (Pl.I.mk (by omega)) Kn.r7)
  go_wp2_with fail
  refine HI.out.mono ?_
  rintro e w11 ⟨B2, n2, d2, rfl, hT⟩
  have H11 := Lib.hid hT
  clear hT HI
  have HI := Lib.hid (del_has H11.out H11.out.bel.size 1 (-1) (Pl.I.mk (by omega)))
  rw [Kn.e6] at HI
  go_wp2_with fail
  refine HI.out.mono ?_
  rintro e w12 ⟨rfl, hT⟩
  have H12 := Lib.hid (show Has w.heap.size w p Kn.k6 3 w12 from hT)
  clear hT HI
  have HI := Lib.hid (ins_has H12.out H12.out.bel.size (-1) (Pl.I.mk (by omega)) none 0 0 [] (nil_crs w12) (by decide))
  rw [Kn.e7] at HI
  go_wp2_with fail
  refine HI.out.mono ?_
  rintro e w13 ⟨rfl, hT⟩
  have H13 := Lib.hid (show Has w.heap.size w p Kn.k7 3 w13 from hT)
  clear hT HI
  go_wp2_with fail
  refine (flat_no (w := w13) (P := none) (Or.inl rfl)).mono ?_
  rintro e w13' ⟨rfl, rfl⟩
  go_wp2_with fail
  refine (read_no (w := w13) (P := none) (Or.inl rfl) 0 0).mono ?_
  rintro e w14 ⟨B3, d3, rfl, _, hb14⟩
  have H14 := Lib.hid (H13.out.grow hb14 H13.out.bel.size)
  clear hb14
  have HL := Lib.hid (show Calls Try.prog 23 #[.pointer (some ⟨p, 0, none⟩)] w14 fun e w' => e = .returned (.int .i64 2) ∧ Below w14.heap.size w14 w' by
    obtain ⟨F, hF, _, _⟩ := H14.out
    have := len_tb hF
    rwa [Kn.len] at this)
  go_wp2_with fail
  refine HL.out.mono ?_
  rintro e w15 ⟨rfl, hb15⟩
  have hz15 := H14.out.bel.size
  have HB15 := Lib.hid (H14.out.bel.trans (hb15.mono hz15))
  clear hb15 hz15 HL
  go_wp2_with fail
  refine (ins_no (w := w15) (P := none) (Or.inl rfl) 0 none 0 0).mono ?_
  rintro e w16 ⟨rfl, hb16⟩
  have HB16 := Lib.hid (HB15.out.trans (hb16.mono HB15.out.size))
  clear hb16
  go_wp2_with fail
  refine (del_no (w := w16) (P := none) (Or.inl rfl) 0 0).mono ?_
  rintro e w17 ⟨rfl, hb17⟩
  have HB17 := Lib.hid (HB16.out.trans (hb17.mono HB16.out.size))
  clear hb17
  go_wp2_with fail
  refine (len_no (w := w17) (P := none) (Or.inl rfl)).mono ?_
  rintro e w17' ⟨rfl, rfl⟩
  go_wp2_with fail
  refine (text_no (w := w17) (P := none) (Or.inl rfl)).mono ?_
  rintro e w18 ⟨B4, d4, rfl, _, hb18⟩
  have HB18 := Lib.hid (HB17.out.trans (hb18.mono HB17.out.size))
  clear hb18
  go_wp2_with fail
  refine (pieces_no (w := w18) (P := none) (Or.inl rfl)).mono ?_
  rintro e w19 ⟨B5, d5, rfl, _, hb19⟩
  have HB19 := Lib.hid (HB18.out.trans (hb19.mono HB18.out.size))
  clear hb19
  go_wp2_with fail
  refine (copy_no (w := w19) (P := none) (Or.inl rfl)).mono ?_
  rintro e w19' ⟨rfl, rfl⟩
  have HI := Lib.hid (ins_no (w := w19.alloc (.cells #[.slice none 0 0, .pointer none, .int .i64 0, .slice none 0 0] 69)) (P := some ⟨w19.heap.size, 0, none⟩) (Or.inr ⟨_, _, _, _, rfl, heap_alloc_new w19 _⟩) 0 none 0 0)
  have HB20 := Lib.hid (HB19.out.trans (((Below.refl w19.heap.size w19).alloc (Nat.le_refl _) (.cells #[.slice none 0 0, .pointer none, .int .i64 0, .slice none 0 0] 69)).mono HB19.out.size))
  go_wp2_with fail
  refine HI.out.mono ?_
  rintro e w21 ⟨rfl, hb21⟩
  have HB21 := Lib.hid (HB20.out.trans (hb21.mono HB20.out.size))
  clear hb21
  go_wp2_with fail
  go_ret
  exact ⟨rfl, HB21.out⟩
end Go.Proofs.Ytpebkjejjogkkaa.pieceKnown
