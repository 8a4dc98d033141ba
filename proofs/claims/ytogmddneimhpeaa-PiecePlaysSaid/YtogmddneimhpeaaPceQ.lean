/-
  A table of the law's own ('Has'): the calls of piece at it; the statements' own awake: it returns true in every world. Conditions: the table is one; the buffers have at most 2^30 code points.
-/
import Derived.Test.YtogmddneimhpeaaPceP
namespace Go.Proofs.Ytogmddneimhpeaa
open Go.RowKit
open Pl (Pc Plc Tab)

/-- in a world that has come of w0, with all below base as it was, the table at block p reads as t -/
def Has (base : Nat) (w0 : World) (p : Nat) (t : Tab) (m : Nat) (w : World) : Prop := ∃ F, Tb w F p t m ∧ (∀ b, F b → base ≤ b) ∧ Below base w0 w
section
variable {base : Nat} {w0 w w' : World} {p : Nat} {t t' : Tab} {m m' : Nat}
theorem Has.bel (h : Has base w0 p t m w) : Below base w0 w := by obtain ⟨F, _, _, h⟩ := h; exact h
theorem Has.grow (h : Has base w0 p t m w) (hb : Below w.heap.size w w') (hbase : base ≤ w.heap.size) : Has base w0 p t m w' := by
  obtain ⟨F, h1, h2, h3⟩ := h
  exact ⟨F, h1.then_ hb, h2, h3.trans (hb.mono hbase)⟩
theorem Has.ok (h : Has base w0 p t m w) : t.Ok m ∧ m ≤ 1073741824 := by obtain ⟨F, h, _⟩ := h; exact ⟨h.ok, h.le⟩
theorem Has.of (h : Has base w0 p t m w) (hbase : base ≤ w.heap.size) {e : Ending → Prop} {f : FuncId} {args : Array Value} (hc : ∀ F, Tb w F p t m → Calls Try.prog f args w fun x w' => e x ∧ Did w F p t' m' w') :
    Calls Try.prog f args w fun x w' => e x ∧ Has base w0 p t' m' w' := by
  obtain ⟨F, h1, h2, h3⟩ := h
  refine (hc F h1).mono fun x w' ⟨he, F', k1, k2, k3, _⟩ => ⟨he, F', k1, fun b hb => (k3 b hb).elim (h2 b) (fun h => Nat.le_trans hbase h), k2.below h3 hbase h2⟩
end
theorem chars_lit (s : ByteArray) (cs : List Int) (n : Nat) (hcs : chs s = cs) (hn : cs.length = n) (hs : s.size ≤ 1048576) (w : World) :
    Calls Try.prog 23 #[.string s] w fun e w' => ∃ A c, e = .returned (.slice A n c) ∧ OwnC w' w.heap.size (.slice A n c) cs ∧ Below w.heap.size w w' := by
  subst hn hcs
  exact chars_any s w hs
theorem new_has {base : Nat} {w0 : World} (A : Option Addr) (n c : Nat) (cs : List Int) (w : World) (h : Crs w w.heap.size A n c cs) (hn : n ≤ 1073741824) (hb : Below base w0 w) (hbase : base ≤ w.heap.size) :
    Calls Try.prog 11 #[.slice A n c] w fun e w' => ∃ p, e = .returned (.pointer (some ⟨p, 0, none⟩)) ∧ Has base w0 p (Pl.fresh cs) n w' ∧ Below w.heap.size w w' :=
  (new_any A n c cs w h hn).mono fun _ _ ⟨p, F, h1, h2, h3, h4⟩ => ⟨p, h1, ⟨F, h2, fun b hb => Nat.le_trans hbase (h3 b hb), hb.trans (h4.mono hbase)⟩, h4⟩
theorem ins_has {base : Nat} {w0 w : World} {p : Nat} {t : Tab} {m : Nat} (h : Has base w0 p t m w) (hbase : base ≤ w.heap.size) (pos : Int) (hpos : Pl.I pos) (A : Option Addr) (n c : Nat) (l : List Int) (hl : Crs w w.heap.size A n c l) (hm2 : m + n ≤ 1073741824) :
    Calls Try.prog 13 #[.pointer (some ⟨p, 0, none⟩), .int .i64 pos, .slice A n c] w fun e w' => e = .returned (.int .i64 (Pl.reachE t.L.length pos 0)) ∧ Has base w0 p (Pl.insT t pos l) (m + n) w' :=
  h.of hbase fun _ hF => ins_tb hF pos hpos A n c l hl hm2
theorem del_has {base : Nat} {w0 w : World} {p : Nat} {t : Tab} {m : Nat} (h : Has base w0 p t m w) (hbase : base ≤ w.heap.size) (pos n : Int) (hpos : Pl.I pos) :
    Calls Try.prog 15 #[.pointer (some ⟨p, 0, none⟩), .int .i64 pos, .int .i64 n] w fun e w' => e = .returned (.int .i64 (Pl.reachE t.L.length pos n)) ∧ Has base w0 p (Pl.delT t pos n) m w' :=
  h.of hbase fun _ hF => del_tb hF pos n hpos
theorem flat_has {base : Nat} {w0 w : World} {p : Nat} {t : Tab} {m : Nat} (h : Has base w0 p t m w) (hbase : base ≤ w.heap.size) :
    Calls Try.prog 20 #[.pointer (some ⟨p, 0, none⟩)] w fun e w' => e = .returned (.tuple #[]) ∧ Has base w0 p (Pl.fresh t.text) m w' :=
  h.of hbase fun _ hF => flat_tb hF

namespace Aw
def t0 : Tab := Pl.fresh [104, 101, 108, 108, 111]
def t1 : Tab := Pl.insT t0 5 [32, 97]
def t2 : Tab := Pl.insT t1 7 [98]
def t3 : Tab := Pl.delT t2 1 3
def t4 : Tab := Pl.insT t3 1 [101, 108, 108]
theorem e1 : Pl.reachE t0.L.length 5 0 = 0 := by decide
theorem e2 : Pl.reachE t1.L.length 7 0 = 0 := by decide
theorem e3 : Pl.reachE t2.L.length 1 3 = 0 := by decide
theorem e4 : Pl.reachE t3.L.length 1 0 = 0 := by decide
theorem tx : t4.text = [104, 101, 108, 108, 111, 32, 97, 98] := by decide
theorem gr : Pl.group t4.L = [⟨false, 0, 1⟩, ⟨true, 3, 3⟩, ⟨false, 4, 1⟩, ⟨true, 0, 3⟩] := by rfl
end Aw
set_option maxRecDepth 100000 in
set_option maxHeartbeats 2000000 in
theorem awake_any (w : World) : Calls Try.prog 29 #[] w fun e w' => e = .returned (.bool true) ∧ Below w.heap.size w w' := by
  go_enter Try.func29, Try.ntmps29
  go_wp2_with fail
  refine (chars_lit _ [104, 101, 108, 108, 111] 5 (by rfl) rfl (by decide) w).mono ?_
  rintro e w1 ⟨A1, c1, rfl, hO1, hb1⟩
  have HN1 := Lib.hid (new_has A1 5 c1 _ w1 hO1.crs.2 (by decide) hb1 hb1.size)
  have HB1 := Lib.hid hb1
  clear hO1 hb1
  go_wp2_with fail
  refine HN1.out.mono ?_
  rintro e w2 ⟨p, rfl, hT2, hb2⟩
  have HT2 := Lib.hid hT2
  have HB2 := Lib.hid hb2
  clear hT2 hb2 HN1
  go_wp2_with fail
  refine (chars_lit _ [32, 97] 2 (by rfl) rfl (by decide) w2).mono ?_
  rintro e w3 ⟨A3, c3, rfl, hO3, hb3⟩
  have hz3 : w.heap.size ≤ w2.heap.size := HT2.out.bel.size
  have HI3 := Lib.hid (ins_has (HT2.out.grow hb3 hz3) (Nat.le_trans hz3 hb3.size) 5 (Pl.I.mk (by omega)) A3 2 c3 _ hO3.crs.2 (by decide))
  rw [show Pl.reachE (Pl.fresh [104, 101, 108, 108, 111]).L.length 5 0 = 0 from Aw.e1] at HI3
  clear hO3 hb3 hz3
  go_wp2_with fail
  refine HI3.out.mono ?_
  rintro e w4 ⟨rfl, hT4⟩
  have HT4 := Lib.hid (show Has w.heap.size w p Aw.t1 7 w4 from hT4)
  clear hT4 HI3
  go_wp2_with fail
  refine (chars_lit _ [98] 1 (by rfl) rfl (by decide) w4).mono ?_
  rintro e w5 ⟨A5, c5, rfl, hO5, hb5⟩
  have hz5 : w.heap.size ≤ w4.heap.size := HT4.out.bel.size
  have HI5 := Lib.hid (ins_has (HT4.out.grow hb5 hz5) (Nat.le_trans hz5 hb5.size) 7 (Pl.I.mk (by omega)) A5 1 c5 _ hO5.crs.2 (by decide))
  rw [Aw.e2] at HI5
  clear hO5 hb5 hz5
  go_wp2_with fail
  refine HI5.out.mono ?_
  rintro e w6 ⟨rfl, hT6⟩
  have HT6 := Lib.hid (show Has w.heap.size w p Aw.t2 8 w6 from hT6)
  clear hT6 HI5
  have HI7 := Lib.hid (del_has HT6.out HT6.out.bel.size 1 3 (Pl.I.mk (by omega)))
  rw [Aw.e3] at HI7
  go_wp2_with fail
  refine HI7.out.mono ?_
  rintro e w8 ⟨rfl, hT8⟩
  have HT8 := Lib.hid (show Has w.heap.size w p Aw.t3 8 w8 from hT8)
  clear hT8 HI7
  go_wp2_with fail
  refine (chars_lit _ [101, 108, 108] 3 (by rfl) rfl (by decide) w8).mono ?_
  rintro e w9 ⟨A9, c9, rfl, hO9, hb9⟩
  have hz9 : w.heap.size ≤ w8.heap.size := HT8.out.bel.size
  have HI9 := Lib.hid (ins_has (HT8.out.grow hb9 hz9) (Nat.le_trans hz9 hb9.size) 1 (Pl.I.mk (by omega)) A9 3 c9 _ hO9.crs.2 (by decide))
  rw [Aw.e4] at HI9
  clear hO9 hb9 hz9
  go_wp2_with fail
  refine HI9.out.mono ?_
  rintro e w10 ⟨rfl, hT10⟩
  have HT10 := Lib.hid (show Has w.heap.size w p Aw.t4 11 w10 from hT10)
  clear hT10 HI9
  obtain ⟨F10, hF10, hFb, hb10⟩ := HT10.out
  have HP := Lib.hid (pieces_tb hF10)
  unfold RetP at HP
  rw [Aw.gr] at HP
  have HTX := Lib.hid (fun w11 (hb : Below w10.heap.size w10 w11) => text_tb (hF10.then_ hb))
  unfold RetC at HTX
  rw [Aw.tx] at HTX
  have HB10 := Lib.hid hb10
  clear hF10 hFb hb10
  go_wp2_with fail
  refine HP.out.mono ?_
  rintro e w11 ⟨A11, c11, rfl, hO11, hb11⟩
  have HX := Lib.hid (HTX.out w11 hb11)
  have HO11 := Lib.hid hO11
  have HB11 := Lib.hid hb11
  clear hO11 hb11 HP HTX
  simp only [List.length_cons, List.length_nil] at HO11 HX ⊢
  go_wp2_with fail
  refine HX.out.mono ?_
  rintro e w12 ⟨A12, c12, rfl, hO12, hb12⟩
  have HO12 := Lib.hid hO12
  have HB12 := Lib.hid hb12
  clear hO12 hb12 HX
  go_wp2_with fail
  refine (chars_lit _ [104, 101, 108, 108, 111, 32, 97, 98] 8 (by rfl) rfl (by decide) w12).mono ?_
  rintro e w13 ⟨A13, c13, rfl, hO13, hb13⟩
  have HS := Lib.hid (same_any A12 A13 8 c12 8 c13 _ _ w13 (HO12.out.crs.2.then_ hb13) hO13.crs.2)
  rw [decide_eq_true rfl] at HS
  have HB13 := Lib.hid hb13
  clear hO13 hb13
  go_wp2_with fail
  refine HS.out.mono ?_
  rintro e w14 ⟨rfl, hb14⟩
  have hb11_14 : Below w11.heap.size w11 w14 := HB12.out.trans ((HB13.out.trans (hb14.mono HB13.out.size)).mono HB12.out.size)
  have HE := Lib.hid (show Below w.heap.size w w14 from HB10.out.trans ((HB11.out.trans (hb11_14.mono HB11.out.size)).mono HB10.out.size))
  obtain ⟨g, hA, _, hg⟩ := OwnR.pos_ HO11.out (by decide)
  subst hA
  have hO := OwnR.then_ HO11.out hb11_14
  obtain ⟨x0, x1, x2, _⟩ := OwnP.cells hO (i := 0) (by decide)
  obtain ⟨y0, y1, y2, _⟩ := OwnP.cells hO (i := 1) (by decide)
  obtain ⟨z0, z1, z2, _⟩ := OwnP.cells hO (i := 2) (by decide)
  obtain ⟨u0, u1, u2, _⟩ := OwnP.cells hO (i := 3) (by decide)
  simp at x0 x1 x2 y0 y1 y2 z0 z1 z2 u0 u1 u2
  have q := eql_pc
  have hgd := fun x y xs ys w => guard_pc .eql x y xs ys w
  clear hO hb11_14 hb14 HS
  go_wp2_with fail
  go_ret
  exact ⟨rfl, HE.out⟩
end Go.Proofs.Ytogmddneimhpeaa
