/-
  The law's own wakes. No conditions.
-/
import Derived.Test.YthnenmglmebljaaEdL
import Derived.Test.YthnenmglmebljaaEdH
namespace Go.Proofs.Ythnenmglmebljaa
open Go.RowKit
open Pl (Un)

theorem RetE.good {w w' : World} {r : Int} {l : List Un} {e : Ending} (h : RetE w r l e w') (hr : r = 0) : Below w.heap.size w w' ∧ ∃ B d, e = .returned (.tuple #[.slice B l.length d, .int .i64 0]) ∧ OwnU w' w.heap.size (.slice B l.length d) l := by
  refine ⟨h.1, ?_⟩
  rcases h.2 with ⟨h1, _⟩ | ⟨_, h2⟩
  · exact absurd hr h1
  · exact h2
theorem RetE.fail_ {w w' : World} {r : Int} {l : List Un} {e : Ending} (h : RetE w r l e w') (hr : r ≠ 0) : Below w.heap.size w w' ∧ e = .returned (.tuple #[.slice none 0 0, .int .i64 r]) := by
  refine ⟨h.1, ?_⟩
  rcases h.2 with ⟨_, h1⟩ | ⟨h2, _⟩
  · exact h1
  · exact absurd h2 hr
theorem wk_type : Pl.typeE 2 [97, 98] = 0 ∧ Pl.typeL 2 [97, 98] 1 0 = [⟨1, 2, 97, 1, 0⟩, ⟨1, 3, 98, 1, 0⟩] := by
  constructor
  · unfold Pl.typeE Pl.wrongE Pl.May; decide
  · unfold Pl.typeL wrap64; decide
theorem wk_erase : Pl.wrongE 2 2 = 0 ∧ Pl.eraseL 2 (2 : Int).toNat 1 0 = [⟨2, 2, 0, 1, 0⟩, ⟨2, 2, 0, 1, 0⟩] := by
  constructor
  · unfold Pl.wrongE; decide
  · decide
theorem wk_runs : Pl.runs [⟨1, 2, 97, 1, 0⟩, ⟨1, 3, 98, 1, 0⟩, ⟨2, 2, 0, 1, 0⟩, ⟨2, 2, 0, 1, 0⟩] = [⟨1, 2, 1, 0, [97, 98]⟩, ⟨2, 2, 1, 0, [0, 0]⟩] := by simp [Pl.runs, Pl.runsF, Pl.addR, Pl.Fol, Pl.long, Pl.one, Pl.Rn.more, wrap64]
theorem wk_two {w : World} {B : Option Addr} {n d : Nat} {L : List RnV} (h : Rns w B n d L) (hL : L.map RnV.rn = [⟨1, 2, 1, 0, [97, 98]⟩, ⟨2, 2, 1, 0, [0, 0]⟩]) :
    ∃ g o A0 c0 A1 c1, B = some ⟨g, o, none⟩ ∧ n = 2 ∧ w.cell? ⟨g, o, none⟩ = some (.int .i64 1) ∧ w.cell? ⟨g, o + 1, none⟩ = some (.int .i64 2) ∧ w.cell? ⟨g, o + 4, none⟩ = some (.slice A0 2 c0) ∧
      w.cell? ⟨g, o + 5, none⟩ = some (.int .i64 2) ∧ w.cell? ⟨g, o + 5 + 1, none⟩ = some (.int .i64 2) ∧ w.cell? ⟨g, o + 5 + 4, none⟩ = some (.slice A1 2 c1) := by
  have hl : L.length = 2 := by simpa using congrArg List.length hL
  match L, hl, hL with
  | [r0, r1], _, hL =>
    obtain ⟨h0, h1⟩ : r0.rn = ⟨1, 2, 1, 0, [97, 98]⟩ ∧ r1.rn = ⟨2, 2, 1, 0, [0, 0]⟩ := by simpa using hL
    obtain rfl : n = 2 := h.1.len.symm
    obtain ⟨g, o, rfl, _, hc⟩ := Rnr.at_ h.1 (i := 0) (by decide)
    have c0 := hc 0 (by decide)
    have c1 := hc 1 (by decide)
    have n0 := (h.2 r0 (by simp)).len
    have n1 := (h.2 r1 (by simp)).len
    obtain ⟨k, p, x, y, A, n, c, cs⟩ := r0
    obtain ⟨k', p', x', y', A', n', c', cs'⟩ := r1
    simp only [RnV.rn, Pl.Rn.mk.injEq] at h0 h1
    obtain ⟨rfl, rfl, rfl, rfl, rfl⟩ := h0
    obtain ⟨rfl, rfl, rfl, rfl, rfl⟩ := h1
    obtain rfl : 2 = n := n0
    obtain rfl : 2 = n' := n1
    simp at c0 c1
    exact ⟨g, o, A, c, A', c', rfl, rfl, c0.1, c0.2.1, c0.2.2.2.2, c1.1, by simpa using c1.2.1, by simpa using c1.2.2.2.2⟩
theorem id_agg (x y : Int) : idval x y = .agg #[.int .u32 x, .int .u64 y] := rfl
set_option maxRecDepth 100000 in
set_option maxHeartbeats 2000000 in
theorem awake_any (w : World) : Calls Try.prog 17 #[] w fun e w' => e = .returned (.bool true) ∧ Below w.heap.size w w' := by
  have hb1 := below_box w (.cells #[.int .i32 97, .int .i32 98] 42)
  have HB1 := Lib.hid hb1
  have hcl := crs_lit w [97, 98] (fun x hx => by simp at hx; rcases hx with rfl | rfl <;> (unfold Pl.J; omega)) (by simp [maxLen])
  have HT := Lib.hid (type_any 2 (some ⟨w.heap.size, 0, none⟩) 2 2 [97, 98] 1 0 (w.alloc (.cells #[.int .i32 97, .int .i32 98] 42)) hcl.crs.2)
  rw [wk_type.1, wk_type.2] at HT
  have HE := fun w1 => Lib.hid (erase_any 2 2 1 0 w1)
  simp only [wk_erase.1, wk_erase.2] at HE
  clear hb1 hcl
  go_enter Try.func17, Try.ntmps17
  go_wp2_with fail
  refine HT.out.mono ?_
  intro e w2 hret
  obtain ⟨hb2, B, d, rfl, ho⟩ := hret.good rfl
  have HB2 := Lib.hid (below_then HB1.out hb2)
  have HO := Lib.hid (OwnR.lower ho HB1.out.size)
  clear hret hb2 ho HT
  go_wp2_with fail
  refine (HE _).out.mono ?_
  intro e w3 hret
  obtain ⟨hb3, B3, d3, rfl, ho3⟩ := hret.good rfl
  have HB3 := Lib.hid (below_then HB2.out hb3)
  have HO2 := Lib.hid (OwnR.then_ HO.out hb3)
  have HO3 := Lib.hid (OwnR.lower ho3 HB2.out.size)
  clear hret hb3 ho3 HE HO
  obtain ⟨g2, rfl, _, _⟩ := OwnR.pos_ HO2.out (by decide)
  obtain ⟨g3, rfl, _, _⟩ := OwnR.pos_ HO3.out (by decide)
  obtain ⟨a0, a1, a2, a3, a4, _⟩ := OwnU.cells HO2.out (i := 0) (by decide)
  obtain ⟨b0, b1, b2, b3, b4, _⟩ := OwnU.cells HO2.out (i := 1) (by decide)
  obtain ⟨c0, c1, c2, c3, c4, _⟩ := OwnU.cells HO3.out (i := 0) (by decide)
  obtain ⟨d0, d1, d2, d3, d4, _⟩ := OwnU.cells HO3.out (i := 1) (by decide)
  simp only [List.getD_cons_zero, List.getD_cons_succ, Nat.zero_mul, Nat.one_mul, Nat.zero_add] at a0 a1 a2 a3 a4 b0 b1 b2 b3 b4 c0 c1 c2 c3 c4 d0 d1 d2 d3 d4
  simp only [List.length_cons, List.length_nil, Nat.zero_add, Nat.reduceAdd] at HO2 HO3 ⊢
  have hsz := HB3.out.size
  have HU3 := Lib.hid (OwnU.uns HO3.out)
  go_wp2_with (at_builtin; refine wpList_append_rws encU_len encU_one Try.underlying27 infoUn (by decide) (by decide) w3 rfl (.tmp 68) (.tmp 69) rfl w.heap.size _ _ _ _ (by rfl) HO2.out _ _ _ _ _ (by rfl) HU3.out (by unfold maxLen; omega) (by omega) hsz ?_)
  intro A4 cc4 w4 hO4 hg4 hat4
  have HB4 := Lib.hid (OwnR.grownBelow HO2.out hg4 HB3.out hsz)
  have HU4 := Lib.hid (OwnU.uns hO4)
  have HRU := Lib.hid (runs_any _ _ _ _ w4 HU4.out (by omega) (fun u hu => by simp at hu; rcases hu with rfl | rfl | rfl <;> exact Pl.I.mk (by simp only; omega)) (fun u hu => by simp at hu; rcases hu with rfl | rfl | rfl <;> (unfold Pl.J; simp only; omega)))
  clear hO4 hg4 hat4 hsz a0 a1 a2 a3 a4 b0 b1 b2 b3 b4 c0 c1 c2 c3 c4 d0 d1 d2 d3 d4
  go_wp2_with fail
  refine HRU.out.mono ?_
  rintro e w5 ⟨B5, d5, L, rfl, hr5, hL5, hb5⟩
  simp only [wk_runs] at hL5
  obtain ⟨g, o, A0, e0, A1, e1, rfl, hn, f0, f1, f2, f3, f4, f5⟩ := wk_two hr5 hL5
  rw [hn]
  have HB5 := Lib.hid (below_then HB4.out hb5)
  clear hr5 hL5 hb5 hn
  go_wp2_with fail
  go_ret
  exact ⟨rfl, HB5.out⟩
end Go.Proofs.Ythnenmglmebljaa
