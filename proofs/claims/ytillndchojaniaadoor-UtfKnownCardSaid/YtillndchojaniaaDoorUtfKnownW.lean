/-
  The walk of copybooklaw04.UtfKnown: it returns true; nothing that was there turned. Condition: the tables stand.
-/
import Derived.Test.YtillndchojaniaaDoorUtfI
import Derived.Deep.RegionHeld3
namespace Go.Proofs.YtillndchojaniaaDoor.utfKnown
open Go.RowKit

theorem dec_lit_bad (W : World) (bs : List Nat) (fr : Nat × Nat) (hT : Tab W) (ho : Pl.Oct bs) (hl : bs.length ≤ 1000) (hw : Pl.whole bs ≠ bs.length) :
    Calls Tryd.prog 11 #[.slice (some ⟨W.heap.size, 0, none⟩) bs.length bs.length] (W.alloc (.cells (cellsOf bs).toArray 5 fr)) fun e w' => ∃ A m c, e = .returned (.tuple #[.slice A m c, .int .i64 21]) ∧ Below W.heap.size W w' :=
  (dec_any _ _ _ bs _ (hT.then_ (below_lit W bs fr)) ((bys_cells W bs 5 fr ho (by unfold maxLen; omega)).more (by simp)) (by omega)).mono fun e w' ⟨A, m, c, h1, _, h3⟩ =>
    ⟨A, m, c, by rw [h1, (Pl.dec_no hw).2], (below_lit W bs fr).trans (h3.mono (by simp))⟩
theorem whole_lit (W : World) (bs : List Nat) (fr : Nat × Nat) (hT : Tab W) (ho : Pl.Oct bs) (hl : bs.length ≤ 1000) (k : Nat) (hw : Pl.whole bs = k) :
    Calls Tryd.prog 14 #[.slice (some ⟨W.heap.size, 0, none⟩) bs.length bs.length] (W.alloc (.cells (cellsOf bs).toArray 5 fr)) fun e w' => e = .returned (.int .i64 (k : Int)) ∧ Below W.heap.size W w' :=
  (whole_any _ _ _ bs _ (hT.then_ (below_lit W bs fr)) ((bys_cells W bs 5 fr ho (by unfold maxLen; omega)).more (by simp))).mono fun e w' ⟨h1, h3⟩ =>
    ⟨by rw [h1, hw], (below_lit W bs fr).trans (h3.mono (by simp))⟩
def edges : List Int := [0, 127, 128, 2047, 2048, 65535, 65536, 1114111, 55295]
def sizes : List Int := [1, 1, 2, 2, 3, 3, 4, 4, 3]
theorem edge (i : Nat) (h : i < 9) : Pl.May (edges.getD i 0) ∧ ((Pl.size (edges.getD i 0) : Nat) : Int) = sizes.getD i 0 := by
  have : ∀ i, i < 9 → Pl.May (edges.getD i 0) ∧ ((Pl.size (edges.getD i 0) : Nat) : Int) = sizes.getD i 0 := by decide
  exact this i h
theorem fst_high (c : Nat) (h : 128 ≤ c) (h2 : c < 256) : (Pl.fst [c]).2 = 0 ∧ (Pl.fst [c, 97]).2 = 0 ∧ Pl.fst [97, c] = (97, 1) := by
  have : ∀ c, c < 256 → 128 ≤ c → (Pl.fst [c]).2 = 0 ∧ (Pl.fst [c, 97]).2 = 0 ∧ Pl.fst [97, c] = (97, 1) := by decide +kernel
  exact this c h2 h
theorem whole_high (c : Nat) (h : 128 ≤ c) (h2 : c < 256) : Pl.whole [c] ≠ 1 ∧ Pl.whole [c, 97] ≠ 2 ∧ Pl.whole [97, c] = 1 := by
  obtain ⟨h3, h4, h5⟩ := fst_high c h h2
  refine ⟨by rw [Pl.whole_stop h3]; decide, by rw [Pl.whole_stop h4]; decide, ?_⟩
  rw [Pl.whole_go (by rw [h5]; decide), h5]
  show 1 + Pl.whole ([97, c].drop 1) = 1
  rw [show [97, c].drop 1 = [c] from rfl, Pl.whole_stop h3]
theorem oct2 {a b : Nat} (h : a < 256) (k : b < 256) : Pl.Oct [a, b] := fun x hx => by simp at hx; omega
theorem oct1 {a : Nat} (h : a < 256) : Pl.Oct [a] := fun x hx => by simp at hx; omega

def E1 (w wr : World) : Prop := Below w.heap.size w wr ∧ wr.heap[w.heap.size]? = some (.cells (cellsC edges).toArray 46 (0, 0)) ∧ wr.heap[w.heap.size + 1]? = some (.cells (sizes.map fun x => Value.int .i64 x).toArray 47 (0, 0))
theorem E1.start (w : World) : E1 w ((w.alloc (.cells (cellsC edges).toArray 46)).alloc (.cells (sizes.map fun x => Value.int .i64 x).toArray 47)) := by
  have hs : (w.alloc (.cells (cellsC edges).toArray 46)).heap.size = w.heap.size + 1 := by simp
  refine ⟨((Below.refl _ w).alloc (Nat.le_refl _) _).alloc (by rw [hs]; omega) _, ?_, ?_⟩
  · rw [Below.heap_alloc _ _ _ (by rw [hs]; omega)]; exact heap_alloc_new w _
  · rw [← hs]; exact heap_alloc_new _ _
theorem E1.cells {w wr : World} (h : E1 w wr) {i : Nat} (hi : i < 9) : wr.cell? ⟨w.heap.size, i, none⟩ = some (.int .i32 (edges.getD i 0)) ∧ wr.cell? ⟨w.heap.size + 1, i, none⟩ = some (.int .i64 (sizes.getD i 0)) := by
  have : ∀ i, i < 9 → (cellsC edges)[i]? = some (.int .i32 (edges.getD i 0)) ∧ (sizes.map fun x => Value.int .i64 x)[i]? = some (.int .i64 (sizes.getD i 0)) := by
    intro i hi
    rcases (show i = 0 ∨ i = 1 ∨ i = 2 ∨ i = 3 ∨ i = 4 ∨ i = 5 ∨ i = 6 ∨ i = 7 ∨ i = 8 by omega) with rfl | rfl | rfl | rfl | rfl | rfl | rfl | rfl | rfl <;> exact ⟨rfl, rfl⟩
  obtain ⟨h1, h2⟩ := this i hi
  rw [cell_of_row wr _ i _ _ _ h.2.1, cell_of_row wr _ i _ _ _ h.2.2]
  exact ⟨by simpa using h1, by simpa using h2⟩
theorem E1.drew {w wr : World} (h : E1 w wr) : E1 w wr.drew := ⟨below_drawn h.1, h.2⟩

set_option maxRecDepth 100000 in
set_option maxHeartbeats 4000000 in
theorem walk (w : World) (hT : Tab w) : Calls Tryd.prog 8 #[] w fun e w' => e = .returned (.bool true) ∧ Below w.heap.size w w' := by
  have HT := Lib.hid hT
  clear hT
  have HST := Lib.hid (E1.start w)
  go_enter Tryd.func8, Tryd.ntmps8
  go_wp2_with fail
  go_loopw [3] (fun i wr => ∃ j : Nat, i = .int .i64 (j : Int) ∧ j ≤ 9 ∧ E1 w wr) (fun i _ => 9 - (intOf i).toNat)
  case atStart => exact ⟨0, rfl, by omega, HST.out⟩
  case round =>
    obtain ⟨j, rfl, hj, hE⟩ := hrel
    have HE := Lib.hid hE
    by_cases hlt : j < 9
    · obtain ⟨ce, cz⟩ := hE.cells hlt
      obtain ⟨hm, hz⟩ := edge j hlt
      have HJ := Lib.hid hm.J
      have HM := Lib.hid (decide_eq_true hm)
      have HZ := Lib.hid hz
      obtain ⟨x, hx⟩ : ∃ x, x = edges.getD j 0 := ⟨_, rfl⟩
      obtain ⟨s, hs⟩ : ∃ s, s = sizes.getD j 0 := ⟨_, rfl⟩
      rw [← hx] at ce HJ HM HZ
      rw [← hs] at cz HZ
      clear hx hs hm hz hE
      have HSZ := Lib.hid (fun w1 : World => size_any x w1 HJ.out)
      rw [HZ.out] at HSZ
      have HMY := Lib.hid (fun w1 : World => may_any x w1 HJ.out)
      rw [HM.out] at HMY
      have z0 : (0 : Int) ≤ (j : Int) := by omega
      have z1 : (j : Int) < 9 := by omega
      go_wp2_with fail
      go_region_held3 (fun w' => w'.cell? ⟨w.heap.size, j, none⟩ = some (.int .i32 x) ∧ w'.cell? ⟨w.heap.size + 1, j, none⟩ = some (.int .i64 s)) (go_keep)
        (first | (go_at_call 18; refine (HSZ.out _).mono ?_; rintro e wS ⟨rfl, rfl⟩) | (go_at_call 16; refine (HMY.out _).mono ?_; rintro e wM ⟨rfl, rfl⟩))
      all_goals
        clear ce cz
        go_wp2_with fail
        go_roundw
        case rel => exact ⟨j + 1, by go_num, by omega, HE.out.drew⟩
        case measure => simp [intOf]; omega
    · have HB := Lib.hid hE.1
      have HTR := Lib.hid (HT.out.then_ HB.out)
      clear hE
      go_wp2_with fail
      refine (may_any (-1) wr (by unfold Pl.J; decide)).mono ?_
      rintro e w' ⟨rfl, rfl⟩
      rw [decide_eq_false (by decide : ¬ Pl.May (-1))]
      go_wp2_with fail
      refine (may_any 55296 wr (by unfold Pl.J; decide)).mono ?_
      rintro e w' ⟨rfl, rfl⟩
      rw [decide_eq_false (by decide : ¬ Pl.May 55296)]
      go_wp2_with fail
      refine (may_any 57343 wr (by unfold Pl.J; decide)).mono ?_
      rintro e w' ⟨rfl, rfl⟩
      rw [decide_eq_false (by decide : ¬ Pl.May 57343)]
      go_wp2_with fail
      refine (may_any 1114112 wr (by unfold Pl.J; decide)).mono ?_
      rintro e w' ⟨rfl, rfl⟩
      rw [decide_eq_false (by decide : ¬ Pl.May 1114112)]
      go_wp2_with fail
      refine (size_any 55296 wr (by unfold Pl.J; decide)).mono ?_
      rintro e w' ⟨rfl, rfl⟩
      rw [Pl.size_not (by decide : ¬ Pl.May 55296)]
      go_wp2_with fail
      refine (size_any (-1) wr (by unfold Pl.J; decide)).mono ?_
      rintro e w' ⟨rfl, rfl⟩
      rw [Pl.size_not (by decide : ¬ Pl.May (-1))]
      go_wp2_with fail
      refine (may_any 57344 wr (by unfold Pl.J; decide)).mono ?_
      rintro e w' ⟨rfl, rfl⟩
      rw [decide_eq_true (by decide : Pl.May 57344)]
      go_wp2_with fail
      go_loopw [4] (fun i w2 => ∃ j : Nat, i = .int .i64 (j : Int) ∧ 128 ≤ j ∧ j ≤ 256 ∧ Below w.heap.size w w2) (fun i _ => 256 - (intOf i).toNat)
      case atStart => exact ⟨128, rfl, by omega, by omega, HB.out⟩
      case round =>
        obtain ⟨q, rfl, hq1, hq2, hb⟩ := hrel
        have HB2 := Lib.hid hb
        clear hb
        by_cases hlt2 : q < 256
        · obtain ⟨hw1, hw2, hw3⟩ := whole_high q hq1 hlt2
          have HW := Lib.hid (And.intro hw1 (And.intro hw2 hw3))
          have HO := Lib.hid hlt2
          have HT2 := Lib.hid (HT.out.then_ HB2.out)
          clear hw1 hw2 hw3
          go_wp2_with fail
          refine (dec_lit_bad wr [q] (0, 0) HT2.out (oct1 HO.out) (by simp) HW.out.1).mono ?_
          rintro e w3 ⟨A3, m3, c3, rfl, hb3⟩
          have HB3 := Lib.hid (HB2.out.trans (hb3.mono HB2.out.size))
          have HT3 := Lib.hid (HT.out.then_ HB3.out)
          clear hb3
          go_wp2_with fail
          refine (dec_lit_bad w3 [q, 97] (0, 0) HT3.out (oct2 HO.out (by decide)) (by simp) HW.out.2.1).mono ?_
          rintro e w4 ⟨A4, m4, c4, rfl, hb4⟩
          have HB4 := Lib.hid (HB3.out.trans (hb4.mono HB3.out.size))
          have HT4 := Lib.hid (HT.out.then_ HB4.out)
          clear hb4
          go_wp2_with fail
          refine (dec_lit_bad w4 [97, q] (0, 0) HT4.out (oct2 (by decide) HO.out) (by simp) (by rw [HW.out.2.2]; simp)).mono ?_
          rintro e w5 ⟨A5, m5, c5, rfl, hb5⟩
          have HB5 := Lib.hid (HB4.out.trans (hb5.mono HB4.out.size))
          have HT5 := Lib.hid (HT.out.then_ HB5.out)
          clear hb5
          go_wp2_with fail
          refine (whole_lit w5 [97, q] (0, 0) HT5.out (oct2 (by decide) HO.out) (by simp) 1 HW.out.2.2).mono ?_
          rintro e w6 ⟨rfl, hb6⟩
          have HB6 := Lib.hid (HB5.out.trans (hb6.mono HB5.out.size))
          clear hb6
          go_wp2_with fail
          go_roundw
          case rel => exact ⟨q + 1, by go_num, by omega, by omega, HB6.out⟩
          case measure => simp [intOf]; omega
        · have HT2 := Lib.hid (HT.out.then_ HB2.out)
          have kc5 := fun (w : World) (C : Array Value) => Lib.run_convert_bytes_const (P := Tryd.prog) w 23 5 C 5 5 Tryd.underlying23 Tryd.underlying5
          have kc3 := fun (w : World) (C : Array Value) => Lib.run_convert_bytes_const (P := Tryd.prog) w 23 5 C 3 3 Tryd.underlying23 Tryd.underlying5
          have kc4 := fun (w : World) (C : Array Value) => Lib.run_convert_bytes_const (P := Tryd.prog) w 23 5 C 4 4 Tryd.underlying23 Tryd.underlying5
          go_wp2_with fail
          refine (dec_lit_bad wr [248, 136, 128, 128, 128] (5, 6) HT2.out (oct_lit _ (by decide)) (by decide) (by rw [Pl.whole_stop (by decide)]; decide)).mono ?_
          rintro e w3 ⟨A3, m3, c3, rfl, hb3⟩
          have HB3 := Lib.hid (HB2.out.trans (hb3.mono HB2.out.size))
          have HT3 := Lib.hid (HT.out.then_ HB3.out)
          clear hb3
          go_wp2_with fail
          refine (dec_lit_bad w3 [224, 159, 191] (3, 4) HT3.out (oct_lit _ (by decide)) (by decide) (by rw [Pl.whole_stop (by decide)]; decide)).mono ?_
          rintro e w4 ⟨A4, m4, c4, rfl, hb4⟩
          have HB4 := Lib.hid (HB3.out.trans (hb4.mono HB3.out.size))
          have HT4 := Lib.hid (HT.out.then_ HB4.out)
          clear hb4
          go_wp2_with fail
          refine (dec_lit_bad w4 [240, 143, 191, 191] (4, 5) HT4.out (oct_lit _ (by decide)) (by decide) (by rw [Pl.whole_stop (by decide)]; decide)).mono ?_
          rintro e w5 ⟨A5, m5, c5, rfl, hb5⟩
          have HB5 := Lib.hid (HB4.out.trans (hb5.mono HB4.out.size))
          have HT5 := Lib.hid (HT.out.then_ HB5.out)
          clear hb5
          go_wp2_with fail
          refine (dec_any none 0 0 [] w5 HT5.out (Bys.none_ _ _) (by omega)).mono ?_
          rintro e w6 ⟨A6, m6, c6, rfl, hO6, hb6⟩
          rw [(Pl.dec_yes (bs := []) Pl.whole_nil).2]
          rw [(Pl.dec_yes (bs := []) Pl.whole_nil).1, Pl.dec_nil] at hO6
          have h60 : m6 = 0 := hO6.crs.1
          subst h60
          have HB6 := Lib.hid (HB5.out.trans (hb6.mono HB5.out.size))
          have HT6 := Lib.hid (HT.out.then_ HB6.out)
          clear hb6 hO6 kc3 kc4 kc5
          go_wp2_with fail
          refine (wakes_any w6 HT6.out).mono ?_
          rintro e w7 ⟨rfl, hb7⟩
          have HB7 := Lib.hid (HB6.out.trans (hb7.mono HB6.out.size))
          clear hb7
          go_wp2_with fail
          go_ret
          exact ⟨rfl, HB7.out⟩
end Go.Proofs.YtillndchojaniaaDoor.utfKnown
