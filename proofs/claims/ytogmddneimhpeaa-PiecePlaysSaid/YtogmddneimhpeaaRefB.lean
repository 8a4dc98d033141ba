/-
  Contract of the document's own New. Conditions: at most a million code points.
-/
import Derived.Test.YtogmddneimhpeaaRefA
import Derived.Test.YtogmddneimhpeaaPceL
namespace Go.Proofs.Ytogmddneimhpeaa
open Go.RowKit
open Pl (Pc Plc Tab On)

/-- the slice laid anew -/
theorem Rf.lay {w : World} {base r n c n' c' ad : Nat} {A A' : Option Addr} {l' : List On} (h : w.heap[r]? = some (.cells #[.slice A n c, .int .i64 (ad : Int)] 48 (0, 0))) (hO : OwnO w base (.slice A' n' c') l') (hr : base ≤ r) (hne : Value.ownBlock (.slice A' n' c') ≠ some r) :
    Rf (w.setCell ⟨r, 0, none⟩ (.slice A' n' c')) base r A' n' c' l' ad := by
  refine ⟨blk_set (i := 0) h _, OwnR.same hO fun g _ _ hg => blk_keep _ (fun e => ?_), hr, hne⟩
  rw [e] at hg
  exact hne hg
/-- so far -/
def NewRel (w : World) (l : List On) (i : Value) (wr : World) : Prop := ∃ (j : Nat) (A : Option Addr) (c : Nat), i = .int .i64 (j : Int) ∧ j ≤ l.length ∧ Rf wr w.heap.size w.heap.size A j c (l.take j) 0 ∧ Below w.heap.size w wr
theorem fresh_one_at (cs : List Int) (j : Nat) (h : j < cs.length) : (Pl.ones (Pl.fresh cs))[j]? = some ⟨cs.getD j 0, false, j⟩ := by
  unfold Pl.ones Pl.fresh Pl.places
  simp [h, Pl.on_, Pl.Tab.look, Pl.Tab.buf, List.getD_eq_getElem?_getD]
set_option maxRecDepth 100000 in
set_option maxHeartbeats 1000000 in
theorem new_ref (A : Option Addr) (n c : Nat) (cs : List Int) (w : World) (h : Crs w w.heap.size A n c cs) (hn : n ≤ 1000000) :
    Calls Try.prog 12 #[.slice A n c] w fun e w' => ∃ r A' c', e = .returned (.pointer (some ⟨r, 0, none⟩)) ∧ Rf w' w.heap.size r A' n c' (Pl.ones (Pl.fresh cs)) 0 ∧ Below w.heap.size w w' := by
  have HLC := Lib.hid h.len
  have H := Lib.hid h
  have hn9 : n ≤ 9223372036854775807 := by omega
  obtain ⟨L, hL⟩ : ∃ L, L = Pl.ones (Pl.fresh cs) := ⟨_, rfl⟩
  have HLL := Lib.hid (show L.length = n by rw [hL, Pl.len_ones]; simp [Pl.fresh, Pl.places, HLC.out])
  have HAT := fun j (hj : j < n) => Lib.hid (show L[j]? = some ⟨cs.getD j 0, false, j⟩ by rw [hL]; exact fresh_one_at cs j (by rw [HLC.out]; exact hj))
  rw [← hL]
  clear h hL
  go_enter Try.func12, Try.ntmps12
  go_wp2_with fail
  go_loopw [4] (fun i wr => NewRel w L i wr) (fun i _ => n - (intOf i).toNat)
  case atStart => exact ⟨0, none, 0, rfl, Nat.zero_le _, ⟨heap_new rfl, by rw [List.take_zero]; exact OwnR.nil_ _ _ _ _ _, Nat.le_refl _, by simp [Value.ownBlock]⟩, (below_alloc (Below.refl _ _) _)⟩
  case round =>
    obtain ⟨j, A3, c3, rfl, hj, hR, hb⟩ := hrel
    rw [HLL.out] at hj
    have HR := Lib.hid hR
    have HB := Lib.hid hb
    have HH := Lib.hid (H.out.then_ hb)
    by_cases hlt : j < n
    · obtain ⟨g, o, rfl, _, hc⟩ := HH.out.at_ hlt
      have y0 := hc j hlt
      have x0 := hR.c0
      have f0 := hR.fr 0
      have hz0 : (0 : Int) ≤ (j : Int) := by omega
      have hz1 : (j : Int) < (n : Int) := by omega
      obtain ⟨z, hz⟩ : ∃ z, z = cs.getD j 0 := ⟨_, rfl⟩
      rw [← hz] at y0
      have HZ := Lib.hid hz
      clear hR hb hc hz
      have hx : L.take j ++ [⟨z, false, j⟩] = L.take (j + 1) := by rw [List.take_add_one, (HAT j hlt).out, HZ.out]; rfl
      have HX := Lib.hid hx
      obtain ⟨V, hV⟩ : ∃ V, V = wr.alloc (.cells #[.int .i32 z, .bool false, .int .i64 (j : Int)] 83) := ⟨_, rfl⟩
      have hbV : Below wr.heap.size wr V := by rw [hV]; exact below_alloc (Below.refl _ _) _
      have hRV := HR.out.then_ hbV
      have HRV := Lib.hid hRV
      have hO := Lib.hid (show OwnO V.drew w.heap.size (.slice A3 j c3) (L.take j) from OwnR.then_ hRV.2.1 (below_drawn (Below.refl _ _)))
      have hS := Lib.hid (show Ons V.drew V.heap.size (some ⟨wr.heap.size, 0, none⟩) 1 1 [⟨z, false, j⟩] from by
        have h := (OwnR.rws encO_len (OwnR.lit (e := 83) encO_len wr [(⟨z, false, j⟩ : On)] (by unfold maxLen; simp))).2
        rw [hV]
        exact Rws.below h (below_drawn (Below.refl _ _)) (Nat.le_refl _))
      have HBV := Lib.hid (HB.out.trans (hbV.mono HB.out.size))
      have HK := Lib.hid (show ∀ w4, V.drew.grownBy w4 (Value.ownBlock (.slice A3 j c3)) → w4.heap[w.heap.size]? = some (.cells #[.slice A3 j c3, .int .i64 ((0 : Nat) : Int)] 48 (0, 0)) from fun w4 hg => (hg.block w.heap.size hRV.lt (fun e => hRV.2.2.2 e.symm)).trans hRV.1)
      have HVS := Lib.hid (show w.heap.size < V.heap.size from hRV.lt)
      have HV := Lib.hid hV
      have x0' := Lib.cell?_alloc_some (.cells #[.int .i32 z, .bool false, .int .i64 (j : Int)] 83) x0
      have y0' := Lib.cell?_alloc_some (.cells #[.int .i32 z, .bool false, .int .i64 (j : Int)] 83) y0
      clear hx hbV hRV hV
      go_wp2_with fail
      go_region_law (rw [← HV.out]; refine step_append_rws encO_len encO_one Try.underlying46 infoOn (by decide) (by decide) V.drew (by rfl) (.tmp 17) (.tmp 24) (by rfl) w.heap.size A3 j c3 (L.take j) (by rfl) hO.out _ (some ⟨wr.heap.size, 0, none⟩) 1 1 [⟨z, false, j⟩] (by rfl) hS.out (by unfold maxLen; omega) (by omega) (Nat.le_of_lt HVS.out) ?_; intro A4 c4 w4 hO4 hg4 hat4; have p4 := HK.out w4 hg4; have f4 := frozen_of_row w4 w.heap.size 0 _ _ p4; have r4 := cell0 p4)
      all_goals
        have HB4 := Lib.hid (OwnR.grownBelow hO.out hg4 (below_drawn HBV.out) (Nat.le_of_lt HVS.out))
        rw [HX.out] at hO4
        have hne : Value.ownBlock (.slice A4 (j + 1) c4) ≠ some w.heap.size := by
          rcases hat4 with e | e
          · rw [e]; exact HRV.out.2.2.2
          · rw [e]; intro h; injection h with h; exact absurd h (Nat.ne_of_gt HVS.out)
        have HRN := Lib.hid (Rf.lay p4 hO4 (Nat.le_refl _) hne)
        have HBN := Lib.hid (HB4.out.setCell (p := ⟨w.heap.size, 0, none⟩) (Nat.le_refl _) (.slice A4 (j + 1) c4))
        clear hO4 hg4 hat4 p4 f4 r4 hne HB4 x0 y0 x0' y0'
        go_wp2_with fail
        go_roundw
        case rel => exact ⟨j + 1, A4, c4, by go_num, by rw [HLL.out]; omega, HRN.out, HBN.out⟩
        case measure => simp [intOf]; omega
    · have hjn : j = n := by omega
      rw [hjn, ← HLL.out, List.take_length, HLL.out] at hR
      have HR2 := Lib.hid hR
      clear hR hb
      go_wp2_with fail
      go_ret
      exact ⟨_, A3, c3, rfl, HR2.out, HB.out⟩
end Go.Proofs.Ytogmddneimhpeaa
