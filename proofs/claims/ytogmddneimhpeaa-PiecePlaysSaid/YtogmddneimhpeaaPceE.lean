/-
  Contract of piece.New: a table of its own, of one piece with all of the text. Condition: the text has at most 2^30 code points.
-/
import Derived.Test.YtogmddneimhpeaaPceD
namespace Go.Proofs.Ytogmddneimhpeaa
open Go.RowKit
open Pl (Pc Plc Tab)

/-- what a call that makes a table leaves -/
def Made (w : World) (t : Tab) (m : Nat) (e : Ending) (w' : World) : Prop := ∃ p F, e = .returned (.pointer (some ⟨p, 0, none⟩)) ∧ Tb w' F p t m ∧ (∀ b, F b → w.heap.size ≤ b) ∧ Below w.heap.size w w'
theorem fresh_nil {cs : List Int} (h : cs.length = 0) : Pl.group (Pl.fresh cs).L = [] := by
  unfold Pl.fresh
  simp only
  rw [h]; rfl
theorem fresh_one {cs : List Int} (h : 0 < cs.length) : Pl.group (Pl.fresh cs).L = [⟨false, 0, cs.length⟩] := Pl.group_one h
section
variable {w w1 : World} {A1 : Option Addr} {c1 : Nat} {cs : List Int}
def newBuf (w1 : World) : World := w1.alloc (.cells #[.slice none 0 0] 79)
def newTab (w1 : World) (A1 : Option Addr) (n c1 : Nat) : World := (newBuf w1).alloc (.cells #[.slice A1 n c1, .pointer (some ⟨w1.heap.size, 0, none⟩), .int .i64 0, .slice none 0 0] 81)
theorem newTab_size (n : Nat) : (newTab w1 A1 n c1).heap.size = w1.heap.size + 2 := by simp [newTab, newBuf]
theorem newTab_below (hb : Below w.heap.size w w1) (n : Nat) : Below w.heap.size w (newTab w1 A1 n c1) := by
  unfold newTab newBuf
  exact below_alloc (below_alloc hb _) _
theorem newTab_q (n : Nat) : (newTab w1 A1 n c1).heap[w1.heap.size]? = some (.cells #[.slice none 0 0] 79 (0, 0)) := by
  unfold newTab
  rw [Below.heap_alloc _ _ _ (by simp [newBuf])]
  exact heap_alloc_new w1 _
theorem newTab_p (n : Nat) : (newTab w1 A1 n c1).heap[w1.heap.size + 1]? = some (.cells #[.slice A1 n c1, .pointer (some ⟨w1.heap.size, 0, none⟩), .int .i64 0, .slice none 0 0] 81 (0, 0)) := by
  unfold newTab
  exact heap_new (by simp [newBuf])
theorem newTab_own (n : Nat) (hO : OwnC w1 w.heap.size (.slice A1 cs.length c1) cs) : OwnC (newTab w1 A1 n c1) w.heap.size (.slice A1 cs.length c1) cs := (hO.alloc _).alloc _
/-- New of no code points -/
theorem new_none (h0 : cs.length = 0) (hb : Below w.heap.size w w1) (hO : OwnC w1 w.heap.size (.slice A1 cs.length c1) cs) :
    Made w (Pl.fresh cs) cs.length (.returned (.pointer (some ⟨w1.heap.size + 1, 0, none⟩))) (newTab w1 A1 cs.length c1) := by
  have z := hb.size
  have hO' := newTab_own cs.length hO
  have hlt := hO.lt
  refine ⟨w1.heap.size + 1, fun b => w.heap.size ≤ b ∧ b < w1.heap.size + 2, rfl, ⟨fun b hb => ?_, Pl.fresh_ok cs, by omega, ⟨by omega, by omega⟩, A1, c1, w1.heap.size, none, 0, none, 0, ?_, newTab_q _, hO'.lower (Nat.zero_le _), OwnC.nil_ _ _, ?_, ⟨z, by omega⟩, by omega, fun g hg => ?_, (fun g hg => by cases hg), (fun g hg => by cases hg)⟩, fun b hb => hb.1, newTab_below hb _⟩
  · rw [newTab_size]; exact hb.2
  · rw [fresh_nil h0]; exact newTab_p _
  · rw [fresh_nil h0]; exact OwnR.nil_ _ _ _ _ _
  · have := hlt g hg
    exact ⟨⟨this.1, by omega⟩, by omega, by omega, fun e => by cases e⟩
/-- New of some -/
theorem new_some (h0 : 0 < cs.length) (hm : cs.length ≤ 1073741824) (hb : Below w.heap.size w w1) (hO : OwnC w1 w.heap.size (.slice A1 cs.length c1) cs) :
    Made w (Pl.fresh cs) cs.length (.returned (.pointer (some ⟨w1.heap.size + 1, 0, none⟩)))
      (((newBuf w1).alloc (.cells #[.slice A1 cs.length c1, .pointer (some ⟨w1.heap.size, 0, none⟩), .int .i64 0, .slice (some ⟨w1.heap.size + 1 + 1, 0, none⟩) 1 1] 81)).alloc (.cells #[.bool false, .int .i64 0, .int .i64 (cs.length : Int)] 59)) := by
  have z := hb.size
  have hlt := hO.lt
  obtain ⟨W, hW⟩ : ∃ W, W = (newBuf w1).alloc (.cells #[.slice A1 cs.length c1, .pointer (some ⟨w1.heap.size, 0, none⟩), .int .i64 0, .slice (some ⟨w1.heap.size + 1 + 1, 0, none⟩) 1 1] 81) := ⟨_, rfl⟩
  have zW : W.heap.size = w1.heap.size + 2 := by rw [hW]; simp [newBuf]
  have pW : W.heap[w1.heap.size + 1]? = some (.cells #[.slice A1 cs.length c1, .pointer (some ⟨w1.heap.size, 0, none⟩), .int .i64 0, .slice (some ⟨w1.heap.size + 1 + 1, 0, none⟩) 1 1] 81 (0, 0)) := by rw [hW]; exact heap_new (by simp [newBuf])
  have qW : W.heap[w1.heap.size]? = some (.cells #[.slice none 0 0] 79 (0, 0)) := by
    rw [hW, Below.heap_alloc _ _ _ (by simp [newBuf])]
    exact heap_alloc_new w1 _
  have bW : Below w.heap.size w W := by rw [hW]; unfold newBuf; exact below_alloc (below_alloc hb _) _
  have oW : OwnC W w.heap.size (.slice A1 cs.length c1) cs := by rw [hW]; exact (hO.alloc _).alloc _
  rw [← hW]
  have rV : OwnR encP 3 59 (W.alloc (.cells #[.bool false, .int .i64 0, .int .i64 (cs.length : Int)] 59)) W.heap.size (.slice (some ⟨w1.heap.size + 1 + 1, 0, none⟩) 1 1) [⟨false, 0, cs.length⟩] := by
    have := OwnR.lit (e := 59) encP_len W [⟨false, 0, cs.length⟩] (by simp [maxLen])
    rw [show w1.heap.size + 1 + 1 = W.heap.size by omega]
    simpa [cellsR, encP] using this
  obtain ⟨V, hV⟩ : ∃ V, V = W.alloc (.cells #[.bool false, .int .i64 0, .int .i64 (cs.length : Int)] 59) := ⟨_, rfl⟩
  have zV : V.heap.size = w1.heap.size + 3 := by rw [hV]; simp; omega
  have pV : V.heap[w1.heap.size + 1]? = _ := hV ▸ (Below.heap_alloc W _ _ (by omega)).trans pW
  have qV : V.heap[w1.heap.size]? = _ := hV ▸ (Below.heap_alloc W _ _ (by omega)).trans qW
  have oV : OwnC V w.heap.size (.slice A1 cs.length c1) cs := hV ▸ oW.alloc _
  have bV : Below w.heap.size w V := hV ▸ below_alloc bW _
  rw [← hV] at rV
  rw [← hV]
  refine ⟨w1.heap.size + 1, fun b => w.heap.size ≤ b ∧ b < w1.heap.size + 3, rfl, ⟨fun b hb => ?_, Pl.fresh_ok cs, hm, ⟨by omega, by omega⟩, A1, c1, w1.heap.size, none, 0, some ⟨w1.heap.size + 1 + 1, 0, none⟩, 1, ?_, qV, oV.lower (Nat.zero_le _), OwnC.nil_ _ _, ?_, ⟨z, by omega⟩, by omega, fun g hg => ?_, (fun g hg => by cases hg), fun g hg => ?_⟩, fun b hb => hb.1, bV⟩
  · rw [zV]; exact hb.2
  · rw [fresh_one h0]; exact pV
  · rw [fresh_one h0]; exact OwnR.lower rV (Nat.zero_le _)
  · have := hlt g hg
    exact ⟨⟨this.1, by omega⟩, by omega, by omega, fun e => by cases e⟩
  · have e : g = w1.heap.size + 2 := by cases hg; rfl
    subst e
    exact ⟨⟨by omega, by omega⟩, by omega, by omega, fun e => by cases e⟩
end

set_option maxRecDepth 100000 in
set_option maxHeartbeats 400000 in
theorem new_any (A : Option Addr) (n c : Nat) (cs : List Int) (w : World) (h : Crs w w.heap.size A n c cs) (hn : n ≤ 1073741824) :
    Calls Try.prog 11 #[.slice A n c] w (Made w (Pl.fresh cs) n) := by
  have hl := h.len
  have HC := Lib.hid (cloneC_any A n c cs w h (by omega))
  have HM := Lib.hid (fun w1 A1 c1 => And.intro (new_none (w := w) (w1 := w1) (A1 := A1) (c1 := c1) (cs := cs)) (new_some (w := w) (w1 := w1) (A1 := A1) (c1 := c1) (cs := cs)))
  rw [hl] at HM
  unfold RetC at HC
  rw [hl] at HC
  clear h hl
  go_enter Try.func11, Try.ntmps11
  go_wp2_with fail
  refine HC.out.mono ?_
  rintro e w1 ⟨A1, c1, rfl, hO, hb⟩
  have HO := Lib.hid hO
  have HB := Lib.hid hb
  obtain ⟨W, hW⟩ : ∃ W, W = newTab w1 A1 n c1 := ⟨_, rfl⟩
  have f1 := frozen_of_row W (w1.heap.size + 1) 3 _ _ (hW ▸ newTab_p n)
  have q1 := cell3 (w := W) (hW ▸ newTab_p n)
  have HW := Lib.hid hW
  clear hO hb HC hW
  by_cases h0 : n = 0
  · subst h0
    go_wp2_with fail
    go_ret
    exact (HM.out w1 A1 c1).1 (by trivial) HB.out HO.out
  · have hn0 : (0 : Int) < (n : Int) := by omega
    go_wp2_with fail
    go_ret
    exact (HM.out w1 A1 c1).2 (by omega) hn HB.out HO.out
end Go.Proofs.Ytogmddneimhpeaa
