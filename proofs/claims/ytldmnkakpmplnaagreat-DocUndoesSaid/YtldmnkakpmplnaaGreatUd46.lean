/-
  A document that is one (DocAt); New, Open, Edit, Undo, Text as wholes. Conditions: those that each states.
  doc.New; answers that are kept while the document goes on. Conditions: those that each states.
  What the document's examples (awake) come to, in plain words. No conditions.
-/
import Derived.Test.YtldmnkakpmplnaaGreatUd45
import Derived.Test.YtldmnkakpmplnaaGreatUd16
set_option maxRecDepth 100000
set_option linter.unusedVariables false
namespace Go.Proofs.YtldmnkakpmplnaaGreat
open Go.RowKit
open Pl (Un)
def DocAt (w : World) (D : Nat) (k : Nat → Nat) (d : Pl.Dc) (m : Nat) : Prop := (∃ pa tx ls mk, DocM w D pa tx ls mk k d.cs.length d m) ∧ d.Ok
def DocP (w : World) (D : Nat) (k : Nat → Nat) (m : Nat) (dd : Pl.Dc × Pl.An) (e : Ending) (w' : World) : Prop :=
  ∃ k' m' v, e = .returned v ∧ DocAt w' D k' dd.1 m' ∧ m' ≤ m + 256 ∧ Mv k w k' w' ∧ AnV w' (fun b => w.heap.size ≤ b ∧ k' b = 0) v dd.2
theorem DocR.p {w w' : World} {D pa tx ls mk m : Nat} {k : Nat → Nat} {dd : Pl.Dc × Pl.An} {e : Ending} (h : DocR w D pa tx ls mk k m dd e w') (ho : dd.1.Ok) : DocP w D k m dd e w' := by
  obtain ⟨k', m', v, h1, h2, h3, h4, h5⟩ := h
  exact ⟨k', m', v, h1, ⟨⟨pa, tx, ls, mk, h2⟩, ho⟩, h3, h4, h5⟩
theorem call_told {d : Pl.Dc} {t : Int} (h : ¬ 1099511627776 < t) (f : Pl.Dc → Pl.Dc × Pl.An) : d.call t f = told (f (d.touched t)) := Pl.Dc.call_on h f
theorem tells_fails (d : Pl.Dc) (rev : Nat) (b : Bool) (h : (d.tells rev b).e ≠ 0) : d.tells rev b = Pl.fails (d.tells rev b).e := by
  unfold Pl.Dc.tells at h ⊢
  split at h
  · rename_i h1; rw [if_pos h1]; rfl
  · split at h <;> exact absurd rfl h
section
variable {w w' : World} {D m : Nat} {k : Nat → Nat} {d : Pl.Dc}
theorem DocAt.tn {T : Nat → Prop} (h : DocAt w D k d m) (ht : Tn T w w') (hT : ∀ b, k b ≠ 0 → ¬ T b) : DocAt w' D k d m := by
  obtain ⟨⟨pa, tx, ls, mk, h1⟩, h2⟩ := h
  exact ⟨⟨pa, tx, ls, mk, h1.tn ht hT⟩, h2⟩
theorem DocAt.then_ (h : DocAt w D k d m) (hb : Below w.heap.size w w') : DocAt w' D k d m := h.tn (Tn.of (fun _ => False) hb) fun _ _ h => h
theorem DocAt.lt (h : DocAt w D k d m) : ∀ b, k b ≠ 0 → b < w.heap.size := by
  obtain ⟨⟨pa, tx, ls, mk, h1⟩, h2⟩ := h
  exact h1.lt
theorem DocAt.text (h : DocAt w D k d m) : Calls Tryz.prog 25 #[.pointer (some ⟨D, 0, none⟩)] w (RetC w d.cs) := by
  obtain ⟨⟨pa, tx, ls, mk, h1⟩, h2⟩ := h
  exact text_doc h1
theorem DocAt.rev (h : DocAt w D k d m) : Calls Tryz.prog 18 #[.pointer (some ⟨D, 0, none⟩)] w fun e w' => e = .returned (.int .u64 (d.now : Int)) ∧ w' = w := by
  obtain ⟨⟨pa, tx, ls, mk, h1⟩, h2⟩ := h
  exact rev_doc h1
theorem DocAt.from_ (h : DocAt w D k d m) : Calls Tryz.prog 27 #[.pointer (some ⟨D, 0, none⟩)] w fun e w' => e = .returned (.int .u64 (d.fr : Int)) ∧ w' = w := by
  obtain ⟨⟨pa, tx, ls, mk, h1⟩, h2⟩ := h
  exact from_doc h1
theorem at_edit {d : Pl.Dc} {x y t : Int} (ht : ¬ 1099511627776 < t) (base : Nat) (row : List Un) : d.edit x y base row t = told (if Pl.liveM (d.touched t).L x t = true then (d.touched t).editF x y base row t else (d.touched t, Pl.fails 36)) := by
  unfold Pl.Dc.edit Pl.Dc.at_
  rw [call_told ht]
  simp only
  by_cases hl : Pl.liveM (d.touched t).L x t = true
  · rw [if_pos hl, if_pos hl]
    unfold Pl.Dc.editF
    by_cases he : (d.touched t).editE x y base row ≠ 0
    · rw [if_pos he, if_pos he]; exact congrArg told (if_neg he)
    · rw [if_neg he, if_neg he]; rfl
  · rw [if_neg hl, if_neg hl]
theorem at_undo {d : Pl.Dc} {x y t : Int} (ht : ¬ 1099511627776 < t) (rev : Nat) : d.undo x y rev t = told (if Pl.liveM (d.touched t).L x t = true then (d.touched t).undoF x y rev t else (d.touched t, Pl.fails 36)) := by
  unfold Pl.Dc.undo Pl.Dc.at_
  rw [call_told ht]
  simp only
  by_cases hl : Pl.liveM (d.touched t).L x t = true
  · rw [if_pos hl, if_pos hl]
    unfold Pl.Dc.undoF
    by_cases he : (d.touched t).undoE x y rev ≠ 0
    · rw [if_pos he, if_pos he]; exact congrArg told (if_neg he)
    · rw [if_neg he, if_neg he]; rfl
  · rw [if_neg hl, if_neg hl]
theorem box_zero (k : Nat → Nat) (b : Nat) (h : ∀ b, k b ≠ 0 → b < w.heap.size) (hb : w.heap.size ≤ b) : k b = 0 := by
  rcases Nat.eq_zero_or_pos (k b) with h1 | h1
  · exact h1
  · have := h b (by omega); omega
set_option maxHeartbeats 1000000 in
theorem open_any (h : DocAt w D k d m) {c : Int} (hc : 0 ≤ c ∧ c < 4294967296) (rev : Nat) (hrev : rev ≤ 18446744073709551615) (now : Int) (h0 : 0 ≤ now) (hnow : now ≤ 1099511627776) (ht : d.t + 1 < 18446744073709551616) :
    Calls Tryz.prog 15 #[.pointer (some ⟨D, 0, none⟩), .int .u32 c, .int .u64 (rev : Int), .int .u64 now] w (DocP w D k m (d.open_ c rev now)) := by
  obtain ⟨⟨pa, tx, ls, mk, h⟩, hok⟩ := h
  obtain ⟨X, hX⟩ : ∃ X, X = (d.touched now).openF c rev now := ⟨_, rfl⟩
  obtain ⟨X2, hX2⟩ : ∃ X2, X2 = X := ⟨_, rfl⟩
  have hE : d.open_ c rev now = told X2 := by rw [hX2, hX]; exact by rw [Pl.Dc.open_eq]; exact call_told (by omega) _
  have hok2 := Pl.Dc.ok_open hok (c := c) (t := now) h0 (by omega) rev
  rw [hE] at hok2 ⊢
  obtain ⟨R, hR⟩ : ∃ R, R = DocP w D k m (told X2) := ⟨_, rfl⟩
  rw [← hR]
  have HR := Lib.hid hR
  have HH := Lib.hid h
  have HOK := Lib.hid hok2
  have HO := Lib.hid hok
  clear h hR hok2 hE hok
  go_enter Tryz.func15, Tryz.ntmps15
  go_wp2_with fail
  obtain ⟨os, hos⟩ : ∃ os : List Obj, os = [.cells #[.pointer (some ⟨D, 0, none⟩)] 23, .cells #[.int .u32 c] 28, .cells #[.int .u64 (rev : Int)] 27, .cells #[.int .u64 now] 27, .cells #[.int .i64 0, .int .u32 0, .int .u64 0, .bool false, .slice none 0 0, .slice none 0 0, .slice none 0 0] 37] := ⟨_, rfl⟩
  have hW : allocs w os = (((((w.alloc (.cells #[.pointer (some ⟨D, 0, none⟩)] 23)).alloc (.cells #[.int .u32 c] 28)).alloc (.cells #[.int .u64 (rev : Int)] 27)).alloc (.cells #[.int .u64 now] 27)).alloc (.cells #[.int .i64 0, .int .u32 0, .int .u64 0, .bool false, .slice none 0 0, .slice none 0 0, .slice none 0 0] 37)) := by rw [hos]; rfl
  rw [← hW]
  have hB := allocs_below os w
  have e0 := allocs_at os w 0 _ (by rw [hos]; rfl)
  have e1 := allocs_at os w 1 _ (by rw [hos]; rfl)
  have e2 := allocs_at os w 2 _ (by rw [hos]; rfl)
  have e3 := allocs_at os w 3 _ (by rw [hos]; rfl)
  have e4 := allocs_at os w 4 _ (by rw [hos]; rfl)
  clear hW hos
  generalize allocs w os = W0 at hB e0 e1 e2 e3 e4 ⊢
  clear os
  have hlt := HH.out.lt
  have hz := fun b (hb : w.heap.size ≤ b) => box_zero k b hlt hb
  have hs := lt_of_block e4
  have hC := touched_any (HH.out.then_ hB) now h0 hnow ht 67 #[.pointer (some ⟨w.heap.size + 1 + 1, 0, none⟩), .pointer (some ⟨w.heap.size, 0, none⟩), .pointer (some ⟨w.heap.size + 1, 0, none⟩), .pointer (some ⟨w.heap.size + 1 + 1 + 1, 0, none⟩)] X
    (fun args w => by simp [go_sem]) (fun he => by
      rw [hX] at he ⊢
      unfold Pl.Dc.openF at he ⊢
      by_cases h1 : ((d.touched now).tells rev (rev == 0)).e ≠ 0
      · rw [if_pos h1]; exact tells_fails _ _ _ h1
      · rw [if_neg h1] at he ⊢
        by_cases h2 : (Pl.setL (d.touched now).L c now).1 ≠ 0
        · rw [if_pos h2]; rfl
        · rw [if_neg h2] at he; exact absurd he h1) (fun w1 al h1 h2 h3 h4 => by
      rw [hX]
      exact open1_any h1 (Pl.Dc.ok_touched HO.out now) hc rev hrev now h0 (Pl.live_there HO.out.m.low c now) h4 (hz al (Nat.le_trans hB.size h3)) _ _ _ _ (box_mv h2 e2 hlt (by omega)) (box_mv h2 e0 hlt (by omega)) (box_mv h2 e1 hlt (by omega)) (box_mv h2 e3 hlt (by omega)) ⟨⟨hz _ (by omega), hz _ (by omega), hz _ (by omega), hz _ (by omega)⟩, by omega⟩)
  rw [← hX2] at hC
  have HC := Lib.hid hC
  have HE := Lib.hid (And.intro hB (And.intro hlt (show AnAt W0 (w.heap.size + 4) 0 0 false none 0 0 none 0 0 none 0 0 from e4)))
  clear hC hB e0 e1 e2 e3 e4 hlt hX hX2 hz hs
  refine HC.out.mono ?_
  rintro e w2 ⟨k', m', v, rfl, hd, hm, hmv, A, n, c5, A2, n2, c2, A3, n3, c3, rfl, hr⟩
  have hr4 : w.heap.size + 4 < W0.heap.size := HE.out.2.2.lt
  have h4 : AnAt w2 (w.heap.size + 4) 0 0 false none 0 0 none 0 0 none 0 0 := box_mv hmv HE.out.2.2 HE.out.2.1 (by omega)
  have HD := Lib.hid (And.intro hd (And.intro hm (And.intro hmv hr)))
  have H4 := Lib.hid h4
  have HR4 := Lib.hid hr4
  obtain ⟨d0, d1, d2, d3, d4, d5, d6⟩ := h4.cells
  have g7 := h4.frozen
  clear hd hm hmv hr h4 hr4 HC
  generalize told X2 = Y at HD HR HOK ⊢
  obtain ⟨dq, ⟨e7, rev7, wh7, tx7, op7, se7⟩⟩ := Y
  simp only at HD
  unfold aval
  simp only
  rw [show w.heap.size + 4 = w.heap.size + 1 + 1 + 1 + 1 from rfl] at *
  go_wp2_with fail
  refine bodyPost_ret (results_an rfl (by rfl) (H4.out.sets _ _ _ A n c5 A2 n2 c2 A3 n3 c3)) rfl ?_
  rw [HR.out]
  exact DocR.p (DocR.end_ HE.out.2.1 HE.out.1 (by omega) HR4.out HD.out.1 HD.out.2.1 HD.out.2.2.1 HD.out.2.2.2 _ _ _ _ _ _ _) HOK.out
set_option maxHeartbeats 1000000 in
theorem edit_any (h : DocAt w D k d m) {x y : Int} (hx : 0 ≤ x ∧ x < 4294967296) (base : Nat) (hbase : base ≤ 18446744073709551615) (A0 : Option Addr) (n0 c0 : Nat) (row : List Un) (hu : Uns w w.heap.size A0 n0 c0 row) (hap : Apart (fun b => k b ≠ 0) A0 n0) (hn0 : n0 ≤ 1000) (now : Int) (h0 : 0 ≤ now) (hnow : now ≤ 1099511627776) (ht : d.t + 1 < 18446744073709551616) (hm : m + 256 ≤ 1073741824) :
    Calls Tryz.prog 16 #[.pointer (some ⟨D, 0, none⟩), .agg #[.int .u32 x, .int .u64 y], .int .u64 (base : Int), .slice A0 n0 c0, .int .u64 now] w (DocP w D k m (d.edit x y base row now)) := by
  obtain ⟨⟨pa, tx, ls, mk, h⟩, hok⟩ := h
  obtain ⟨X, hX⟩ : ∃ X, X = (d.touched now).editF x y base row now := ⟨_, rfl⟩
  obtain ⟨X2, hX2⟩ : ∃ X2, X2 = if Pl.liveM (d.touched now).L x now = true then X else (d.touched now, Pl.fails 36) := ⟨_, rfl⟩
  have hE : d.edit x y base row now = told X2 := by rw [hX2, hX]; exact at_edit (by omega) base row
  have hok2 := Pl.Dc.ok_edit hok (x := x) (y := y) (t := now) h0 (by omega) base row
  rw [hE] at hok2 ⊢
  obtain ⟨R, hR⟩ : ∃ R, R = DocP w D k m (told X2) := ⟨_, rfl⟩
  rw [← hR]
  have HR := Lib.hid hR
  have HH := Lib.hid h
  have HOK := Lib.hid hok2
  have HO := Lib.hid hok
  clear h hR hok2 hE hok
  go_enter Tryz.func16, Tryz.ntmps16
  go_wp2_with fail
  obtain ⟨os, hos⟩ : ∃ os : List Obj, os = [.cells #[.pointer (some ⟨D, 0, none⟩)] 23, .cells #[.int .u32 x, .int .u64 y] 43, .cells #[.int .u64 (base : Int)] 27, .cells #[.slice A0 n0 c0] 29, .cells #[.int .u64 now] 27, .cells #[.int .i64 0, .int .u32 0, .int .u64 0, .bool false, .slice none 0 0, .slice none 0 0, .slice none 0 0] 37] := ⟨_, rfl⟩
  have hW : allocs w os = ((((((w.alloc (.cells #[.pointer (some ⟨D, 0, none⟩)] 23)).alloc (.cells #[.int .u32 x, .int .u64 y] 43)).alloc (.cells #[.int .u64 (base : Int)] 27)).alloc (.cells #[.slice A0 n0 c0] 29)).alloc (.cells #[.int .u64 now] 27)).alloc (.cells #[.int .i64 0, .int .u32 0, .int .u64 0, .bool false, .slice none 0 0, .slice none 0 0, .slice none 0 0] 37)) := by rw [hos]; rfl
  rw [← hW]
  have hB := allocs_below os w
  have e0 := allocs_at os w 0 _ (by rw [hos]; rfl)
  have e1 := allocs_at os w 1 _ (by rw [hos]; rfl)
  have e2 := allocs_at os w 2 _ (by rw [hos]; rfl)
  have e3 := allocs_at os w 3 _ (by rw [hos]; rfl)
  have e4 := allocs_at os w 4 _ (by rw [hos]; rfl)
  have e5 := allocs_at os w 5 _ (by rw [hos]; rfl)
  clear hW hos
  generalize allocs w os = W0 at hB e0 e1 e2 e3 e4 e5 ⊢
  clear os
  have hlt := HH.out.lt
  have hz := fun b (hb : w.heap.size ≤ b) => box_zero k b hlt hb
  have hs := lt_of_block e5
  have hC := at_any (HH.out.then_ hB) now h0 hnow ht hx 73 #[.pointer (some ⟨w.heap.size + 1, 0, none⟩), .pointer (some ⟨w.heap.size + 1 + 1 + 1, 0, none⟩), .pointer (some ⟨w.heap.size, 0, none⟩), .pointer (some ⟨w.heap.size + 1 + 1, 0, none⟩), .pointer (some ⟨w.heap.size + 1 + 1 + 1 + 1, 0, none⟩)] X
    (fun args w => by simp [go_sem]) (fun he => by
      rw [hX] at he ⊢
      unfold Pl.Dc.editF at he ⊢
      by_cases h1 : (d.touched now).editE x y base row ≠ 0
      · rw [if_pos h1]; rfl
      · rw [if_neg h1] at he; exact absurd rfl he) (fun w1 al h1 h2 h3 h4 hl => by
      rw [hX]
      exact edit1_any h1 (Pl.Dc.ok_touched HO.out now) hx base hbase now h0 hnow hl h4 (hz al (Nat.le_trans hB.size h3)) hm A0 n0 c0 row (Rws.tn hu ((Mv.of k hB).trans h2).tn hap) hn0 _ _ _ _ _ (box_mv h2 e1 hlt (by omega)) (box_mv h2 e3 hlt (by omega)) (box_mv h2 e0 hlt (by omega)) (box_mv h2 e2 hlt (by omega)) (box_mv h2 e4 hlt (by omega)) ⟨⟨hz _ (by omega), hz _ (by omega), hz _ (by omega), hz _ (by omega), hz _ (by omega)⟩, by omega⟩)
  rw [← hX2] at hC
  have HC := Lib.hid hC
  have HE := Lib.hid (And.intro hB (And.intro hlt (show AnAt W0 (w.heap.size + 5) 0 0 false none 0 0 none 0 0 none 0 0 from e5)))
  clear hC hB e0 e1 e2 e3 e4 e5 hlt hX hX2 hz hs hu hap
  refine HC.out.mono ?_
  rintro e w2 ⟨k', m', v, rfl, hd, hm, hmv, A, n, c5, A2, n2, c2, A3, n3, c3, rfl, hr⟩
  have hr4 : w.heap.size + 5 < W0.heap.size := HE.out.2.2.lt
  have h4 : AnAt w2 (w.heap.size + 5) 0 0 false none 0 0 none 0 0 none 0 0 := box_mv hmv HE.out.2.2 HE.out.2.1 (by omega)
  have HD := Lib.hid (And.intro hd (And.intro hm (And.intro hmv hr)))
  have H4 := Lib.hid h4
  have HR4 := Lib.hid hr4
  obtain ⟨d0, d1, d2, d3, d4, d5, d6⟩ := h4.cells
  have g7 := h4.frozen
  clear hd hm hmv hr h4 hr4 HC
  generalize told X2 = Y at HD HR HOK ⊢
  obtain ⟨dq, ⟨e7, rev7, wh7, tx7, op7, se7⟩⟩ := Y
  simp only at HD
  unfold aval
  simp only
  rw [show w.heap.size + 5 = w.heap.size + 1 + 1 + 1 + 1 + 1 from rfl] at *
  go_wp2_with fail
  refine bodyPost_ret (results_an rfl (by rfl) (H4.out.sets _ _ _ A n c5 A2 n2 c2 A3 n3 c3)) rfl ?_
  rw [HR.out]
  exact DocR.p (DocR.end_ HE.out.2.1 HE.out.1 (by omega) HR4.out HD.out.1 HD.out.2.1 HD.out.2.2.1 HD.out.2.2.2 _ _ _ _ _ _ _) HOK.out
set_option maxHeartbeats 1000000 in
theorem undo_any (h : DocAt w D k d m) {x y : Int} (hx : 0 ≤ x ∧ x < 4294967296) (rev : Nat) (hrev : rev ≤ 18446744073709551615) (now : Int) (h0 : 0 ≤ now) (hnow : now ≤ 1099511627776) (ht : d.t + 1 < 18446744073709551616) (hm : m + 256 ≤ 1073741824) :
    Calls Tryz.prog 39 #[.pointer (some ⟨D, 0, none⟩), .agg #[.int .u32 x, .int .u64 y], .int .u64 (rev : Int), .int .u64 now] w (DocP w D k m (d.undo x y rev now)) := by
  obtain ⟨⟨pa, tx, ls, mk, h⟩, hok⟩ := h
  obtain ⟨X, hX⟩ : ∃ X, X = (d.touched now).undoF x y rev now := ⟨_, rfl⟩
  obtain ⟨X2, hX2⟩ : ∃ X2, X2 = if Pl.liveM (d.touched now).L x now = true then X else (d.touched now, Pl.fails 36) := ⟨_, rfl⟩
  have hE : d.undo x y rev now = told X2 := by rw [hX2, hX]; exact at_undo (by omega) rev
  have hok2 := Pl.Dc.ok_undo hok (x := x) (y := y) (t := now) h0 (by omega) rev
  rw [hE] at hok2 ⊢
  obtain ⟨R, hR⟩ : ∃ R, R = DocP w D k m (told X2) := ⟨_, rfl⟩
  rw [← hR]
  have HR := Lib.hid hR
  have HH := Lib.hid h
  have HOK := Lib.hid hok2
  have HO := Lib.hid hok
  clear h hR hok2 hE hok
  go_enter Tryz.func39, Tryz.ntmps39
  go_wp2_with fail
  obtain ⟨os, hos⟩ : ∃ os : List Obj, os = [.cells #[.pointer (some ⟨D, 0, none⟩)] 23, .cells #[.int .u32 x, .int .u64 y] 43, .cells #[.int .u64 (rev : Int)] 27, .cells #[.int .u64 now] 27, .cells #[.int .i64 0, .int .u32 0, .int .u64 0, .bool false, .slice none 0 0, .slice none 0 0, .slice none 0 0] 37] := ⟨_, rfl⟩
  have hW : allocs w os = (((((w.alloc (.cells #[.pointer (some ⟨D, 0, none⟩)] 23)).alloc (.cells #[.int .u32 x, .int .u64 y] 43)).alloc (.cells #[.int .u64 (rev : Int)] 27)).alloc (.cells #[.int .u64 now] 27)).alloc (.cells #[.int .i64 0, .int .u32 0, .int .u64 0, .bool false, .slice none 0 0, .slice none 0 0, .slice none 0 0] 37)) := by rw [hos]; rfl
  rw [← hW]
  have hB := allocs_below os w
  have e0 := allocs_at os w 0 _ (by rw [hos]; rfl)
  have e1 := allocs_at os w 1 _ (by rw [hos]; rfl)
  have e2 := allocs_at os w 2 _ (by rw [hos]; rfl)
  have e3 := allocs_at os w 3 _ (by rw [hos]; rfl)
  have e4 := allocs_at os w 4 _ (by rw [hos]; rfl)
  clear hW hos
  generalize allocs w os = W0 at hB e0 e1 e2 e3 e4 ⊢
  clear os
  have hlt := HH.out.lt
  have hz := fun b (hb : w.heap.size ≤ b) => box_zero k b hlt hb
  have hs := lt_of_block e4
  have hC := at_any (HH.out.then_ hB) now h0 hnow ht hx 109 #[.pointer (some ⟨w.heap.size + 1 + 1, 0, none⟩), .pointer (some ⟨w.heap.size, 0, none⟩), .pointer (some ⟨w.heap.size + 1, 0, none⟩), .pointer (some ⟨w.heap.size + 1 + 1 + 1, 0, none⟩)] X
    (fun args w => by simp [go_sem]) (fun he => by
      rw [hX] at he ⊢
      unfold Pl.Dc.undoF at he ⊢
      by_cases h1 : (d.touched now).undoE x y rev ≠ 0
      · rw [if_pos h1]; rfl
      · rw [if_neg h1] at he; exact absurd rfl he) (fun w1 al h1 h2 h3 h4 hl => by
      rw [hX]
      exact undo1_any h1 (Pl.Dc.ok_touched HO.out now) hx rev hrev now h0 hnow hl h4 (hz al (Nat.le_trans hB.size h3)) hm _ _ _ _ (box_mv h2 e2 hlt (by omega)) (box_mv h2 e0 hlt (by omega)) (box_mv h2 e1 hlt (by omega)) (box_mv h2 e3 hlt (by omega)) ⟨⟨hz _ (by omega), hz _ (by omega), hz _ (by omega), hz _ (by omega)⟩, by omega⟩)
  rw [← hX2] at hC
  have HC := Lib.hid hC
  have HE := Lib.hid (And.intro hB (And.intro hlt (show AnAt W0 (w.heap.size + 4) 0 0 false none 0 0 none 0 0 none 0 0 from e4)))
  clear hC hB e0 e1 e2 e3 e4 hlt hX hX2 hz hs
  refine HC.out.mono ?_
  rintro e w2 ⟨k', m', v, rfl, hd, hm, hmv, A, n, c5, A2, n2, c2, A3, n3, c3, rfl, hr⟩
  have hr4 : w.heap.size + 4 < W0.heap.size := HE.out.2.2.lt
  have h4 : AnAt w2 (w.heap.size + 4) 0 0 false none 0 0 none 0 0 none 0 0 := box_mv hmv HE.out.2.2 HE.out.2.1 (by omega)
  have HD := Lib.hid (And.intro hd (And.intro hm (And.intro hmv hr)))
  have H4 := Lib.hid h4
  have HR4 := Lib.hid hr4
  obtain ⟨d0, d1, d2, d3, d4, d5, d6⟩ := h4.cells
  have g7 := h4.frozen
  clear hd hm hmv hr h4 hr4 HC
  generalize told X2 = Y at HD HR HOK ⊢
  obtain ⟨dq, ⟨e7, rev7, wh7, tx7, op7, se7⟩⟩ := Y
  simp only at HD
  unfold aval
  simp only
  rw [show w.heap.size + 4 = w.heap.size + 1 + 1 + 1 + 1 from rfl] at *
  go_wp2_with fail
  refine bodyPost_ret (results_an rfl (by rfl) (H4.out.sets _ _ _ A n c5 A2 n2 c2 A3 n3 c3)) rfl ?_
  rw [HR.out]
  exact DocR.p (DocR.end_ HE.out.2.1 HE.out.1 (by omega) HR4.out HD.out.1 HD.out.2.1 HD.out.2.2.1 HD.out.2.2.2 _ _ _ _ _ _ _) HOK.out
end
end Go.Proofs.YtldmnkakpmplnaaGreat
namespace Go.Proofs.YtldmnkakpmplnaaGreat
open Go.RowKit
open Pl (Un)
set_option maxHeartbeats 400000 in
theorem new_past (w : World) :
    Calls Tryz.prog 46 #[.int .u64 0, .int .i64 0] w fun e w' => e = .returned (.tuple #[.pointer (some ⟨w.heap.size + 1, 0, none⟩), .int .i64 0]) ∧ PastAt w' (w.heap.size + 1) (fun b => b = w.heap.size) 0 0 [] ∧ Below w.heap.size w w' := by
  have hM : PastAt ((w.alloc (.cells #[.int .i64 0] 3)).alloc (.cells #[.int .u64 0, .slice none 0 0, .slice (some ⟨w.heap.size, 0, none⟩) 1 1] 176)) (w.heap.size + 1) (fun b => b = w.heap.size) 0 0 [] := by
    have h1 : OwnR encI 1 3 (w.alloc (.cells #[.int .i64 0] 3)) w.heap.size (.slice (some ⟨w.heap.size, 0, none⟩) 1 1) [0] := litI w [0] (by simp [maxLen])
    have h2 := (h1.alloc (.cells #[.int .u64 0, .slice none 0 0, .slice (some ⟨w.heap.size, 0, none⟩) 1 1] 176)).rws encI_len
    refine ⟨none, 0, 0, some ⟨w.heap.size, 0, none⟩, 1, 1, [], ?_, OpsF.none_ _ _, rfl, ?_, ?_, fun h => absurd h (Nat.succ_ne_self _), ⟨by simp, by simp, fun o ho => by cases ho⟩⟩
    · exact heap_new (by simp)
    · rw [Pl.lens_nil]; exact h2.2
    · intro _ ad e
      cases e
      rfl
  have HM := Lib.hid hM
  have z1 : decide ((0 : Int) > 1099511627776) = false := by decide
  clear hM
  go_enter Tryz.func46, Tryz.ntmps46
  go_wp2_with fail
  go_returns
  exact ⟨rfl, HM.out, below_alloc (below_box _ _) _⟩
noncomputable def newK (D p0 s0 s1 lp lb s2 : Nat) (F : Nat → Prop) : Nat → Nat := fun b =>
  if b = D then 1 else if b = p0 then 4 else if s0 ≤ b ∧ b < s1 then 2 else if b = lp then 5 else if b = lb then 6 else if b = s2 + 1 then 7 else if b = s2 then 8 else @ite _ (F b) (Classical.propDecidable _) 3 0
set_option maxHeartbeats 1000000 in
theorem newD_any (w : World) :
    Calls Tryz.prog 9 #[] w fun e w' => ∃ D k, e = .returned (.pointer (some ⟨D, 0, none⟩)) ∧ DocAt w' D k Pl.Dc.zero 0 ∧ (∀ b, k b ≠ 0 → w.heap.size ≤ b) ∧ Below w.heap.size w w' := by
  obtain ⟨R, hR⟩ : ∃ R : Ending → World → Prop, R = fun e w' => ∃ D k, e = .returned (.pointer (some ⟨D, 0, none⟩)) ∧ DocAt w' D k Pl.Dc.zero 0 ∧ (∀ b, k b ≠ 0 → w.heap.size ≤ b) ∧ Below w.heap.size w w' := ⟨_, rfl⟩
  rw [← hR]
  have HR := Lib.hid hR
  clear hR
  go_enter Tryz.func9, Tryz.ntmps9
  go_wp2_with fail
  refine (new_past w).mono ?_
  rintro e w1 ⟨rfl, hp1, hb1⟩
  have HP := Lib.hid (And.intro hp1 hb1)
  clear hp1 hb1
  go_wp2_with fail
  refine (Ls.new_any0 (w := w1) (A := none) (n := 0) (c := 0) (l := []) (Rws.none_ _ _ _) (by decide) (fun o ho => by cases ho)).mono ?_
  rintro e w2 ⟨hl, _, hb2⟩
  obtain ⟨lp, lb, rfl, hl1, hl2, hl3⟩ := hl rfl
  have HL := Lib.hid (And.intro hl1 (And.intro hl2 (And.intro hl3 hb2)))
  clear hl hl1 hl2 hl3 hb2
  go_wp2_with fail
  refine (newM_any 0 w2 ⟨by decide, by decide⟩).mono ?_
  rintro e w3 ⟨rfl, hm3, hb3⟩
  have HM := Lib.hid (And.intro hm3 hb3)
  clear hm3 hb3
  go_wp2_with fail
  refine (Tbl.new_any none 0 0 [] w3 (Crs.none_ _ _) (by decide)).mono ?_
  rintro e w4 ⟨tx, F, rfl, ht4, hF4, hb4⟩
  have HT := Lib.hid (And.intro ht4 (And.intro hF4 hb4))
  clear ht4 hF4 hb4
  go_wp2_with fail
  rw [HR.out]
  obtain ⟨hp, hb1⟩ := HP.out
  obtain ⟨hl1, hl2, hl3, hb2⟩ := HL.out
  obtain ⟨hm3, hb3⟩ := HM.out
  obtain ⟨ht4, hF4, hb4⟩ := HT.out
  have hb5 := below_box w4 (.cells #[.int .u64 0, .pointer (some ⟨w.heap.size + 1, 0, none⟩), .pointer (some ⟨tx, 0, none⟩), .pointer (some ⟨lp, 0, none⟩), .pointer (some ⟨w2.heap.size + 1, 0, none⟩)] 93)
  have s1 := hp.lt
  have s2 := hl3.lt
  have s2' := hl3.own.lt
  have s3 := hm3.lt
  have z1 := hb1.size
  have z2 := hb2.size
  have z3 := hb3.size
  have z4 := hb4.size
  have hne := hl3.ne
  have hFl := ht4.lt
  have k3 : ∀ b, F b → newK w4.heap.size (w.heap.size + 1) w.heap.size w1.heap.size lp lb w2.heap.size F b = 3 := fun b hb => by
    have h1 := hF4 b hb
    have h2 := hFl b hb
    unfold newK
    rw [if_neg (by omega), if_neg (by omega), if_neg (by omega), if_neg (by omega), if_neg (by omega), if_neg (by omega), if_neg (by omega), if_pos hb]
  have kk : ∀ b, newK w4.heap.size (w.heap.size + 1) w.heap.size w1.heap.size lp lb w2.heap.size F b ≠ 0 → w.heap.size ≤ b ∧ b < w4.heap.size + 1 := fun b hb => by
    unfold newK at hb
    split at hb
    · omega
    · split at hb
      · omega
      · split at hb
        · omega
        · split at hb
          · omega
          · split at hb
            · omega
            · split at hb
              · omega
              · split at hb
                · omega
                · by_cases hf : F b
                  · have := hF4 b hf; have := hFl b hf; omega
                  · rw [if_neg hf] at hb; exact absurd rfl hb
  have hsz : (w4.alloc (.cells #[.int .u64 0, .pointer (some ⟨w.heap.size + 1, 0, none⟩), .pointer (some ⟨tx, 0, none⟩), .pointer (some ⟨lp, 0, none⟩), .pointer (some ⟨w2.heap.size + 1, 0, none⟩)] 93)).heap.size = w4.heap.size + 1 := by simp
  refine ⟨w4.heap.size, newK w4.heap.size (w.heap.size + 1) w.heap.size w1.heap.size lp lb w2.heap.size F, rfl, ⟨⟨w.heap.size + 1, tx, lp, w2.heap.size + 1, ⟨heap_alloc_new w4 _, ?_, ?_, ?_, ?_, ?_, ?_, ?_, ?_, fun b hb => by rw [hsz]; exact (kk b hb).2⟩⟩, Pl.Dc.ok_zero⟩, fun b hb => (kk b hb).1, below_then (below_then (below_then (below_then hb1 hb2) hb3) hb4) hb5⟩
  · refine ((((hp.then_ hb2).then_ hb3).then_ hb4).then_ hb5).more (fun b hb => ?_) ?_
    · unfold newK
      rw [if_neg (by omega), if_neg (by omega), if_pos (by omega)]
    · unfold newK
      rw [if_neg (by omega), if_pos rfl]
      decide
  · exact ⟨_, (ht4.then_ hb5).wider (fun b hb => k3 b hb) (fun b hb => by rw [hsz]; exact (kk b (by rw [show newK w4.heap.size (w.heap.size + 1) w.heap.size w1.heap.size lp lb w2.heap.size F b = 3 from hb]; decide)).2), Tbl.Tp.fresh_text []⟩
  · refine ⟨lb, ((hl3.then_ hb3).then_ hb4).then_ hb5, ?_⟩
    unfold newK
    rw [if_neg (by omega), if_neg (by omega), if_neg (by omega), if_neg (by omega), if_pos rfl]
  · refine ⟨w2.heap.size, ((hm3.then_ hb4).then_ hb5), ?_⟩
    unfold newK
    rw [if_neg (by omega), if_neg (by omega), if_neg (by omega), if_neg (by omega), if_neg (by omega), if_neg (by omega), if_pos rfl]
  · unfold newK
    rw [if_pos rfl]
  · unfold newK
    rw [if_neg (by omega), if_pos rfl]
  · unfold newK
    rw [if_neg (by omega), if_neg (by omega), if_neg (by omega), if_pos rfl]
  · unfold newK
    rw [if_neg (by omega), if_neg (by omega), if_neg (by omega), if_neg (by omega), if_neg (by omega), if_pos rfl]
def AnK (w : World) (k : Nat → Nat) (al : Nat) (a : Pl.An) : Prop := ∃ A n c A2 n2 c2 A3 n3 c3, AnAt w al a.e (a.rev : Int) a.whole A n c A2 n2 c2 A3 n3 c3 ∧ AnR w (fun b => k b = 0) A n c A2 n2 c2 A3 n3 c3 a ∧ k al = 0
theorem AnK.mv {w w' : World} {k k' : Nat → Nat} {al : Nat} {a : Pl.An} (h : AnK w k al a) (hv : Mv k w k' w') : AnK w' k' al a := by
  obtain ⟨A, n, c, A2, n2, c2, A3, n3, c3, h1, h2, h3⟩ := h
  exact ⟨A, n, c, A2, n2, c2, A3, n3, c3, hv.old h1 h3, (h2.old.tn hv.tn (fun b hb hn => hn hb.1)).more fun b hb => (hv.eq b hb.2).trans hb.1, (hv.eq al h1.lt).trans h3⟩
theorem AnK.new {w0 w : World} {k : Nat → Nat} {A : Option Addr} {n c : Nat} {A2 : Option Addr} {n2 c2 : Nat} {A3 : Option Addr} {n3 c3 : Nat} {a : Pl.An} (hk : ∀ b, k b ≠ 0 → b < w.heap.size) (hr : AnR w (fun b => w0.heap.size ≤ b ∧ k b = 0) A n c A2 n2 c2 A3 n3 c3 a) :
    AnK (w.alloc (.cells #[.int .i64 a.e, .int .u32 0, .int .u64 (a.rev : Int), .bool a.whole, .slice A n c, .slice A2 n2 c2, .slice A3 n3 c3] 37)) k w.heap.size a :=
  ⟨A, n, c, A2, n2, c2, A3, n3, c3, heap_alloc_new w _, (hr.tn (Tn.of (fun _ => False) (below_box w _)) (fun _ _ h => h)).more fun b hb => hb.2, box_zero k _ hk (Nat.le_refl _)⟩
end Go.Proofs.YtldmnkakpmplnaaGreat
namespace Go.Proofs.YtldmnkakpmplnaaGreat
open Go.RowKit
open Pl (Un)
namespace Pl
namespace Dc
def aw1 : Dc × An := zero.open_ 1 0 5
def aw2 : Dc × An := aw1.1.edit 1 1 0 [⟨1, 0, 97, 1, 1⟩] 6
def aw3 : Dc × An := aw2.1.open_ 2 1 7
def aw4 : Dc × An := aw3.1.edit 2 1 0 [⟨1, 0, 98, 2, 1⟩] 8
def aw5 : Dc × An := aw4.1.undo 1 2 1 9
def aw6 : Dc × An := aw5.1.undo 2 2 1 9
def aw7 : Dc × An := aw6.1.edit 3 1 0 [] 9
theorem aw_t : aw1.1.t = 1 ∧ aw2.1.t = 2 ∧ aw3.1.t = 3 ∧ aw4.1.t = 4 ∧ aw5.1.t = 5 ∧ aw6.1.t = 6 ∧ aw7.1.t = 7 := by decide +kernel
theorem aw_1 : aw1.2.e = 0 ∧ aw1.2.whole = true ∧ aw1.2.rev = 0 := by decide +kernel
theorem aw_2 : aw2.2.e = 0 ∧ aw2.2.rev = 1 ∧ aw2.2.ops.length = 1 := by decide +kernel
theorem aw_3 : aw3.2.rev = 1 := by decide +kernel
theorem aw_4 : aw4.2.rev = 2 ∧ aw4.2.ops.length = 2 ∧ (aw4.2.ops.getD 1 default).l.length = 1 ∧ ((aw4.2.ops.getD 1 default).l.getD 0 default).p = 1 := by decide +kernel
theorem aw_5 : aw5.2.rev = 3 ∧ aw5.2.ops.length = 1 ∧ (aw5.2.ops.getD 0 default).l.length = 1 ∧ ((aw5.2.ops.getD 0 default).l.getD 0 default).k = 2 ∧ ((aw5.2.ops.getD 0 default).l.getD 0 default).p = 0 := by decide +kernel
theorem aw_6 : aw6.2.e = 33 := by decide +kernel
theorem aw_7 : aw7.2.e = 36 ∧ aw7.1.cs = [98] := by decide +kernel
end Dc
end Pl
end Go.Proofs.YtldmnkakpmplnaaGreat
