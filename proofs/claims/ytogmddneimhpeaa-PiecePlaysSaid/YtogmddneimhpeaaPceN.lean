/-
  Contracts of piece's Flatten and Copy. Conditions: the table is one, or none; the buffers have at most 2^30 code points.
-/
import Derived.Test.YtogmddneimhpeaaPceK
namespace Go.Proofs.Ytogmddneimhpeaa
open Go.RowKit
open Pl (Pc Plc Tab)

/-- a struct of four cells, stored -/
def put4 (w : World) (p : Nat) (v0 v1 v2 v3 : Value) : World := (((w.setCell ⟨p, 0, none⟩ v0).setCell ⟨p, 1, none⟩ v1).setCell ⟨p, 2, none⟩ v2).setCell ⟨p, 3, none⟩ v3
theorem put4_far {w : World} {p b : Nat} {v0 v1 v2 v3 : Value} (e : b ≠ p) : (put4 w p v0 v1 v2 v3).heap[b]? = w.heap[b]? := by
  unfold put4
  rw [blk_keep v3 e, blk_keep v2 e, blk_keep v1 e, blk_keep v0 e]
theorem put4_at {w : World} {p : Nat} {v0 v1 v2 v3 x0 x1 x2 x3 : Value} {t : TypeId} (h : w.heap[p]? = some (.cells #[x0, x1, x2, x3] t (0, 0))) : (put4 w p v0 v1 v2 v3).heap[p]? = some (.cells #[v0, v1, v2, v3] t (0, 0)) := by
  unfold put4
  rw [blk_set (blk_set (blk_set (blk_set h v0) v1) v2) v3]; rfl
theorem put4_tn {w0 w : World} {F : Nat → Prop} {p : Nat} (h : Tn F w0 w) (hp : F p) (v0 v1 v2 v3 : Value) : Tn F w0 (put4 w p v0 v1 v2 v3) := by
  have h1 := h.set_ (p := ⟨p, 0, none⟩) (Or.inr hp) v0
  have h2 := h1.set_ (p := ⟨p, 1, none⟩) (Or.inr hp) v1
  have h3 := h2.set_ (p := ⟨p, 2, none⟩) (Or.inr hp) v2
  exact h3.set_ (p := ⟨p, 3, none⟩) (Or.inr hp) v3
/-- what Flatten leaves, world by world -/
theorem flat_did {w w3 : World} {F F2 : Nat → Prop} {p p2 : Nat} {t t2 : Tab} {m m2 : Nat} (h : Tb w F p t m) (hb : Below w.heap.size w w3) (h2 : Tb w3 F2 p2 t2 m2) (hm : m2 ≤ m) (hF : ∀ b, F2 b → w.heap.size ≤ b) :
    ∃ B1 n1 d1 q2 x B3 n3 d3, w3.heap[p2]? = some (.cells #[.slice B1 n1 d1, .pointer (some ⟨q2, 0, none⟩), .int .i64 x, .slice B3 n3 d3] 81 (0, 0)) ∧ Did w F p t2 m (put4 w3 p (.slice B1 n1 d1) (.pointer (some ⟨q2, 0, none⟩)) (.int .i64 x) (.slice B3 n3 d3)) := by
  obtain ⟨hlt, _, hmm, hp, A1, c1, q, A2, c2, A3, c3, h1, _⟩ := h
  obtain ⟨klt, kok, kmm, kp, B1, d1, q2, B2, d2, B3, d3, k1, k2, k3, k4, k5, k6, k7, k8, k9, k10⟩ := h2
  refine ⟨_, _, _, _, _, _, _, _, k1, ?_⟩
  have lp := hlt p hp
  have hpz := put4_at (v0 := .slice B1 t2.fst.length d1) (v1 := .pointer (some ⟨q2, 0, none⟩)) (v2 := .int .i64 ((t2.snd.length : Nat) : Int)) (v3 := .slice B3 (Pl.group t2.L).length d3) (below_old hb h1 lp)
  have hfar : ∀ b, b ≠ p → (put4 w3 p (.slice B1 t2.fst.length d1) (.pointer (some ⟨q2, 0, none⟩)) (.int .i64 ((t2.snd.length : Nat) : Int)) (.slice B3 (Pl.group t2.L).length d3)).heap[b]? = w3.heap[b]? := fun b e => put4_far e
  have hT := put4_tn (Tn.of F hb) hp (.slice B1 t2.fst.length d1) (.pointer (some ⟨q2, 0, none⟩)) (.int .i64 ((t2.snd.length : Nat) : Int)) (.slice B3 (Pl.group t2.L).length d3)
  revert hpz hfar hT
  generalize put4 w3 p (.slice B1 t2.fst.length d1) (.pointer (some ⟨q2, 0, none⟩)) (.int .i64 ((t2.snd.length : Nat) : Int)) (.slice B3 (Pl.group t2.L).length d3) = Z
  intro hpz hfar hT
  have hne : ∀ b, F2 b → b ≠ p := fun b hb => by have := hF b hb; omega
  refine did_of (A1 := B1) (A2 := B2) (A3 := B3) (c1 := d1) (c2 := d2) (c3 := d3) (q := q2) hlt (kok.mono hm) hmm hp hT hpz ?_ ?_ ?_ ?_ (Or.inr (hF q2 k6)) ?_ ?_ ?_ ?_
  · exact (hfar q2 (hne q2 k6)).trans k2
  · exact k3.same fun g _ _ e => hfar g (hne g (k8 g e).1)
  · exact k4.same fun g _ _ e => hfar g (hne g (k9 g e).1)
  · exact OwnR.same k5 fun g _ _ e => hfar g (hne g (k10 g e).1)
  · exact fun e => hne q2 k6 e.symm
  · exact fun g e => ⟨Or.inr (hF g (k8 g e).1), hne g (k8 g e).1, (k8 g e).2.2.1, (k8 g e).2.2.2⟩
  · exact fun g e => ⟨Or.inr (hF g (k9 g e).1), hne g (k9 g e).1, (k9 g e).2.2⟩
  · exact fun g e => ⟨Or.inr (hF g (k10 g e).1), hne g (k10 g e).1, (k10 g e).2.2.1, (k10 g e).2.2.2⟩

set_option maxRecDepth 100000 in
set_option maxHeartbeats 400000 in
theorem flat_no {w : World} {P : Option Addr} (h : NoTb w P) : Calls Try.prog 20 #[.pointer P] w fun e w' => e = .returned (.tuple #[]) ∧ w = w' := by
  have HN := Lib.hid (none_no h)
  clear h
  go_enter Try.func20, Try.ntmps20
  go_wp2_with fail
  refine HN.out.mono ?_
  rintro e w' ⟨rfl, rfl⟩
  go_wp2_with fail
  exact ⟨rfl, _, results_none (by kernel_rfl) _ _ _, rfl, rfl⟩
set_option maxRecDepth 100000 in
set_option maxHeartbeats 1000000 in
theorem flat_tb {w : World} {F : Nat → Prop} {p : Nat} {t : Tab} {m : Nat} (h : Tb w F p t m) :
    Calls Try.prog 20 #[.pointer (some ⟨p, 0, none⟩)] w fun e w' => e = .returned (.tuple #[]) ∧ Did w F p (Pl.fresh t.text) m w' := by
  have HN := Lib.hid (none_tb h)
  have HT := Lib.hid (text_tb h)
  have hlen := h.ok.len
  have hm := h.le
  have htl := Pl.len_text t
  have HW := Lib.hid (fun w2 A c (hO : OwnC w2 w.heap.size (.slice A t.text.length c) t.text) (hb : Below w.heap.size w w2) => new_any A t.text.length c t.text w2 hO.crs.2 (by omega))
  have HD := Lib.hid (fun w3 F2 p2 (hb : Below w.heap.size w w3) (h2 : Tb w3 F2 p2 (Pl.fresh t.text) t.text.length) (hF : ∀ b, F2 b → w.heap.size ≤ b) => flat_did h hb h2 (by omega) hF)
  have HTB := Lib.hid h
  obtain ⟨X, hX⟩ : ∃ X, X = t.text := ⟨_, rfl⟩
  unfold RetC at HT
  rw [← hX] at HT HW HD ⊢
  obtain ⟨k, hk⟩ : ∃ k, k = X.length := ⟨_, rfl⟩
  rw [← hk] at HT HW HD
  clear h hlen hm htl hX hk
  go_enter Try.func20, Try.ntmps20
  go_wp2_with fail
  refine HN.out.mono ?_
  rintro e w' ⟨rfl, rfl⟩
  go_wp2_with fail
  refine HT.out.mono ?_
  rintro e w2 ⟨A, c, rfl, hO, hb⟩
  have HN2 := Lib.hid (HW.out w2 A c hO hb)
  have HB2 := Lib.hid hb
  clear hO hb HW HT
  go_wp2_with fail
  refine HN2.out.mono ?_
  rintro e w3 ⟨p2, F2, rfl, hT2, hF2, hb3⟩
  have hb03 := below_then HB2.out hb3
  obtain ⟨B1, n1, d1, q2, x, B3, n3, d3, hp2, hD⟩ := HD.out w3 F2 p2 hb03 hT2 (fun b hb => Nat.le_trans HB2.out.size (hF2 b hb))
  obtain ⟨hlt, _, _, hp, A1, c1, q, A2, c2, A3, c3, h1, _⟩ := HTB.out
  have hpz := below_old hb03 h1 (hlt p hp)
  have g0 := cell0 hp2
  have g1 := cell1 hp2
  have g2 := cell2 hp2
  have g3 := cell3 hp2
  have f0 := fun j => frozen_of_row w3 p j _ _ hpz
  have e0 := cell0 hpz
  have e1 := cell1 hpz
  have e2 := cell2 hpz
  have e3 := cell3 hpz
  have HDD := Lib.hid hD
  unfold put4 at HDD
  clear hb03 hT2 hF2 hb3 hp2 hD hlt hp h1 hpz HN2 HD
  go_wp2_with fail
  exact ⟨rfl, _, results_none (by kernel_rfl) _ _ _, rfl, HDD.out⟩

set_option maxRecDepth 100000 in
set_option maxHeartbeats 400000 in
theorem copy_no {w : World} {P : Option Addr} (h : NoTb w P) : Calls Try.prog 22 #[.pointer P] w fun e w' => e = .returned (.pointer none) ∧ w = w' := by
  have HN := Lib.hid (none_no h)
  clear h
  go_enter Try.func22, Try.ntmps22
  go_wp2_with fail
  refine HN.out.mono ?_
  rintro e w' ⟨rfl, rfl⟩
  go_wp2_with fail
  go_ret
  exact ⟨rfl, rfl⟩

/-- what Copy leaves, world by world -/
theorem copy_made {w w2 V w3 w4 : World} {t : Tab} {m n1 n2 n3 : Nat} {B1 B2 B3 : Option Addr} {d1 d2 d3 : Nat} (hn1 : n1 = t.fst.length) (hn2 : n2 = t.snd.length) (hn3 : n3 = (Pl.group t.L).length) (hok : t.Ok m) (hm : m ≤ 1073741824)
    (hb2 : Below w.heap.size w w2) (hO2 : OwnC w2 w.heap.size (.slice B2 n2 d2) t.snd) (hV : V = w2.alloc (.cells #[.slice B2 n2 d2] 79))
    (hO1 : OwnC w3 V.heap.size (.slice B1 n1 d1) t.fst) (hb31 : Below V.heap.size V w3) (hO3 : OwnP w4 w3.heap.size (.slice B3 n3 d3) (Pl.group t.L)) (hb43 : Below w3.heap.size w3 w4) :
    Made w t m (.returned (.pointer (some ⟨w4.heap.size, 0, none⟩))) (w4.alloc (.cells #[.slice B1 n1 d1, .pointer (some ⟨w2.heap.size, 0, none⟩), .int .i64 (n2 : Int), .slice B3 n3 d3] 81)) := by
  have z2 := hb2.size
  have zV : V.heap.size = w2.heap.size + 1 := by rw [hV]; simp
  have z3 := hb31.size
  have z4 := hb43.size
  obtain ⟨Z, hZ⟩ : ∃ Z, Z = w4.alloc (.cells #[.slice B1 n1 d1, .pointer (some ⟨w2.heap.size, 0, none⟩), .int .i64 (n2 : Int), .slice B3 n3 d3] 81) := ⟨_, rfl⟩
  have zZ : Z.heap.size = w4.heap.size + 1 := by rw [hZ]; simp
  have hbZ : Below w4.heap.size w4 Z := by rw [hZ]; exact below_alloc (Below.refl _ w4) _
  have pz : Z.heap[w4.heap.size]? = some (.cells #[.slice B1 n1 d1, .pointer (some ⟨w2.heap.size, 0, none⟩), .int .i64 (n2 : Int), .slice B3 n3 d3] 81 (0, 0)) := by rw [hZ]; exact heap_alloc_new w4 _
  have qV : V.heap[w2.heap.size]? = some (.cells #[.slice B2 n2 d2] 79 (0, 0)) := by rw [hV]; exact heap_alloc_new w2 _
  have hb34 : Below V.heap.size V w4 := hb31.trans (hb43.mono z3)
  have hbVZ : Below V.heap.size V Z := hb34.trans (hbZ.mono hb34.size)
  have hb2V : Below w2.heap.size w2 V := by rw [hV]; exact below_alloc (Below.refl _ w2) _
  have hb3Z : Below w3.heap.size w3 Z := hb43.trans (hbZ.mono z4)
  have hb2Z : Below w2.heap.size w2 Z := hb2V.trans (hbVZ.mono (by omega))
  have hbwZ : Below w.heap.size w Z := hb2.trans (hb2Z.mono z2)
  have l1 := hO1.lt
  have l2 := hO2.lt
  have l3 := OwnR.lt hO3
  rw [← hZ]
  subst hn1 hn2 hn3
  refine ⟨w4.heap.size, fun b => w.heap.size ≤ b ∧ b < Z.heap.size, rfl, ⟨fun b hb => hb.2, hok, hm, ⟨by omega, by omega⟩, B1, d1, w2.heap.size, B2, d2, B3, d3, pz, below_old hbVZ qV (by omega), ?_, ?_, ?_, ⟨z2, by omega⟩, by omega, fun g hg => ?_, fun g hg => ?_, fun g hg => ?_⟩, fun b hb => hb.1, hbwZ⟩
  · exact (hO1.below hb3Z (fun g hg => (l1 g hg).2)).lower (Nat.zero_le _)
  · exact (hO2.below hb2Z (fun g hg => (l2 g hg).2)).lower (Nat.zero_le _)
  · exact OwnR.lower (OwnR.below hO3 hbZ (fun g hg => (l3 g hg).2)) (Nat.zero_le _)
  · have h1 := l1 g hg
    exact ⟨⟨by omega, by omega⟩, by omega, by omega, fun e => by have h2 := l2 g e.symm; omega⟩
  · have h1 := l2 g hg
    exact ⟨⟨by omega, by omega⟩, by omega, by omega⟩
  · have h1 := l3 g hg
    exact ⟨⟨by omega, by omega⟩, by omega, by omega, fun e => by have h2 := l2 g e.symm; omega⟩

set_option maxRecDepth 100000 in
set_option maxHeartbeats 1000000 in
theorem copy_tb {w : World} {F : Nat → Prop} {p : Nat} {t : Tab} {m : Nat} (h : Tb w F p t m) : Calls Try.prog 22 #[.pointer (some ⟨p, 0, none⟩)] w (Made w t m) := by
  have HN := Lib.hid (none_tb h)
  have hlen := h.ok.len
  have hps := Pl.group_len t.L
  have hsz := h.ok.2.2
  obtain ⟨hl, ho, hm, hp, A1, c1, q, A2, c2, A3, c3, h1, h2, h3, h4, h5, h6, h7, h8, h9, h10⟩ := h
  have lp := hl p hp
  have lq := hl q h6
  have k1 := cell1 h1
  have k2 := cell2 h1
  have j0 := cell0 h2
  have hsl := slice_toC A2 t.snd.length c2 t.snd.length h4.crs.2.le
  have HC2 := Lib.hid (fun w2 (hb : Below w.heap.size w w2) => cloneC_any A2 t.snd.length c2 t.snd w2 (h4.crs.2.then_ hb) (by omega))
  have HC1 := Lib.hid (fun w2 (hb : Below w.heap.size w w2) => cloneC_any A1 t.fst.length c1 t.fst w2 (h3.crs.2.then_ hb) (by omega))
  have HC3 := Lib.hid (fun w2 (hb : Below w.heap.size w w2) => cloneP_any A3 (Pl.group t.L).length c3 (Pl.group t.L) w2 (Rws.then_ (OwnR.rws encP_len h5).2 hb) (by omega))
  have HH := Lib.hid (And.intro h1 (And.intro h2 (And.intro lp lq)))
  unfold RetC at HC2 HC1
  unfold RetP at HC3
  obtain ⟨n2, hn2⟩ : ∃ k, k = t.snd.length := ⟨_, rfl⟩
  obtain ⟨n1, hn1⟩ : ∃ k, k = t.fst.length := ⟨_, rfl⟩
  obtain ⟨n3, hn3⟩ : ∃ k, k = (Pl.group t.L).length := ⟨_, rfl⟩
  rw [← hn2] at k2 j0 hsl HC2 hsz HH
  rw [← hn1] at hsz HC1 HH
  rw [← hn3] at HC3 HH
  have hnb : n2 ≤ 1073741824 := by omega
  have HNN := Lib.hid (And.intro hn1 (And.intro hn2 (And.intro hn3 (And.intro ho hm))))
  clear h1 h2 h3 h4 h5 h6 h7 h8 h9 h10 hl ho hp hps hlen hn1 hn2 hn3
  go_enter Try.func22, Try.ntmps22
  go_wp2_with fail
  refine HN.out.mono ?_
  rintro e w' ⟨rfl, rfl⟩
  have HC2w := Lib.hid (HC2.out w.drew (Below.refl _ _).drew)
  go_wp2_with fail
  go_region_held3 (fun w' => w'.cell? ⟨p, 1, none⟩ = some (.pointer (some ⟨q, 0, none⟩)) ∧ w'.cell? ⟨p, 2, none⟩ = some (.int .i64 (n2 : Int)) ∧ w'.cell? ⟨q, 0, none⟩ = some (.slice A2 n2 c2))
    (first | go_keep | (go_split_ands; exact ⟨(hb2.cell (p := ⟨p, 1, none⟩) lp).trans k1, (hb2.cell (p := ⟨p, 2, none⟩) lp).trans k2, (hb2.cell (p := ⟨q, 0, none⟩) lq).trans j0⟩))
    (first | (go_at_call 30; refine HC2w.out.mono ?_; rintro e w2 ⟨B2, d2, rfl, hO2, hb2⟩))
  have hb2' := below_drew hb2
  obtain ⟨V, hV⟩ : ∃ V, V = w2.alloc (.cells #[.slice B2 n2 d2] 79) := ⟨_, rfl⟩
  have hbV : Below w.heap.size w V := by rw [hV]; exact below_alloc hb2' _
  have HV := Lib.hid (And.intro hV (And.intro hbV (And.intro hb2' hO2)))
  have HC1w := Lib.hid (fun w3 (hb : Below V.drew.heap.size V.drew w3) => (HC1.out w3 (below_then hbV (below_drew hb))).mono fun e w' ⟨A, c, h1, h2, h3⟩ => show ∃ A c, e = Ending.returned (.slice A n1 c) ∧ OwnC w' w3.heap.size (.slice A n1 c) t.fst ∧ Below w3.heap.size w3 w' ∧ Below V.drew.heap.size V.drew w' from ⟨A, c, h1, h2, h3, below_then hb h3⟩)
  have HC3w := Lib.hid (fun w3 (hb : Below V.drew.heap.size V.drew w3) => (HC3.out w3 (below_then hbV (below_drew hb))).mono fun e w' ⟨A, c, h1, h2, h3⟩ => show ∃ A c, e = Ending.returned (.slice A n3 c) ∧ OwnP w' w3.heap.size (.slice A n3 c) (Pl.group t.L) ∧ Below w3.heap.size w3 w' ∧ Below V.drew.heap.size V.drew w' from ⟨A, c, h1, h2, h3, below_then hb h3⟩)
  have zp := below_old hbV HH.out.1 lp
  have y0 := cell0 zp
  have y2 := cell2 zp
  have y3 := cell3 zp
  have zV : V.heap.size = w2.heap.size + 1 := by rw [hV]; simp
  have lpV : p < V.heap.size := Nat.lt_of_lt_of_le lp hbV.size
  clear k1 k2 j0 hsl hb2 hb2' hO2 hV hbV zp HC1 HC2 HC3 HC2w
  rw [← HV.out.1]
  go_wp2_with fail
  go_region_held3 (fun w' => w'.cell? ⟨p, 0, none⟩ = some (.slice A1 n1 c1) ∧ w'.cell? ⟨p, 2, none⟩ = some (.int .i64 (n2 : Int)) ∧ w'.cell? ⟨p, 3, none⟩ = some (.slice A3 n3 c3))
    (first | go_keep | (go_split_ands; exact ⟨(hbX.cell (p := ⟨p, 0, none⟩) lpV).trans y0, (hbX.cell (p := ⟨p, 2, none⟩) lpV).trans y2, (hbX.cell (p := ⟨p, 3, none⟩) lpV).trans y3⟩))
    (first
      | (go_at_call 30; refine (HC1w.out V.drew (Below.refl _ _)).mono ?_; rintro e w3 ⟨B1, d1, rfl, hO1, hb31, hbX⟩)
      | (go_at_call 30; refine (HC1w.out _ hbX).mono ?_; rintro e w3 ⟨B1, d1, rfl, hO1, hb31, hbX⟩)
      | (go_at_call 52; refine (HC3w.out V.drew (Below.refl _ _)).mono ?_; rintro e w4 ⟨B3, d3, rfl, hO3, hb43, hbX⟩)
      | (go_at_call 52; refine (HC3w.out _ hbX).mono ?_; rintro e w4 ⟨B3, d3, rfl, hO3, hb43, hbX⟩))
  all_goals
    have HD := Lib.hid (copy_made (w := w) HNN.out.1 HNN.out.2.1 HNN.out.2.2.1 HNN.out.2.2.2.1 HNN.out.2.2.2.2 HV.out.2.2.1 HV.out.2.2.2 HV.out.1 hO1 (below_drew hb31) hO3 hb43)
    clear hO1 hb31 hO3 hb43 hbX HC1w HC3w
    go_wp2_with fail
    go_ret
    exact HD.out
end Go.Proofs.Ytogmddneimhpeaa
