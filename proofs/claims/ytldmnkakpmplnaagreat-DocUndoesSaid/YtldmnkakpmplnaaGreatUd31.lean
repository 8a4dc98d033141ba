/-
  Contracts of piece: the closure that lays a piece behind others and joins it (renew$1); part, for any closure whose own contract is known; New. Conditions: the buffers have at most 2^30 code points.
-/
import Derived.Test.YtldmnkakpmplnaaGreatUd30
set_option maxRecDepth 100000
namespace Go.Proofs.YtldmnkakpmplnaaGreat.Tbl
open Go.RowKit
open Tp (Pc Plc Tab)
def JL (base N : Nat) (G : Nat → Prop) (out : List Pc) (w : World) : Prop :=
  ∃ A c, w.heap[N]? = some (.cells #[.slice A out.length c] 189 (0, 0)) ∧ OwnP w base (.slice A out.length c) out ∧ (∀ g, Value.ownBlock (.slice A out.length c) = some g → G g ∧ g ≠ N) ∧ (G N ∧ ∀ b, G b → base ≤ b ∧ b < w.heap.size) ∧
    ∀ x ∈ out, x.at_ + x.len ≤ 1073741824
theorem JL.grow {base N : Nat} {G : Nat → Prop} {out : List Pc} {w w' : World} (h : JL base N G out w) (hb : Below w.heap.size w w') : JL base N G out w' := by
  obtain ⟨A, c, h1, h2, h3, h4, h5⟩ := h
  exact ⟨A, c, below_old hb h1 (lt_of_block h1), OwnR.then_ h2 hb, h3, ⟨h4.1, fun b hG => ⟨(h4.2 b hG).1, Nat.lt_of_lt_of_le (h4.2 b hG).2 hb.size⟩⟩, h5⟩
theorem JL.lt {base N : Nat} {G : Nat → Prop} {out : List Pc} {w : World} (h : JL base N G out w) : ∀ b, G b → base ≤ b ∧ b < w.heap.size := by
  obtain ⟨A, c, h1, h2, h3, h4, h5⟩ := h
  exact h4.2
def More (G : Nat → Prop) (w w' : World) (b : Nat) : Prop := G b ∨ w.heap.size ≤ b ∧ b < w'.heap.size
theorem aggP_eq (p : Pc) : aggP p = .agg #[.bool p.s, .int .i64 (p.at_ : Int), .int .i64 (p.len : Int)] := rfl
theorem oneP_row (w : World) (p : Pc) : Rws encP (w.alloc (.cells #[.bool p.s, .int .i64 (p.at_ : Int), .int .i64 (p.len : Int)] 193)) (w.heap.size + 1) (some ⟨w.heap.size, 0, none⟩) 1 1 [p] := by
  have := (OwnR.rws encP_len (OwnR.lit (e := 193) encP_len w [p] (by simp [maxLen]))).2
  simpa [cellsR, encP] using this
theorem OwnP.cells {w : World} {base g n c : Nat} {ps : List Pc} (h : OwnP w base (.slice (some ⟨g, 0, none⟩) n c) ps) {i : Nat} (hi : i < n) :
    w.cell? ⟨g, i * 3, none⟩ = some (.bool (ps.getD i default).s) ∧ w.cell? ⟨g, i * 3 + 1, none⟩ = some (.int .i64 ((ps.getD i default).at_ : Int)) ∧ w.cell? ⟨g, i * 3 + 2, none⟩ = some (.int .i64 ((ps.getD i default).len : Int)) ∧ ∀ j, w.frozen? ⟨g, j, none⟩ = false := by
  obtain ⟨hn, _⟩ := OwnR.rws encP_len h
  have h' : w.ownsRow base 193 3 (.slice (some ⟨g, 0, none⟩) n c) n (cellsR encP ps) := by
    have h1 : w.ownsRow base 193 3 (.slice (some ⟨g, 0, none⟩) n c) ps.length (cellsR encP ps) := h
    rwa [← hn] at h1
  have hat := fun j (hj : j < 3) => (World.ownsRow.cellAt h' (i * 3 + j) (by omega)).trans (cellsR_at encP_len ps i j (by omega) hj)
  exact ⟨hat 0 (by decide), hat 1 (by decide), hat 2 (by decide), fun j => World.ownsRow.frozenAt h' j⟩
theorem lay_yes {out : List Pc} {p : Pc} {k : Nat} (hk : out.length = k + 1) (h : Tp.Fol (out.getD k default) p) : Tp.lay out p = out.set k ⟨(out.getD k default).s, (out.getD k default).at_, (out.getD k default).len + p.len⟩ := by
  unfold Tp.lay
  rw [show out.length - 1 = k by omega, if_pos ⟨by omega, h⟩]
theorem lay_no {out : List Pc} {p : Pc} {k : Nat} (hk : out.length = k + 1) (h : ¬ Tp.Fol (out.getD k default) p) : Tp.lay out p = out ++ [p] := by
  unfold Tp.lay
  rw [show out.length - 1 = k by omega, if_neg (fun h2 => h h2.2)]
theorem jl_append {base N : Nat} {G : Nat → Prop} {out : List Pc} {p : Pc} {w w2 w3 : World} {A A2 : Option Addr} {c c2 : Nat} (h1 : w2.heap[N]? = some (.cells #[.slice A out.length c] 189 (0, 0)))
    (h3 : ∀ g, Value.ownBlock (.slice A out.length c) = some g → G g ∧ g ≠ N) (h4 : G N ∧ ∀ b, G b → base ≤ b ∧ b < w.heap.size) (h5 : ∀ x ∈ out, x.at_ + x.len ≤ 1073741824) (hp : p.at_ + p.len ≤ 1073741824)
    (hV : OwnP w3 base (.slice A2 (out.length + 1) c2) (out ++ [p])) (hg : w2.grownBy w3 (Value.ownBlock (.slice A out.length c))) (hbase : base ≤ w.heap.size) (hw2 : w.heap.size ≤ w2.heap.size)
    (hat : Value.ownBlock (.slice A2 (out.length + 1) c2) = Value.ownBlock (.slice A out.length c) ∨ Value.ownBlock (.slice A2 (out.length + 1) c2) = some w2.heap.size) (hN : N < w2.heap.size) :
    JL base N (More G w (w3.setCell ⟨N, 0, none⟩ (.slice A2 (out.length + 1) c2))) (out ++ [p]) (w3.setCell ⟨N, 0, none⟩ (.slice A2 (out.length + 1) c2)) := by
  have p3 : w3.heap[N]? = some (.cells #[.slice A out.length c] 189 (0, 0)) := (hg.block N hN (fun e => (h3 N e.symm).2 rfl)).trans h1
  have hsz : (w3.setCell ⟨N, 0, none⟩ (.slice A2 (out.length + 1) c2)).heap.size = w3.heap.size := by simp [World.setCell]
  have hne : ∀ g, Value.ownBlock (.slice A2 (out.length + 1) c2) = some g → More G w (w3.setCell ⟨N, 0, none⟩ (.slice A2 (out.length + 1) c2)) g ∧ g ≠ N := fun g e => by
    have hlt := (OwnR.lt hV g e).2
    rcases hat with h | h
    · exact ⟨Or.inl (h3 g (h ▸ e)).1, (h3 g (h ▸ e)).2⟩
    · rw [h] at e
      cases e
      exact ⟨Or.inr ⟨hw2, by rw [hsz]; exact hlt⟩, by omega⟩
  have hl : (out ++ [p]).length = out.length + 1 := by simp
  refine ⟨A2, c2, ?_, ?_, ?_, ⟨Or.inl h4.1, fun b hG => ?_⟩, fun x hx => ?_⟩
  · rw [blk_set p3, hl]; rfl
  · rw [hl]
    exact OwnR.same hV fun g _ _ e => Below.heap_setCell _ _ _ _ (hne g e).2
  · rw [hl]; exact hne
  · have := hg.size
    rcases hG with hG | hG
    · have := h4.2 b hG
      rw [hsz]; omega
    · omega
  · rcases List.mem_append.1 hx with hx | hx
    · exact h5 x hx
    · simp at hx; rw [hx]; exact hp
set_option maxHeartbeats 1000000 in
theorem lay_any (base N : Nat) (G : Nat → Prop) (out : List Pc) (p : Pc) (w : World) (h : JL base N G out w) (hp : p.at_ + p.len ≤ 1073741824) (hout : out.length ≤ 8589934592) (hbase : base ≤ w.heap.size) :
    Calls Tryz.prog 252 #[aggP p, .pointer (some ⟨N, 0, none⟩)] w fun e w' => e = .returned (.tuple #[]) ∧ JL base N (More G w w') (Tp.lay out p) w' ∧ Tn G w w' := by
  obtain ⟨A, c, h1, h2, h3, h4, h5⟩ := h
  have hN := lt_of_block h1
  obtain ⟨W, hW⟩ : ∃ W, W = w.alloc (.cells #[.bool p.s, .int .i64 (p.at_ : Int), .int .i64 (p.len : Int)] 193) := ⟨_, rfl⟩
  have hsz : W.heap.size = w.heap.size + 1 := by rw [hW]; simp
  have hb : Below w.heap.size w W := by rw [hW]; exact (Below.refl _ w).alloc (Nat.le_refl _) _
  have p1 : W.heap[N]? = some (.cells #[.slice A out.length c] 189 (0, 0)) := below_old hb h1 hN
  have pb : W.heap[w.heap.size]? = some (.cells #[.bool p.s, .int .i64 (p.at_ : Int), .int .i64 (p.len : Int)] 193 (0, 0)) := by rw [hW]; exact heap_alloc_new w _
  have hO := OwnR.then_ h2 hb
  have q0 := cell0 p1
  rw [hW] at q0
  have b0 := cell0 pb
  have b1 := cell1 pb
  have b2 := cell2 pb
  have HK := Lib.hid (And.intro p1 (And.intro hO (And.intro h3 (And.intro h4 (And.intro h5 (And.intro hb (And.intro hsz (And.intro hN (And.intro hp hout)))))))))
  have HPB := Lib.hid pb
  -- what the last row leaves
  have HAP := Lib.hid (show ∀ w2, Below W.heap.size W w2 → ∀ A2 c2 w3, OwnP w3 base (.slice A2 (out.length + 1) c2) (out ++ [p]) → (w2.alloc (.cells #[.bool p.s, .int .i64 (p.at_ : Int), .int .i64 (p.len : Int)] 193)).grownBy w3 (Value.ownBlock (.slice A out.length c)) →
      (Value.ownBlock (.slice A2 (out.length + 1) c2) = Value.ownBlock (.slice A out.length c) ∨ Value.ownBlock (.slice A2 (out.length + 1) c2) = some (w2.heap.size + 1)) →
      JL base N (More G w (w3.setCell ⟨N, 0, none⟩ (.slice A2 (out.length + 1) c2))) (out ++ [p]) (w3.setCell ⟨N, 0, none⟩ (.slice A2 (out.length + 1) c2)) ∧ Tn G w (w3.setCell ⟨N, 0, none⟩ (.slice A2 (out.length + 1) c2)) from by
    intro w2 hb2 A2 c2 w3 hV hg hat
    obtain ⟨p1, hO, h3, h4, h5, hb, hsz, hN, hp, hout⟩ := HK.out
    have z2 := hb2.size
    have hb3 := hb2.alloc z2 (.cells #[.bool p.s, .int .i64 (p.at_ : Int), .int .i64 (p.len : Int)] 193)
    refine ⟨jl_append (below_old hb3 p1 (by omega)) h3 h4 h5 hp hV hg hbase (by simp; omega) (by simpa using hat) (by simp; omega), ?_⟩
    have hb4 : Below w.heap.size w (w2.alloc (.cells #[.bool p.s, .int .i64 (p.at_ : Int), .int .i64 (p.len : Int)] 193)) := hb.trans (hb3.mono (by omega))
    exact ((Tn.of G hb4).grown hg (fun k e => Or.inr (h3 k e).1)).set_ (p := ⟨N, 0, none⟩) (Or.inr h4.1) _)
  have hne : N ≠ w.heap.size := by omega
  have HW := Lib.hid hW
  have HBS := Lib.hid hbase
  clear h1 h2 h3 h4 h5 hN hb hsz p1 pb hO hp hW hbase
  rcases List.eq_nil_or_concat out with e | ⟨i, a, e⟩
  · subst e
    rw [Tp.lay_nil]
    simp only [List.length_nil] at q0
    rw [aggP_eq]
    go_enter Tryz.func252, Tryz.ntmps252
    go_wp2_with fail
    rw [← HW.out]
    clear q0
    refine Rg.wp_region_inv (fun w' => Below W.heap.size W w') (Rg.Wd.at [.is (.int .i64 (-1)), .is (.bool false), .is (.bool false), .any, .any, .any, .any, .any, .any, .is (.bool false)]) (by kernel_rfl) (by kernel_rfl) (Rg.Wd.stays _ _) ((Below.refl _ _).drew) ⟨?_, ?_, ?_, ?_, ?_, ?_, ?_, ?_, ?_, ?_, trivial⟩ ?_
    · intro a w1 hS hb hd
      have e3 := hb 3 (Rg.nw (by decide))
      simp [Act.eval] at e3
      exact Rg.does_pure (Rg.wanted_none rfl) (by simp [execOp, e3, go_sem]) hS rfl
    · intro a w1 hS hb hd
      have e7 := hd ⟨0, .data⟩ (by simp) rfl _ _ rfl rfl
      have e7 : a.tmps[7]?.getD undef = (.int .i64 (-1)) := Rg.slot e7
      exact Rg.does_pure (Rg.wanted_none rfl) (by simp [execOp, e7, go_sem]) hS rfl
    · intro a w1 hS hb hd
      have e8 := hd ⟨1, .data⟩ (by simp) rfl _ _ rfl rfl
      have e8 : a.tmps[8]?.getD undef = (.bool false) := Rg.slot e8
      exact Rg.does_pure (Rg.wanted_none rfl) (by simp [execOp, e8, go_sem]) hS rfl
    · intro a w1 hS hb hd
      have e9 := hd ⟨2, .guard⟩ (by simp) rfl _ _ rfl rfl
      exact Or.inr ⟨Rg.unwanted rfl rfl rfl e9, trivial⟩
    · intro a w1 hS hb hd
      have e9 := hd ⟨2, .guard⟩ (by simp) rfl _ _ rfl rfl
      exact Or.inr ⟨Rg.unwanted rfl rfl rfl e9, trivial⟩
    · intro a w1 hS hb hd
      have e9 := hd ⟨2, .guard⟩ (by simp) rfl _ _ rfl rfl
      exact Or.inr ⟨Rg.unwanted rfl rfl rfl e9, trivial⟩
    · intro a w1 hS hb hd
      have e9 := hd ⟨2, .guard⟩ (by simp) rfl _ _ rfl rfl
      exact Or.inr ⟨Rg.unwanted rfl rfl rfl e9, trivial⟩
    · intro a w1 hS hb hd
      have e9 := hd ⟨2, .guard⟩ (by simp) rfl _ _ rfl rfl
      exact Or.inr ⟨Rg.unwanted rfl rfl rfl e9, trivial⟩
    · intro a w1 hS hb hd
      have e9 := hd ⟨2, .guard⟩ (by simp) rfl _ _ rfl rfl
      exact Or.inr ⟨Rg.unwanted rfl rfl rfl e9, trivial⟩
    · intro a w1 hS hb hd
      have e9 := hd ⟨2, .data⟩ (by simp) rfl _ _ rfl rfl
      have e9 : a.tmps[9]?.getD undef = (.bool false) := Rg.slot e9
      exact Rg.does_pure (Rg.wanted_none rfl) (by simp [execOp, e9, go_sem]) hS rfl
    intro v w2 hS hF
    have h9 : v 9 = .bool false := hF 9 _ _ rfl rfl
    simp only [Rg.putAll, h9]
    simp only [Act.put, List.setIfInBounds_toArray, List.set_cons_succ, List.set_cons_zero]
    have q2 : w2.cell? ⟨N, 0, none⟩ = some (.slice A 0 c) := cell0 (below_old hS HK.out.1 (lt_of_block HK.out.1))
    have pb2 := below_old hS HPB.out (lt_of_block HPB.out)
    have c0 := cell0 pb2
    have c1 := cell1 pb2
    have c2' := cell2 pb2
    have HS := Lib.hid hS
    have hO := Lib.hid (show OwnR encP 3 193 (w2.alloc (.cells #[.bool p.s, .int .i64 (p.at_ : Int), .int .i64 (p.len : Int)] 193)) base (.slice A 0 c) [] from OwnR.alloc (OwnR.then_ HK.out.2.1 hS) _)
    have hR := Lib.hid (oneP_row w2 p)
    have HZ := Lib.hid (show base ≤ (w2.alloc (.cells #[.bool p.s, .int .i64 (p.at_ : Int), .int .i64 (p.len : Int)] 193)).heap.size by
      have h1 := hS.size; have h2 := HK.out; have h3 := HBS.out; simp; omega)
    clear hS hF h9 pb2 b0 b1 b2 hout hne
    go_wp2_with (at_builtin; refine wpList_append_rws encP_len encP_one Tryz.underlying189 infoPc (by decide) (by decide) (w2.alloc (.cells #[.bool p.s, .int .i64 (p.at_ : Int), .int .i64 (p.len : Int)] 193)) rfl (.tmp 27) (.tmp 29) rfl base A 0 c [] (by rfl) hO.out _ (some ⟨w2.heap.size, 0, none⟩) 1 1 [p] (by rfl) hR.out (by simp [maxLen]) (by omega) HZ.out ?_)
    intro A2 cc2 w3 hV hg hat
    obtain ⟨h1, h2⟩ := HAP.out w2 HS.out A2 cc2 w3 (by simpa using hV) hg (by simpa using hat)
    have H12 := Lib.hid (And.intro h1 h2)
    have p3 : w3.heap[N]? = some (.cells #[.slice A 0 c] 189 (0, 0)) :=
      (hg.block N (by have := HS.out.size; have := lt_of_block HK.out.1; simp; omega) (fun e => (HK.out.2.2.1 N e.symm).2 rfl)).trans ((Below.heap_alloc _ _ _ (by have := HS.out.size; have := lt_of_block HK.out.1; omega)).trans (below_old HS.out HK.out.1 (lt_of_block HK.out.1)))
    have q3 := cell0 p3
    have f3 := frozen_of_row w3 N 0 _ _ p3
    clear h1 h2 hV hg hat p3 q2 c0 c1 c2'
    go_wp2_with fail
    refine ⟨rfl, _, results_none (by kernel_rfl) _ _ _, rfl, ?_⟩
    exact H12.out
  · obtain ⟨k, hk⟩ : ∃ k, out.length = k + 1 := ⟨i.length, by rw [e]; simp⟩
    clear e i a
    obtain ⟨g, hA, hg0, hgW⟩ := OwnR.pos_ HK.out.2.1 (by omega)
    subst hA
    have hgN : g ≠ N := (HK.out.2.2.1 g rfl).2
    obtain ⟨a, ha⟩ : ∃ a, a = out.getD k default := ⟨_, rfl⟩
    obtain ⟨x0, x1, x2, hfz⟩ := OwnP.cells HK.out.2.1 (i := k) (by omega)
    rw [← ha] at x0 x1 x2
    have HLY := Lib.hid (And.intro (lay_yes (p := p) hk) (lay_no (p := p) hk))
    rw [← ha] at HLY
    have HA := Lib.hid (show a.at_ + a.len ≤ 1073741824 from HK.out.2.2.2.2.1 a (by
      rw [ha, List.getD_eq_getElem?_getD, List.getElem?_eq_getElem (by omega)]; exact List.getElem_mem _))
    have HAE := Lib.hid (show out[k]? = some a by rw [ha, List.getD_eq_getElem?_getD, List.getElem?_eq_getElem (by omega)]; rfl)
    rw [hk] at q0
    obtain ⟨d, hd⟩ : ∃ d, d = decide (Tp.Fol a p) := ⟨_, rfl⟩
    have HD := Lib.hid hd
    have HF := fun w1 : World => Lib.hid (follows_any a p w1 HA.out)
    rw [← hd] at HF
    have QN : ∀ w1, Below W.heap.size W w1 → w1.cell? ⟨N, 0, none⟩ = some (.slice (some ⟨g, 0, none⟩) (k + 1) c) := fun w1 hb => by rw [← hk]; exact cell0 (below_old hb HK.out.1 (lt_of_block HK.out.1))
    have QA0 : ∀ w1, Below W.heap.size W w1 → w1.cell? ⟨g, k * 3, none⟩ = some (.bool a.s) := fun w1 hb => (hb.cell (p := ⟨g, _, none⟩) hgW).trans x0
    have QA1 : ∀ w1, Below W.heap.size W w1 → w1.cell? ⟨g, k * 3 + 1, none⟩ = some (.int .i64 (a.at_ : Int)) := fun w1 hb => (hb.cell (p := ⟨g, _, none⟩) hgW).trans x1
    have QA2 : ∀ w1, Below W.heap.size W w1 → w1.cell? ⟨g, k * 3 + 2, none⟩ = some (.int .i64 (a.len : Int)) := fun w1 hb => (hb.cell (p := ⟨g, _, none⟩) hgW).trans x2
    have QFZ : ∀ w1, Below W.heap.size W w1 → ∀ j, w1.frozen? ⟨g, j, none⟩ = false := fun w1 hb j => (hb.frozen (p := ⟨g, _, none⟩) hgW).trans (hfz j)
    have QB0 : ∀ w1, Below W.heap.size W w1 → w1.cell? ⟨w.heap.size, 0, none⟩ = some (.bool p.s) := fun w1 hb => cell0 (below_old hb HPB.out (lt_of_block HPB.out))
    have QB1 : ∀ w1, Below W.heap.size W w1 → w1.cell? ⟨w.heap.size, 1, none⟩ = some (.int .i64 (p.at_ : Int)) := fun w1 hb => cell1 (below_old hb HPB.out (lt_of_block HPB.out))
    have QB2 : ∀ w1, Below W.heap.size W w1 → w1.cell? ⟨w.heap.size, 2, none⟩ = some (.int .i64 (p.len : Int)) := fun w1 hb => cell2 (below_old hb HPB.out (lt_of_block HPB.out))
    have HQ := Lib.hid (And.intro HF (And.intro QN (And.intro QA0 (And.intro QA1 (And.intro QA2 (And.intro QFZ (And.intro QB0 (And.intro QB1 QB2))))))))
    have hk62 : k ≤ 8589934592 := by omega
    clear HF QN QA0 QA1 QA2 QFZ QB0 QB1 QB2 x0 x1 x2 hfz hd b0 b1 b2 ha
    rw [aggP_eq]
    go_enter Tryz.func252, Tryz.ntmps252
    go_wp2_with fail
    rw [← HW.out]
    obtain ⟨HF, QN, QA0, QA1, QA2, QFZ, QB0, QB1, QB2⟩ := HQ.out
    obtain ⟨s, x, l⟩ := a
    simp only at HF QA0 QA1 QA2
    rw [aggP_eq, aggP_eq] at HF
    simp only at HF
    clear q0
    have QK : ¬ ((k : Int) + 1 ≤ (k : Int)) := by omega
    refine Rg.wp_region_inv (fun w' => Below W.heap.size W w') (Rg.Wd.at [.is (.int .i64 (k : Int)), .is (.bool true), .is (.bool true), .is (.slice (some ⟨g, 0, none⟩) (k + 1) c), .is (.int .i64 (k : Int)), .is (.pointer (some ⟨g, k * 3, none⟩)), .is (.agg #[.bool s, .int .i64 (x : Int), .int .i64 (l : Int)]), .is (.agg #[.bool p.s, .int .i64 (p.at_ : Int), .int .i64 (p.len : Int)]), .is (.bool d), .is (.bool d)]) (by kernel_rfl) (by kernel_rfl) (Rg.Wd.stays _ _) ((Below.refl _ _).drew) ⟨?_, ?_, ?_, ?_, ?_, ?_, ?_, ?_, ?_, ?_, trivial⟩ ?_
    · intro a w1 hS hb hd
      have e3 := hb 3 (Rg.nw (by decide))
      simp [Act.eval] at e3
      exact Rg.does_pure (Rg.wanted_none rfl) (by simp [execOp, e3, go_sem]) hS rfl
    · intro a w1 hS hb hd
      have e7 := hd ⟨0, .data⟩ (by simp) rfl _ _ rfl rfl
      have e7 : a.tmps[7]?.getD undef = (.int .i64 (k : Int)) := Rg.slot e7
      exact Rg.does_pure (Rg.wanted_none rfl) (by simp [execOp, e7, go_sem]) hS rfl
    · intro a w1 hS hb hd
      have e8 := hd ⟨1, .data⟩ (by simp) rfl _ _ rfl rfl
      have e8 : a.tmps[8]?.getD undef = (.bool true) := Rg.slot e8
      exact Rg.does_pure (Rg.wanted_none rfl) (by simp [execOp, e8, go_sem]) hS rfl
    · intro a w1 hS hb hd
      have e1 := hb 1 (Rg.nw (by decide))
      simp [Act.eval] at e1
      have e9 := hd ⟨2, .guard⟩ (by simp) rfl _ _ rfl rfl
      exact Rg.does_pure (Rg.wanted_some rfl rfl rfl e9) (by simp [execOp, e1, QN w1 hS, go_sem]) hS rfl
    · intro a w1 hS hb hd
      have e3 := hb 3 (Rg.nw (by decide))
      simp [Act.eval] at e3
      have e9 := hd ⟨2, .guard⟩ (by simp) rfl _ _ rfl rfl
      exact Rg.does_pure (Rg.wanted_some rfl rfl rfl e9) (by simp [execOp, e3, go_sem]) hS rfl
    · intro a w1 hS hb hd
      have e10 := hd ⟨3, .data⟩ (by simp) rfl _ _ rfl rfl
      have e10 : a.tmps[10]?.getD undef = (.slice (some ⟨g, 0, none⟩) (k + 1) c) := Rg.slot e10
      have e11 := hd ⟨4, .data⟩ (by simp) rfl _ _ rfl rfl
      have e11 : a.tmps[11]?.getD undef = (.int .i64 (k : Int)) := Rg.slot e11
      have e9 := hd ⟨2, .guard⟩ (by simp) rfl _ _ rfl rfl
      exact Rg.does_pure (Rg.wanted_some rfl rfl rfl e9) (by simp [execOp, e10, e11, QK, go_sem]) hS rfl
    · intro a w1 hS hb hd
      have e12 := hd ⟨5, .data⟩ (by simp) rfl _ _ rfl rfl
      have e12 : a.tmps[12]?.getD undef = (.pointer (some ⟨g, k * 3, none⟩)) := Rg.slot e12
      have e9 := hd ⟨2, .guard⟩ (by simp) rfl _ _ rfl rfl
      exact Rg.does_pure (Rg.wanted_some rfl rfl rfl e9) (by simp [execOp, e12, QA0 w1 hS, QA1 w1 hS, QA2 w1 hS, go_sem]) hS rfl
    · intro a w1 hS hb hd
      have e2 := hb 2 (Rg.nw (by decide))
      simp [Act.eval] at e2
      have e9 := hd ⟨2, .guard⟩ (by simp) rfl _ _ rfl rfl
      exact Rg.does_pure (Rg.wanted_some rfl rfl rfl e9) (by simp [execOp, e2, QB0 w1 hS, QB1 w1 hS, QB2 w1 hS, go_sem]) hS rfl
    · intro a w1 hS hb hd
      have e13 := hd ⟨6, .data⟩ (by simp) rfl _ _ rfl rfl
      have e13 : a.tmps[13]?.getD undef = (.agg #[.bool s, .int .i64 (x : Int), .int .i64 (l : Int)]) := Rg.slot e13
      have e14 := hd ⟨7, .data⟩ (by simp) rfl _ _ rfl rfl
      have e14 : a.tmps[14]?.getD undef = (.agg #[.bool p.s, .int .i64 (p.at_ : Int), .int .i64 (p.len : Int)]) := Rg.slot e14
      have e9 := hd ⟨2, .guard⟩ (by simp) rfl _ _ rfl rfl
      refine Rg.does_call (f := 253) (args := #[.agg #[.bool s, .int .i64 (x : Int), .int .i64 (l : Int)], .agg #[.bool p.s, .int .i64 (p.at_ : Int), .int .i64 (p.len : Int)]]) (Rg.wanted_some rfl rfl rfl e9) (by simp [e13, e14, go_sem]) ?_
      exact (HF w1).out.mono fun e w' ⟨h1, h2⟩ => ⟨_, h1, rfl, below_then hS h2, h2⟩
    · intro a w1 hS hb hd
      have e9 := hd ⟨2, .data⟩ (by simp) rfl _ _ rfl rfl
      have e9 : a.tmps[9]?.getD undef = (.bool true) := Rg.slot e9
      have e15 := hd ⟨8, .data⟩ (by simp) rfl _ _ rfl rfl
      have e15 : a.tmps[15]?.getD undef = (.bool d) := Rg.slot e15
      exact Rg.does_pure (Rg.wanted_none rfl) (by simp [execOp, e9, e15, go_sem]) hS rfl
    intro v w2 hS hF
    have h9 : v 9 = .bool d := hF 9 _ _ rfl rfl
    simp only [Rg.putAll, h9]
    simp only [Act.put, List.setIfInBounds_toArray, List.set_cons_succ, List.set_cons_zero]
    have q2 := QN w2 hS
    have c0 := QB0 w2 hS
    have c1 := QB1 w2 hS
    have c2' := QB2 w2 hS
    have a2 := QA2 w2 hS
    have f2 := QFZ w2 hS (k * 3 + 2)
    have HS := Lib.hid hS
    clear HF QN QA0 QA1 QA2 QFZ QB0 QB1 QB2 hF h9 QK hS
    cases d with
    | true =>
      have hFol : Tp.Fol ⟨s, x, l⟩ p := of_decide_eq_true HD.out.symm
      have HFol := Lib.hid hFol
      have hl : l + p.len ≤ 1073741824 := by have h1 := hFol.2; have h2 := HK.out.2.2.2.2.2.2.2.2.1; simp only at h1; omega
      clear hFol
      have z0 : (0 : Int) ≤ (k : Int) := by omega
      have z1 : (k : Int) < (k : Int) + 1 := by omega
      have zw : IntKind.i64.wrap ((l : Int) + (p.len : Int)) = (l : Int) + (p.len : Int) := by simp [IntKind.wrap, IntKind.bits, IntKind.signed]; omega
      go_wp2_with fail
      go_region
      refine ⟨rfl, _, results_none (by kernel_rfl) _ _ _, rfl, ?_⟩
      obtain ⟨p1, hO, h3, h4, h5, hb, hsz, hN, hp, hout⟩ := HK.out
      have hO2 := OwnR.then_ hO HS.out
      have hst := OwnR.set_ encP_len hO2 k 2 (.int .i64 ((l : Int) + (p.len : Int))) (by decide) ⟨s, x, l⟩ ⟨s, x, l + p.len⟩ HAE.out (by simp [encP])
      have hb2 : Below w.heap.size w w2 := hb.trans (HS.out.mono (by omega))
      have hzz : ((w2.setCell ⟨g, k * 3 + 2, none⟩ (.int .i64 ((l : Int) + (p.len : Int)))).drew).heap.size = w2.heap.size := by simp [World.setCell, World.drew]
      rw [HLY.out.1 HFol.out]
      refine ⟨⟨some ⟨g, 0, none⟩, c, ?_, ?_, ?_, ⟨Or.inl h4.1, fun b hG => ?_⟩, fun y hy => ?_⟩, ((Tn.of G hb2).set_ (p := ⟨g, k * 3 + 2, none⟩) (Or.inr (h3 g rfl).1) _).drew⟩
      · rw [List.length_set]
        exact (blk_keep (a := ⟨g, k * 3 + 2, none⟩) _ (fun e => hgN e.symm)).trans (below_old HS.out p1 (lt_of_block p1))
      · rw [List.length_set]; exact hst.1
      · rw [List.length_set]; exact fun g' e => ⟨Or.inl (h3 g' e).1, (h3 g' e).2⟩
      · have := hb2.size
        rcases hG with hG | hG
        · have := h4.2 b hG
          rw [hzz]; omega
        · omega
      · rcases List.mem_or_eq_of_mem_set hy with hy | rfl
        · exact h5 y hy
        · have h1 := HFol.out.2
          simp only at h1 ⊢
          omega
    | false =>
      have hFol : ¬ Tp.Fol ⟨s, x, l⟩ p := of_decide_eq_false HD.out.symm
      have HFol := Lib.hid hFol
      clear hFol a2 f2
      have hO := Lib.hid (show OwnR encP 3 193 (w2.alloc (.cells #[.bool p.s, .int .i64 (p.at_ : Int), .int .i64 (p.len : Int)] 193)) base (.slice (some ⟨g, 0, none⟩) (k + 1) c) out from OwnR.alloc (OwnR.then_ (by have := HK.out.2.1; rwa [hk] at this) HS.out) _)
      have hR := Lib.hid (oneP_row w2 p)
      have HZ := Lib.hid (show base ≤ (w2.alloc (.cells #[.bool p.s, .int .i64 (p.at_ : Int), .int .i64 (p.len : Int)] 193)).heap.size by
        have h1 := HS.out.size; have h2 := HK.out; have h3 := HBS.out; simp; omega)
      have HKK := Lib.hid hk
      clear hout hne hk
      go_wp2_with (at_builtin; refine wpList_append_rws encP_len encP_one Tryz.underlying189 infoPc (by decide) (by decide) (w2.alloc (.cells #[.bool p.s, .int .i64 (p.at_ : Int), .int .i64 (p.len : Int)] 193)) rfl (.tmp 27) (.tmp 29) rfl base (some ⟨g, 0, none⟩) (k + 1) c out (by rfl) hO.out _ (some ⟨w2.heap.size, 0, none⟩) 1 1 [p] (by rfl) hR.out (by unfold maxLen; omega) (by omega) HZ.out ?_)
      intro A2 cc2 w3 hV hg hat
      have hKO := HK.out
      rw [HKK.out] at hKO
      have hAP := HAP.out
      rw [HKK.out] at hAP
      obtain ⟨h1, h2⟩ := hAP w2 HS.out A2 cc2 w3 hV hg (by simpa using hat)
      rw [← (HLY.out.2 HFol.out)] at h1
      have H12 := Lib.hid (And.intro h1 h2)
      have p3 : w3.heap[N]? = some (.cells #[.slice (some ⟨g, 0, none⟩) (k + 1) c] 189 (0, 0)) :=
        (hg.block N (by have := HS.out.size; have := lt_of_block hKO.1; simp; omega) (fun e => (hKO.2.2.1 N e.symm).2 rfl)).trans ((Below.heap_alloc _ _ _ (by have := HS.out.size; have := lt_of_block hKO.1; omega)).trans (below_old HS.out hKO.1 (lt_of_block hKO.1)))
      have q3 := cell0 p3
      have f3 := frozen_of_row w3 N 0 _ _ p3
      clear h1 h2 hV hg hat p3 q2 c0 c1 c2' hKO hAP
      go_wp2_with fail
      refine ⟨rfl, _, results_none (by kernel_rfl) _ _ _, rfl, ?_⟩
      exact H12.out
end Go.Proofs.YtldmnkakpmplnaaGreat.Tbl
