/-
  The document's own Both, Past, Same. Conditions: rows of at most a thousand units.
-/
import Derived.Test.YtlnekhkdncccgaaWvL
import Derived.BigQuiet
namespace Go.Proofs.Ytlnekhkdncccgaa
open Go.RowKit
open Pl (Un)

/-- one unit of the region's own: made by operation 9, laid by operation 10 -/
def OnS (W0 : World) (t : Nat) (k p c x y : Int) (L : Nat → Bool) (a : Act) (w : World) : Prop :=
  t < a.tmps.size ∧ (L 9 = true → ∃ b, a.eval (.tmp t) = .pointer (some ⟨b, 0, none⟩) ∧ W0.heap.size ≤ b ∧ (L 10 = false → UAt w b 0 0 0 0 0) ∧ (L 10 = true → UAt w b k p c x y)) ∧ Below W0.heap.size W0 w ∧ (L 9 = false → L 10 = false)
section
variable {W0 w w' : World} {t m d b : Nat} {k p c x y : Int} {L : Nat → Bool} {a : Act} {v : Value}
theorem OnS.below (h : OnS W0 t k p c x y L a w) : Below W0.heap.size W0 w := h.2.2.1
theorem OnS.put (h : OnS W0 t k p c x y L a w) (hd : t ≠ d) (hm : m < 9) (hb : Below w.heap.size w w') : OnS W0 t k p c x y (Rv.up L m) (a.put (some d) v) w' := by
  obtain ⟨s, g, g4, g5⟩ := h
  refine ⟨by rw [Rv.put_len]; exact s, ?_, g4.trans (hb.mono g4.size), ?_⟩
  · rw [up_other (by omega), up_other (by omega), eval_other hd]
    intro hL
    obtain ⟨b, e, hge, hz, hl⟩ := g hL
    exact ⟨b, e, hge, fun h => (hz h).then_ hb, fun h => (hl h).then_ hb⟩
  · rw [up_other (by omega), up_other (by omega)]; exact g5
theorem OnS.new (h : OnS W0 t k p c x y L a w) (hL : L 9 = false) : OnS W0 t k p c x y (Rv.up L 9) (a.put (some t) (.pointer (some ⟨w.heap.size, 0, none⟩))) (w.alloc (.cells #[.int .i64 0, .int .i64 0, .int .i32 0, .int .u32 0, .int .u64 0] 42)) := by
  obtain ⟨s, g, g4, g5⟩ := h
  have h10 := g5 hL
  refine ⟨by rw [Rv.put_len]; exact s, fun _ => ⟨w.heap.size, eval_same s, g4.size, fun _ => uat_new w 0 0 0 0 0, fun h => ?_⟩, below_alloc g4 _, fun h => ?_⟩
  · rw [up_other (by omega), h10] at h; cases h
  · rw [up_same] at h; cases h
theorem OnS.laid (h : OnS W0 t k p c x y L a w) (hb : a.eval (.tmp t) = .pointer (some ⟨b, 0, none⟩)) (h9 : L 9 = true) (h10 : L 10 = false) :
    UAt w b 0 0 0 0 0 ∧ OnS W0 t k p c x y (Rv.up L 10) a (((((w.setCell ⟨b, 0, none⟩ (.int .i64 k)).setCell ⟨b, 1, none⟩ (.int .i64 p)).setCell ⟨b, 2, none⟩ (.int .i32 c)).setCell ⟨b, 3, none⟩ (.int .u32 x)).setCell ⟨b, 4, none⟩ (.int .u64 y)) := by
  obtain ⟨s, g, g4, g5⟩ := h
  obtain ⟨b', e, hge, hz, _⟩ := g h9
  rw [hb] at e
  injection e with e; injection e with e; injection e with e
  subst e
  refine ⟨hz h10, s, fun _ => ⟨b, hb, hge, fun h => ?_, fun _ => (hz h10).sets _ _ _ _ _⟩, below_sets g4 hge _ _ _ _ _, ?_⟩
  · rw [up_same] at h; cases h
  · rw [up_other (by omega), h9]; intro h; cases h
theorem OnS.half (h : OnS W0 t k p c x y L a w) (h9 : L 9 = true) : ∃ b, a.eval (.tmp t) = .pointer (some ⟨b, 0, none⟩) := by
  obtain ⟨b, e, _⟩ := h.2.1 h9
  exact ⟨b, e⟩
theorem OnS.begin (h1 : t < a.tmps.size) : OnS w t k p c x y (fun _ => false) a w.drew := ⟨h1, (fun h => by cases h), below_drawn (Below.refl _ _), fun _ => rfl⟩
theorem OnS.done (h : OnS W0 t k p c x y L a w) (h9 : L 9 = true) (h10 : L 10 = true) : ∃ b, a.eval (.tmp t) = .pointer (some ⟨b, 0, none⟩) ∧ W0.heap.size ≤ b ∧ UAt w b k p c x y ∧ Below W0.heap.size W0 w := by
  obtain ⟨b, e, hge, _, hl⟩ := h.2.1 h9
  exact ⟨b, e, hge, hl h10, h.2.2.1⟩
end
theorem mid_at (P R : List Un) (u : Un) {i : Nat} (h : P.length = i) : (P ++ u :: R).getD i default = u := by
  rw [List.getD_eq_getElem?_getD, List.getElem?_append_right (by omega), h, Nat.sub_self]; rfl
theorem mid_set (P R : List Un) (u v : Un) {i : Nat} (h : P.length = i) : (P ++ u :: R).set i v = P ++ v :: R := by
  rw [List.set_append_right _ _ (by omega), h, Nat.sub_self]; rfl
/-- between one unit of the first row and the next -/
def ReR (w : World) (la lb : List Un) (VX VY : Value) (i : Value) (wr : World) : Prop :=
  ∃ j : Nat, i = .int .i64 (j : Int) ∧ j ≤ la.length ∧ OwnU wr w.heap.size VX ((Pl.bothR (la.take j) lb).1 ++ la.drop j) ∧ OwnU wr w.heap.size VY (Pl.bothR (la.take j) lb).2 ∧ Below w.heap.size w wr
/-- between one unit of the second row and the next -/
def RiR (w : World) (P R B : List Un) (x : Un) (VX VY : Value) (i : Value) (wr : World) : Prop :=
  ∃ k : Nat, i = .int .i64 (k : Int) ∧ k ≤ B.length ∧ OwnU wr w.heap.size VX (P ++ (Pl.thru x (B.take k)).1 :: R) ∧ OwnU wr w.heap.size VY ((Pl.thru x (B.take k)).2 ++ B.drop k) ∧ Below w.heap.size w wr
theorem cell5 {w : World} {base g n c i : Nat} {l : List Un} (h : OwnU w base (.slice (some ⟨g, 0, none⟩) n c) l) (hi : i < n) : w.cell? ⟨g, i * 5, none⟩ = some (.int .i64 (l.getD i default).k) ∧ w.cell? ⟨g, i * 5 + 1, none⟩ = some (.int .i64 (l.getD i default).p) ∧ w.cell? ⟨g, i * 5 + 2, none⟩ = some (.int .i32 (l.getD i default).c) ∧
      w.cell? ⟨g, i * 5 + 3, none⟩ = some (.int .u32 (l.getD i default).x) ∧ w.cell? ⟨g, i * 5 + 4, none⟩ = some (.int .u64 (l.getD i default).y) := by
  obtain ⟨h0, h1, h2, h3, h4, _⟩ := OwnU.cells h hi
  exact ⟨h0, h1, h2, h3, h4⟩
set_option maxRecDepth 100000 in
set_option maxHeartbeats 4000000 in
theorem both6_any (w : World) (A : Option Addr) (n c : Nat) (la : List Un) (A' : Option Addr) (m c' : Nat) (lb : List Un) (hA : Uns w w.heap.size A n c la) (hB : Uns w w.heap.size A' m c' lb) (hn : n ≤ 1000) (hm : m ≤ 1000) :
    Calls Try.prog 60 #[.slice A n c, .slice A' m c'] w (RetB w la lb) := by
  have HCA := Lib.hid (ownU_any A n c la w hA hn)
  have HB0 := Lib.hid hB
  have HNL := Lib.hid hA.len
  have HML := Lib.hid hB.len
  clear hA hB
  go_enter Try.func60, Try.ntmps60
  go_wp2_with fail
  refine HCA.out.mono ?_
  rintro e w1 ⟨A1, c1, rfl, ho, hb⟩
  have HO1 := Lib.hid ho
  have HB1 := Lib.hid hb
  have HCB := Lib.hid (ownU_any A' m c' lb w1 (Rws.then_ HB0.out hb) hm)
  clear ho hb HCA HB0
  go_wp2_with fail
  refine HCB.out.mono ?_
  rintro e w2 ⟨A2, c2, rfl, ho, hb⟩
  have HNE := Lib.hid (show ∀ g, Value.ownBlock (.slice A1 la.length c1) = some g → Value.ownBlock (.slice A2 lb.length c2) ≠ some g from fun g h1 h2 => by
    have a1 := (HO1.out.lt g h1).2
    have a2 := (ho.lt g h2).1
    omega)
  have HR := Lib.hid (show ReR w la lb (.slice A1 la.length c1) (.slice A2 lb.length c2) (.int .i64 ((0 : Nat) : Int)) w2 from
    ⟨0, rfl, Nat.zero_le _, OwnR.then_ HO1.out hb, OwnR.lower ho HB1.out.size, below_then' HB1.out hb HB1.out.size⟩)
  obtain ⟨N, hN⟩ : ∃ N, N = la.length := ⟨_, rfl⟩
  obtain ⟨M, hM⟩ : ∃ M, M = lb.length := ⟨_, rfl⟩
  rw [← hN] at HNE HR ⊢
  rw [← hM] at HNE HR ⊢
  have HN := Lib.hid hN
  have HM := Lib.hid hM
  have hNb : N ≤ 1000 := by have := HNL.out; omega
  have hMb : M ≤ 1000 := by have := HML.out; omega
  clear ho hb HCB hN hM HO1 HB1
  go_wp2_with fail
  go_loopw [8] (fun i wr => ReR w la lb (.slice A1 N c1) (.slice A2 M c2) i wr) (fun i _ => N - (intOf i).toNat)
  case atStart => exact HR.out
  case round =>
    obtain ⟨j, rfl, hj, ho1, ho2, hb⟩ := hrel
    have HO1 := Lib.hid ho1
    have HO2 := Lib.hid ho2
    have HB := Lib.hid hb
    rw [← HN.out] at hj
    clear HR
    by_cases hlt : j < N
    · have hjl : j < la.length := by rw [← HN.out]; exact hlt
      have HPL := Lib.hid (show (Pl.bothR (la.take j) lb).1.length = j by rw [both_len1, List.length_take]; omega)
      have HBL := Lib.hid (show (Pl.bothR (la.take j) lb).2.length = M by rw [both_len2, ← HM.out])
      obtain ⟨x, hx⟩ : ∃ x, x = la.getD j default := ⟨_, rfl⟩
      have hd : la.drop j = x :: la.drop (j + 1) := by rw [hx, List.getD_eq_getElem?_getD, List.getElem?_eq_getElem hjl]; exact List.drop_eq_getElem_cons hjl
      have hbt := Pl.both_take la lb j x (by rw [hx]; exact getD_of_get hjl)
      have HNX1 := Lib.hid (show (Pl.bothR (la.take j) lb).1 ++ (Pl.thru x (Pl.bothR (la.take j) lb).2).1 :: la.drop (j + 1) = (Pl.bothR (la.take (j + 1)) lb).1 ++ la.drop (j + 1) by rw [hbt.1, List.append_assoc]; rfl)
      have HNX2 := Lib.hid hbt.2
      rw [hd] at ho1
      obtain ⟨P, hP⟩ : ∃ P, P = (Pl.bothR (la.take j) lb).1 := ⟨_, rfl⟩
      obtain ⟨B, hBB⟩ : ∃ B, B = (Pl.bothR (la.take j) lb).2 := ⟨_, rfl⟩
      obtain ⟨R, hRR⟩ : ∃ R, R = la.drop (j + 1) := ⟨_, rfl⟩
      rw [← hP, ← hRR] at ho1
      rw [← hBB] at ho2
      rw [← hP, ← hBB, ← hRR] at HNX1
      rw [← hBB] at HNX2 HBL
      rw [← hP] at HPL
      have HRI := Lib.hid (show RiR w P R B x (.slice A1 N c1) (.slice A2 M c2) (.int .i64 ((0 : Nat) : Int)) wr from ⟨0, rfl, Nat.zero_le _, ho1, by rw [List.drop_zero]; exact ho2, HB.out⟩)
      have z0 : (0 : Int) ≤ (j : Int) := Int.natCast_nonneg j
      have z1 : (j : Int) < (N : Int) := Int.ofNat_lt.2 hlt
      have HMS := Lib.hid (fi_meas hlt)
      have HJN := Lib.hid (show j + 1 ≤ la.length from hjl)
      obtain ⟨g, rfl, hbg, hgw⟩ := OwnR.pos_ ho1 (by omega)
      clear ho1 ho2 hb hx hd hbt hP hBB HO1 HO2 HB hjl
      have HRR := Lib.hid hRR
      clear hRR
      go_wp2_with fail
      go_loopw [9] (fun i wr => RiR w P R B x (.slice (some ⟨g, 0, none⟩) N c1) (.slice A2 M c2) i wr) (fun i _ => M - (intOf i).toNat)
      case atStart => exact HRI.out
      case round =>
        obtain ⟨k, rfl, hk, ho1, ho2, hb⟩ := hrel
        have HO1 := Lib.hid ho1
        have HO2 := Lib.hid ho2
        have HB := Lib.hid hb
        rw [HBL.out] at hk
        clear HRI
        by_cases hlk : k < M
        · have hkl : k < B.length := by rw [HBL.out]; exact hlk
          obtain ⟨g2, rfl, hbg2, hgw2⟩ := OwnR.pos_ ho2 (by omega)
          have HTL := Lib.hid (show (Pl.thru x (B.take k)).2.length = k by rw [thru_len, List.length_take]; omega)
          have hy2 := list_at (b := B) HTL.out k rfl
          obtain ⟨⟨ky, py, cy, xy, yy⟩, hy⟩ : ∃ y, y = B.getD k default := ⟨_, rfl⟩
          obtain ⟨⟨kx, px, cx, xx, yx⟩, hX⟩ : ∃ y, y = (Pl.thru x (B.take k)).1 := ⟨_, rfl⟩
          have htt := Pl.thru_take x B k _ (getD_of_get hkl)
          rw [← hy, ← hX] at htt
          rw [← hy] at hy2
          have HSX := Lib.hid (show ∀ v, (P ++ (Pl.thru x (B.take k)).1 :: R).set j v = P ++ v :: R from fun v => mid_set P R _ v HPL.out)
          have HSY := Lib.hid (show ∀ v, ((Pl.thru x (B.take k)).2 ++ B.drop k).set k v = ((Pl.thru x (B.take k)).2 ++ [v]) ++ B.drop (k + 1) from fun v => list_set HTL.out hkl v)
          have HGX := Lib.hid (show (P ++ (Pl.thru x (B.take k)).1 :: R).getD j default = ⟨kx, px, cx, xx, yx⟩ by rw [mid_at P R _ HPL.out, hX])
          have HGY := Lib.hid hy2
          obtain ⟨⟨ka, pa, ca, xa, ya⟩, ha⟩ : ∃ r, r = Pl.over ⟨kx, px, cx, xx, yx⟩ ⟨ky, py, cy, xy, yy⟩ := ⟨_, rfl⟩
          obtain ⟨⟨kb, pb, cb, xb, yb⟩, hbb⟩ : ∃ r, r = Pl.over ⟨ky, py, cy, xy, yy⟩ ⟨kx, px, cx, xx, yx⟩ := ⟨_, rfl⟩
          rw [← ha] at htt
          rw [← hbb] at htt
          have HT1 := Lib.hid htt.1
          have HT2 := Lib.hid htt.2
          have HO6 := fun w1 => Lib.hid (over6_any ⟨kx, px, cx, xx, yx⟩ ⟨ky, py, cy, xy, yy⟩ w1)
          have HO7 := fun w1 => Lib.hid (over6_any ⟨ky, py, cy, xy, yy⟩ ⟨kx, px, cx, xx, yx⟩ w1)
          rw [← ha] at HO6
          rw [← hbb] at HO7
          unfold uval at HO6 HO7
          simp only at HO6 HO7
          have HCX := Lib.hid (show ∀ w1, Below wr.heap.size wr w1 → w1.cell? ⟨g, j * 5, none⟩ = some (.int .i64 kx) ∧ w1.cell? ⟨g, j * 5 + 1, none⟩ = some (.int .i64 px) ∧ w1.cell? ⟨g, j * 5 + 2, none⟩ = some (.int .i32 cx) ∧ w1.cell? ⟨g, j * 5 + 3, none⟩ = some (.int .u32 xx) ∧ w1.cell? ⟨g, j * 5 + 4, none⟩ = some (.int .u64 yx) from fun w1 hb1 => by
            have := cell5 (OwnR.then_ HO1.out hb1) hlt
            rwa [HGX.out] at this)
          have HCY := Lib.hid (show ∀ w1, Below wr.heap.size wr w1 → w1.cell? ⟨g2, k * 5, none⟩ = some (.int .i64 ky) ∧ w1.cell? ⟨g2, k * 5 + 1, none⟩ = some (.int .i64 py) ∧ w1.cell? ⟨g2, k * 5 + 2, none⟩ = some (.int .i32 cy) ∧ w1.cell? ⟨g2, k * 5 + 3, none⟩ = some (.int .u32 xy) ∧ w1.cell? ⟨g2, k * 5 + 4, none⟩ = some (.int .u64 yy) from fun w1 hb1 => by
            have := cell5 (OwnR.then_ HO2.out hb1) hlk
            rwa [HGY.out] at this)
          have z2 : (0 : Int) ≤ (k : Int) := Int.natCast_nonneg k
          have z3 : (k : Int) < (M : Int) := Int.ofNat_lt.2 hlk
          have HMS2 := Lib.hid (fi_meas hlk)
          have HKN := Lib.hid (show k + 1 ≤ B.length from hkl)
          have HGG := Lib.hid (show g ≠ g2 from fun e => HNE.out g rfl (by rw [e]; rfl))
          clear ho1 ho2 hb hy2 hy hX htt ha hbb hkl
          go_wp2_with fail
          refine Rv.wp_region_inv (OnS wr 10 ka pa ca xa ya) PR0 (Rv.Wd.at [.is (.slice (some ⟨g, 0, none⟩) N c1), .is (.int .i64 (j : Int)), .is (.pointer (some ⟨g, j * 5, none⟩)), .is (.agg #[.int .i64 kx, .int .i64 px, .int .i32 cx, .int .u32 xx, .int .u64 yx]), .is (.slice (some ⟨g2, 0, none⟩) M c2), .is (.int .i64 (k : Int)), .is (.pointer (some ⟨g2, k * 5, none⟩)), .is (.agg #[.int .i64 ky, .int .i64 py, .int .i32 cy, .int .u32 xy, .int .u64 yy]), .is (.agg #[.int .i64 ka, .int .i64 pa, .int .i32 ca, .int .u32 xa, .int .u64 ya]), .any, .any]) (by kernel_rfl) (by kernel_rfl) (Rv.Wd.stays _ _ (fun i q hi => (by rcases i with _ | _ | _ | _ | _ | _ | _ | _ | _ | _ | _ | i <;> simp at hi))) (OnS.begin (by simp)) ⟨?_, ?_, ?_, ?_, ?_, ?_, ?_, ?_, ?_, ?_, ?_, trivial⟩ ?_
          · intro L a w1 hL hS hb hd
            have e6 := hb 6 (Rv.nw (by decide))
            simp [Act.eval] at e6
            exact Rv.does_pure (Rv.wanted_none rfl) (by simp [execOp, e6, go_sem]) rfl (hS.put (d := 28) (by decide) (by decide) (Below.refl _ _)) trivial
          · intro L a w1 hL hS hb hd
            have e8 := hb 8 (Rv.nw (by decide))
            simp [Act.eval] at e8
            exact Rv.does_pure (Rv.wanted_none rfl) (by simp [execOp, e8, go_sem]) rfl (hS.put (d := 29) (by decide) (by decide) (Below.refl _ _)) trivial
          · intro L a w1 hL hS hb hd
            have p1 := (hd ⟨0, .data⟩ (by simp) rfl).2 _ _ rfl rfl
            have e1 : a.tmps[28]?.getD undef = .slice (some ⟨g, 0, none⟩) N c1 := Rv.slot p1
            have p2 := (hd ⟨1, .data⟩ (by simp) rfl).2 _ _ rfl rfl
            have e2 : a.tmps[29]?.getD undef = .int .i64 (j : Int) := Rv.slot p2
            exact Rv.does_pure (Rv.wanted_none rfl) (by simp [execOp, e1, e2, z0, z1, go_sem]) rfl (hS.put (d := 30) (by decide) (by decide) (Below.refl _ _)) trivial
          · intro L a w1 hL hS hb hd
            have p1 := (hd ⟨2, .data⟩ (by simp) rfl).2 _ _ rfl rfl
            have e1 : a.tmps[30]?.getD undef = .pointer (some ⟨g, j * 5, none⟩) := Rv.slot p1
            obtain ⟨c0, c1, c2, c3, c4⟩ := HCX.out w1 hS.below
            exact Rv.does_pure (Rv.wanted_none rfl) (by simp [execOp, e1, c0, c1, c2, c3, c4, go_sem]) rfl (hS.put (d := 31) (by decide) (by decide) (Below.refl _ _)) trivial
          · intro L a w1 hL hS hb hd
            have e7 := hb 7 (Rv.nw (by decide))
            simp [Act.eval] at e7
            exact Rv.does_pure (Rv.wanted_none rfl) (by simp [execOp, e7, go_sem]) rfl (hS.put (d := 32) (by decide) (by decide) (Below.refl _ _)) trivial
          · intro L a w1 hL hS hb hd
            have e9 := hb 9 (Rv.nw (by decide))
            simp [Act.eval] at e9
            exact Rv.does_pure (Rv.wanted_none rfl) (by simp [execOp, e9, go_sem]) rfl (hS.put (d := 33) (by decide) (by decide) (Below.refl _ _)) trivial
          · intro L a w1 hL hS hb hd
            have p1 := (hd ⟨4, .data⟩ (by simp) rfl).2 _ _ rfl rfl
            have e1 : a.tmps[32]?.getD undef = .slice (some ⟨g2, 0, none⟩) M c2 := Rv.slot p1
            have p2 := (hd ⟨5, .data⟩ (by simp) rfl).2 _ _ rfl rfl
            have e2 : a.tmps[33]?.getD undef = .int .i64 (k : Int) := Rv.slot p2
            exact Rv.does_pure (Rv.wanted_none rfl) (by simp [execOp, e1, e2, z2, z3, go_sem]) rfl (hS.put (d := 34) (by decide) (by decide) (Below.refl _ _)) trivial
          · intro L a w1 hL hS hb hd
            have p1 := (hd ⟨6, .data⟩ (by simp) rfl).2 _ _ rfl rfl
            have e1 : a.tmps[34]?.getD undef = .pointer (some ⟨g2, k * 5, none⟩) := Rv.slot p1
            obtain ⟨c0, c1, c2, c3, c4⟩ := HCY.out w1 hS.below
            exact Rv.does_pure (Rv.wanted_none rfl) (by simp [execOp, e1, c0, c1, c2, c3, c4, go_sem]) rfl (hS.put (d := 35) (by decide) (by decide) (Below.refl _ _)) trivial
          · intro L a w1 hL hS hb hd
            have p1 := (hd ⟨3, .data⟩ (by simp) rfl).2 _ _ rfl rfl
            have e1 : a.tmps[31]?.getD undef = .agg #[.int .i64 kx, .int .i64 px, .int .i32 cx, .int .u32 xx, .int .u64 yx] := Rv.slot p1
            have p2 := (hd ⟨7, .data⟩ (by simp) rfl).2 _ _ rfl rfl
            have e2 : a.tmps[35]?.getD undef = .agg #[.int .i64 ky, .int .i64 py, .int .i32 cy, .int .u32 xy, .int .u64 yy] := Rv.slot p2
            refine Rv.does_call (f := 67) (args := #[.agg #[.int .i64 kx, .int .i64 px, .int .i32 cx, .int .u32 xx, .int .u64 yx], .agg #[.int .i64 ky, .int .i64 py, .int .i32 cy, .int .u32 xy, .int .u64 yy]]) (Rv.wanted_none rfl) (by simp [e1, e2, go_sem]) ((HO6 w1).out.mono ?_)
            rintro e w3 ⟨rfl, hb3⟩
            exact ⟨_, rfl, rfl, hS.put (d := 36) (by decide) (by decide) hb3, trivial⟩
          · intro L a w1 hL hS hb hd
            exact Rv.does_run (Rv.wanted_none rfl) (by simp [execOp, go_sem]) trivial (hS.new hL) trivial
          · intro L a w1 hL hS hb hd
            have p1 := (hd ⟨8, .data⟩ (by simp) rfl).2 _ _ rfl rfl
            have e1 : a.tmps[36]?.getD undef = .agg #[.int .i64 ka, .int .i64 pa, .int .i32 ca, .int .u32 xa, .int .u64 ya] := Rv.slot p1
            have q9 := (hd ⟨9, .data⟩ (by simp) rfl).1
            obtain ⟨b, eb⟩ := hS.half q9
            obtain ⟨hz, hn⟩ := hS.laid eb q9 hL
            obtain ⟨d0, d1, d2, d3, d4⟩ := hz.cells
            have f2 := fun j => hz.frozen j
            have e2 : a.tmps[10]?.getD undef = .pointer (some ⟨b, 0, none⟩) := Rv.slot eb
            exact Rv.does_skip rfl (Rv.wanted_none rfl) (by simp [execOp, e1, e2, go_sem, d0, d1, d2, d3, d4, f2]) trivial hn trivial
          · intro L v w5 hS hall hv
            obtain ⟨b1, hv1, hg1, hu1, hB5⟩ := hS.done (hall 9 (by decide)) (hall 10 (by decide))
            replace hv1 : v 9 = .pointer (some ⟨b1, 0, none⟩) := (hv 9 _ _ rfl rfl).2.symm.trans hv1
            simp only [Rv.putAll, Nat.zero_add, Nat.reduceAdd]
            simp only [Act.put, List.setIfInBounds_toArray, List.set_cons_succ, List.set_cons_zero]
            rw [hv1]
            clear hv1 hS hall hv
            have HB5 := Lib.hid hB5
            have HU1 := Lib.hid hu1
            clear hB5 hu1
            go_wp2_with fail
            have HCX5 := Lib.hid (show ∀ w1, Below w5.heap.size w5 w1 → w1.cell? ⟨g, j * 5, none⟩ = some (.int .i64 kx) ∧ w1.cell? ⟨g, j * 5 + 1, none⟩ = some (.int .i64 px) ∧ w1.cell? ⟨g, j * 5 + 2, none⟩ = some (.int .i32 cx) ∧ w1.cell? ⟨g, j * 5 + 3, none⟩ = some (.int .u32 xx) ∧ w1.cell? ⟨g, j * 5 + 4, none⟩ = some (.int .u64 yx) from fun w1 hb1 => HCX.out w1 (below_then' HB5.out hb1 HB5.out.size))
            have HCY5 := Lib.hid (show ∀ w1, Below w5.heap.size w5 w1 → w1.cell? ⟨g2, k * 5, none⟩ = some (.int .i64 ky) ∧ w1.cell? ⟨g2, k * 5 + 1, none⟩ = some (.int .i64 py) ∧ w1.cell? ⟨g2, k * 5 + 2, none⟩ = some (.int .i32 cy) ∧ w1.cell? ⟨g2, k * 5 + 3, none⟩ = some (.int .u32 xy) ∧ w1.cell? ⟨g2, k * 5 + 4, none⟩ = some (.int .u64 yy) from fun w1 hb1 => HCY.out w1 (below_then' HB5.out hb1 HB5.out.size))
            refine Rv.wp_region_inv (OnS w5 11 kb pb cb xb yb) PR0 (Rv.Wd.at [.is (.slice (some ⟨g2, 0, none⟩) M c2), .is (.int .i64 (k : Int)), .is (.pointer (some ⟨g2, k * 5, none⟩)), .is (.agg #[.int .i64 ky, .int .i64 py, .int .i32 cy, .int .u32 xy, .int .u64 yy]), .is (.slice (some ⟨g, 0, none⟩) N c1), .is (.int .i64 (j : Int)), .is (.pointer (some ⟨g, j * 5, none⟩)), .is (.agg #[.int .i64 kx, .int .i64 px, .int .i32 cx, .int .u32 xx, .int .u64 yx]), .is (.agg #[.int .i64 kb, .int .i64 pb, .int .i32 cb, .int .u32 xb, .int .u64 yb]), .any, .any]) (by kernel_rfl) (by kernel_rfl) (Rv.Wd.stays _ _ (fun i q hi => (by rcases i with _ | _ | _ | _ | _ | _ | _ | _ | _ | _ | _ | i <;> simp at hi))) (OnS.begin (by simp)) ⟨?_, ?_, ?_, ?_, ?_, ?_, ?_, ?_, ?_, ?_, ?_, trivial⟩ ?_
            · intro L a w1 hL hS hb hd
              have e7 := hb 7 (Rv.nw (by decide))
              simp [Act.eval] at e7
              exact Rv.does_pure (Rv.wanted_none rfl) (by simp [execOp, e7, go_sem]) rfl (hS.put (d := 37) (by decide) (by decide) (Below.refl _ _)) trivial
            · intro L a w1 hL hS hb hd
              have e9 := hb 9 (Rv.nw (by decide))
              simp [Act.eval] at e9
              exact Rv.does_pure (Rv.wanted_none rfl) (by simp [execOp, e9, go_sem]) rfl (hS.put (d := 38) (by decide) (by decide) (Below.refl _ _)) trivial
            · intro L a w1 hL hS hb hd
              have p1 := (hd ⟨0, .data⟩ (by simp) rfl).2 _ _ rfl rfl
              have e1 : a.tmps[37]?.getD undef = .slice (some ⟨g2, 0, none⟩) M c2 := Rv.slot p1
              have p2 := (hd ⟨1, .data⟩ (by simp) rfl).2 _ _ rfl rfl
              have e2 : a.tmps[38]?.getD undef = .int .i64 (k : Int) := Rv.slot p2
              exact Rv.does_pure (Rv.wanted_none rfl) (by simp [execOp, e1, e2, z2, z3, go_sem]) rfl (hS.put (d := 39) (by decide) (by decide) (Below.refl _ _)) trivial
            · intro L a w1 hL hS hb hd
              have p1 := (hd ⟨2, .data⟩ (by simp) rfl).2 _ _ rfl rfl
              have e1 : a.tmps[39]?.getD undef = .pointer (some ⟨g2, k * 5, none⟩) := Rv.slot p1
              obtain ⟨c0, c1, c2, c3, c4⟩ := HCY5.out w1 hS.below
              exact Rv.does_pure (Rv.wanted_none rfl) (by simp [execOp, e1, c0, c1, c2, c3, c4, go_sem]) rfl (hS.put (d := 40) (by decide) (by decide) (Below.refl _ _)) trivial
            · intro L a w1 hL hS hb hd
              have e6 := hb 6 (Rv.nw (by decide))
              simp [Act.eval] at e6
              exact Rv.does_pure (Rv.wanted_none rfl) (by simp [execOp, e6, go_sem]) rfl (hS.put (d := 41) (by decide) (by decide) (Below.refl _ _)) trivial
            · intro L a w1 hL hS hb hd
              have e8 := hb 8 (Rv.nw (by decide))
              simp [Act.eval] at e8
              exact Rv.does_pure (Rv.wanted_none rfl) (by simp [execOp, e8, go_sem]) rfl (hS.put (d := 42) (by decide) (by decide) (Below.refl _ _)) trivial
            · intro L a w1 hL hS hb hd
              have p1 := (hd ⟨4, .data⟩ (by simp) rfl).2 _ _ rfl rfl
              have e1 : a.tmps[41]?.getD undef = .slice (some ⟨g, 0, none⟩) N c1 := Rv.slot p1
              have p2 := (hd ⟨5, .data⟩ (by simp) rfl).2 _ _ rfl rfl
              have e2 : a.tmps[42]?.getD undef = .int .i64 (j : Int) := Rv.slot p2
              exact Rv.does_pure (Rv.wanted_none rfl) (by simp [execOp, e1, e2, z0, z1, go_sem]) rfl (hS.put (d := 43) (by decide) (by decide) (Below.refl _ _)) trivial
            · intro L a w1 hL hS hb hd
              have p1 := (hd ⟨6, .data⟩ (by simp) rfl).2 _ _ rfl rfl
              have e1 : a.tmps[43]?.getD undef = .pointer (some ⟨g, j * 5, none⟩) := Rv.slot p1
              obtain ⟨c0, c1, c2, c3, c4⟩ := HCX5.out w1 hS.below
              exact Rv.does_pure (Rv.wanted_none rfl) (by simp [execOp, e1, c0, c1, c2, c3, c4, go_sem]) rfl (hS.put (d := 44) (by decide) (by decide) (Below.refl _ _)) trivial
            · intro L a w1 hL hS hb hd
              have p1 := (hd ⟨3, .data⟩ (by simp) rfl).2 _ _ rfl rfl
              have e1 : a.tmps[40]?.getD undef = .agg #[.int .i64 ky, .int .i64 py, .int .i32 cy, .int .u32 xy, .int .u64 yy] := Rv.slot p1
              have p2 := (hd ⟨7, .data⟩ (by simp) rfl).2 _ _ rfl rfl
              have e2 : a.tmps[44]?.getD undef = .agg #[.int .i64 kx, .int .i64 px, .int .i32 cx, .int .u32 xx, .int .u64 yx] := Rv.slot p2
              refine Rv.does_call (f := 67) (args := #[.agg #[.int .i64 ky, .int .i64 py, .int .i32 cy, .int .u32 xy, .int .u64 yy], .agg #[.int .i64 kx, .int .i64 px, .int .i32 cx, .int .u32 xx, .int .u64 yx]]) (Rv.wanted_none rfl) (by simp [e1, e2, go_sem]) ((HO7 w1).out.mono ?_)
              rintro e w3 ⟨rfl, hb3⟩
              exact ⟨_, rfl, rfl, hS.put (d := 45) (by decide) (by decide) hb3, trivial⟩
            · intro L a w1 hL hS hb hd
              exact Rv.does_run (Rv.wanted_none rfl) (by simp [execOp, go_sem]) trivial (hS.new hL) trivial
            · intro L a w1 hL hS hb hd
              have p1 := (hd ⟨8, .data⟩ (by simp) rfl).2 _ _ rfl rfl
              have e1 : a.tmps[45]?.getD undef = .agg #[.int .i64 kb, .int .i64 pb, .int .i32 cb, .int .u32 xb, .int .u64 yb] := Rv.slot p1
              have q9 := (hd ⟨9, .data⟩ (by simp) rfl).1
              obtain ⟨b, eb⟩ := hS.half q9
              obtain ⟨hz, hn⟩ := hS.laid eb q9 hL
              obtain ⟨d0, d1, d2, d3, d4⟩ := hz.cells
              have f2 := fun j => hz.frozen j
              have e2 : a.tmps[11]?.getD undef = .pointer (some ⟨b, 0, none⟩) := Rv.slot eb
              exact Rv.does_skip rfl (Rv.wanted_none rfl) (by simp [execOp, e1, e2, go_sem, d0, d1, d2, d3, d4, f2]) trivial hn trivial
            · intro L v w6 hS hall hv
              obtain ⟨b2, hv1, hg2, hu2, hB6⟩ := hS.done (hall 9 (by decide)) (hall 10 (by decide))
              replace hv1 : v 9 = .pointer (some ⟨b2, 0, none⟩) := (hv 9 _ _ rfl rfl).2.symm.trans hv1
              simp only [Rv.putAll, Nat.zero_add, Nat.reduceAdd]
              simp only [Act.put, List.setIfInBounds_toArray, List.set_cons_succ, List.set_cons_zero]
              rw [hv1]
              clear hv1 hS hall hv
              have hb56 := below_then' HB5.out hB6 HB5.out.size
              have HX6 := Lib.hid (OwnR.then_ HO1.out hb56)
              have HY6 := Lib.hid (OwnR.then_ HO2.out hb56)
              have HB6 := Lib.hid (below_then' HB.out hb56 HB.out.size)
              have hgw3 := (HO1.out.lt g rfl).2
              have hn1 : b1 ≠ g := by omega
              have hn2 : b1 ≠ g2 := by omega
              have hs5 := HB5.out.size
              have hn3 : b2 ≠ g := by omega
              have hn4 : b2 ≠ g2 := by omega
              have hn5 := HGG.out
              have hn6 := hn1.symm
              have hn7 := hn2.symm
              have hn8 := hn3.symm
              have hn9 := hn4.symm
              have hn10 := hn5.symm
              obtain ⟨p0, p1, p2, p3, p4⟩ := (HU1.out.then_ hB6).cells
              obtain ⟨q0, q1, q2, q3, q4⟩ := hu2.cells
              obtain ⟨x0, x1, x2, x3, x4, fx⟩ := OwnU.cells HX6.out hlt
              obtain ⟨y0, y1, y2, y3, y4, fy⟩ := OwnU.cells HY6.out hlk
              clear hb56 hB6 hs5 hu2 hg1 hg2 hgw2 hgw3
              go_wp2_with fail
              have HX7 := Lib.hid (OwnU.sets HX6.out hlt ⟨ka, pa, ca, xa, ya⟩)
              rw [HSX.out] at HX7
              have HY7 := Lib.hid (OwnU.far (i := j * 5) HY6.out (fun k2 h2 e => HGG.out (by cases h2; exact e.symm)) (.int .i64 ka) (.int .i64 pa) (.int .i32 ca) (.int .u32 xa) (.int .u64 ya))
              have HX8 := Lib.hid (OwnU.far (i := k * 5) HX7.out (fun k2 h2 e => HGG.out (by cases h2; exact e)) (.int .i64 kb) (.int .i64 pb) (.int .i32 cb) (.int .u32 xb) (.int .u64 yb))
              have HY8 := Lib.hid (OwnU.sets HY7.out hlk ⟨kb, pb, cb, xb, yb⟩)
              rw [HSY.out] at HY8
              have HT8 := Lib.hid (tn_five (T := fun b => w.heap.size ≤ b) (g := g2) (i := k * 5) (tn_five (T := fun b => w.heap.size ≤ b) (g := g) (i := j * 5) (Tn.refl _ w6) (Or.inr hbg) (.int .i64 ka) (.int .i64 pa) (.int .i32 ca) (.int .u32 xa) (.int .u64 ya)) (Or.inr hbg2) (.int .i64 kb) (.int .i64 pb) (.int .i32 cb) (.int .u32 xb) (.int .u64 yb))
              go_roundw
              case rel =>
                refine ⟨k + 1, by go_num, HKN.out, ?_, ?_, ?_⟩
                · rw [HT1.out]; exact HX8.out
                · rw [HT2.out]; exact HY8.out
                · exact HT8.out.below HB6.out HB6.out.size (fun b hb => hb)
              case measure => simp [intOf]; exact HMS2.out
        · have hkm : k = B.length := by have := HBL.out; omega
          rw [hkm, List.take_length] at ho1 ho2
          rw [List.drop_length, List.append_nil, ← HNX2.out] at ho2
          rw [HNX1.out, HRR.out] at ho1
          have HO3 := Lib.hid ho1
          have HO4 := Lib.hid ho2
          clear ho1 ho2 hb HO1 HO2 hkm
          go_wp2_with fail
          go_roundw
          case rel => exact ⟨j + 1, by go_num, HJN.out, HO3.out, HO4.out, HB.out⟩
          case measure => simp [intOf]; exact HMS.out
    · have hjm : j = la.length := by have := HN.out; omega
      subst hjm
      rw [List.take_length, List.drop_length, List.append_nil] at ho1
      rw [List.take_length] at ho2
      have HR2 := Lib.hid (And.intro ho1 ho2)
      have hNN := HN.out
      have hMM := HM.out
      subst hNN hMM
      clear HO1 HO2 ho1 ho2 hb
      go_wp2_with fail
      try go_quiet (fail)
      try go_wp2_with fail
      go_returns
      exact ⟨A1, c1, A2, c2, rfl, HR2.out.1, HR2.out.2, HNE.out, ⟨HB.out.os, HB.out.tape, HB.out.output, HB.out.size, HB.out.block⟩⟩
end Go.Proofs.Ytlnekhkdncccgaa
