/-
  Contracts of piece's Delete, Read (with its closure), Text, Pieces. Conditions: the table is one, or none; the buffers have at most 2^30 code points.
-/
import Derived.Test.YtogmddneimhpeaaPceI
namespace Go.Proofs.Ytogmddneimhpeaa
open Go.RowKit
open Pl (Pc Plc Tab)

set_option maxRecDepth 100000 in
set_option maxHeartbeats 1000000 in
theorem del_no {w : World} {P : Option Addr} (h : NoTb w P) (pos n : Int) :
    Calls Try.prog 15 #[.pointer P, .int .i64 pos, .int .i64 n] w fun e w' => e = .returned (.int .i64 2) ∧ Below w.heap.size w w' := by
  obtain ⟨W, hW⟩ : ∃ W, W = ((w.alloc (.cells #[.pointer P] 25)).alloc (.cells #[.int .i64 pos] 3)).alloc (.cells #[.int .i64 n] 3) := ⟨_, rfl⟩
  have hb : Below w.heap.size w W := by rw [hW]; exact below_alloc (below_alloc (below_alloc (Below.refl _ w) _) _) _
  have hno : NoTb W P := by
    rcases h with h | ⟨p, a, c, d, e, h1⟩
    · exact Or.inl h
    · exact Or.inr ⟨p, a, c, d, e, below_old hb h1 (lt_of_block h1)⟩
  have HR := Lib.hid (reach_no pos n hno)
  have HW := Lib.hid (And.intro hW hb)
  clear h hno hW hb
  go_enter Try.func15, Try.ntmps15
  go_wp2_with fail
  rw [← HW.out.1]
  refine HR.out.mono ?_
  rintro e w' ⟨rfl, rfl⟩
  go_wp2_with fail
  go_ret
  exact ⟨rfl, HW.out.2⟩

set_option maxRecDepth 100000 in
set_option maxHeartbeats 1000000 in
theorem del_tb {w : World} {F : Nat → Prop} {p : Nat} {t : Tab} {m : Nat} (h : Tb w F p t m) (pos n : Int) (hpos : Pl.I pos) :
    Calls Try.prog 15 #[.pointer (some ⟨p, 0, none⟩), .int .i64 pos, .int .i64 n] w fun e w' => e = .returned (.int .i64 (Pl.reachE t.L.length pos n)) ∧ Did w F p (Pl.delT t pos n) m w' := by
  obtain ⟨W, hW⟩ : ∃ W, W = ((w.alloc (.cells #[.pointer (some ⟨p, 0, none⟩)] 25)).alloc (.cells #[.int .i64 pos] 3)).alloc (.cells #[.int .i64 n] 3) := ⟨_, rfl⟩
  have hb : Below w.heap.size w W := by rw [hW]; exact below_alloc (below_alloc (below_alloc (Below.refl _ w) _) _) _
  have k1 : W.heap[w.heap.size]? = some (.cells #[.pointer (some ⟨p, 0, none⟩)] 25 (0, 0)) := by rw [hW, Below.heap_alloc _ _ _ (by simp; omega), Below.heap_alloc _ _ _ (by simp)]; exact heap_alloc_new w _
  have k2 : W.heap[w.heap.size + 1]? = some (.cells #[.int .i64 pos] 3 (0, 0)) := by rw [hW, Below.heap_alloc _ _ _ (by simp)]; exact heap_new (by simp)
  have k3 : W.heap[w.heap.size + 2]? = some (.cells #[.int .i64 n] 3 (0, 0)) := by rw [hW]; exact heap_new (by simp)
  have hT := h.then_ hb
  have HR := Lib.hid (reach_tb hT pos n hpos)
  have HW := Lib.hid (And.intro hW (And.intro hb (And.intro k1 (And.intro k2 k3))))
  have HTB := Lib.hid h
  have HT := Lib.hid hT
  have hlen := h.ok.len
  have hm := h.le
  obtain ⟨R, hR⟩ : ∃ R, R = Pl.reachE t.L.length pos n := ⟨_, rfl⟩
  rw [← hR] at HR ⊢
  rcases Pl.reach_cases t.L.length pos n with h0 | h0
  · have hin : Pl.delT t pos n = t.del pos.toNat n.toNat := by unfold Pl.delT; rw [if_pos h0]
    rw [hin]
    have hr := Pl.reach_ok h0
    rw [← hR] at h0
    subst h0
    obtain ⟨k, rfl⟩ : ∃ k : Nat, pos = (k : Int) := ⟨pos.toNat, by omega⟩
    obtain ⟨n, rfl⟩ : ∃ k : Nat, n = (k : Int) := ⟨n.toNat, by omega⟩
    have HK := Lib.hid (show k + n ≤ t.L.length by omega)
    rw [Int.toNat_natCast, Int.toNat_natCast]
    clear hr hin hR hW hb k1 k2 k3 hT h hlen hpos
    by_cases hn0 : n = 0
    · subst hn0
      go_enter Try.func15, Try.ntmps15
      have HW2 := Lib.hid HW.out.1
      have g3 := cell0 HW.out.2.2.2.2
      go_wp2_with fail
      rw [← (show W = ((w.alloc (.cells #[.pointer (some ⟨p, 0, none⟩)] 25)).alloc (.cells #[.int .i64 (k : Int)] 3)).alloc (.cells #[.int .i64 0] 3) from HW2.out)]
      refine HR.out.mono ?_
      rintro e w2 ⟨rfl, hb2⟩
      have q3 := below_old hb2 HW.out.2.2.2.2 (lt_of_block HW.out.2.2.2.2)
      have d3 := cell0 q3
      have HD := Lib.hid (show Did w F p (t.del k 0) m w2 by
        rw [Pl.del_zero]
        exact Did.same HTB.out (below_then HW.out.2.1 hb2) (Nat.le_refl _) hm)
      clear hb2 q3 g3
      go_wp2_with fail
      go_ret
      exact ⟨rfl, HD.out⟩
    · have hn1 : ¬ ((n : Int) = 0) := by omega
      go_enter Try.func15, Try.ntmps15
      go_wp2_with fail
      rw [← HW.out.1]
      refine HR.out.mono ?_
      rintro e w2 ⟨rfl, hb2⟩
      have q1 := below_old hb2 HW.out.2.2.1 (lt_of_block HW.out.2.2.1)
      have q2 := below_old hb2 HW.out.2.2.2.1 (lt_of_block HW.out.2.2.2.1)
      have q3 := below_old hb2 HW.out.2.2.2.2 (lt_of_block HW.out.2.2.2.2)
      have d1 := cell0 q1
      have d3 := cell0 q3
      have HRN := Lib.hid (renew_del (HT.out.then_ hb2) HK.out q1 q2 q3)
      have HB2 := Lib.hid (below_then HW.out.2.1 hb2)
      clear hb2 q1 q2 q3 HR
      go_wp2_with fail
      refine HRN.out.mono ?_
      rintro e w5 ⟨rfl, hD5⟩
      have HD := Lib.hid (Did.after (Tn.of F HB2.out) (fun _ hb => Or.inl hb) (fun _ hb => hb) hD5)
      clear hD5 HRN
      go_wp2_with fail
      go_ret
      exact ⟨rfl, HD.out⟩
  · have hin : Pl.delT t pos n = t := by unfold Pl.delT; rw [if_neg (by rw [h0]; decide)]
    rw [hin]
    rw [← hR] at h0
    subst h0
    clear hin hR hW hb k1 k2 k3 hT h hlen hpos
    go_enter Try.func15, Try.ntmps15
    go_wp2_with fail
    rw [← HW.out.1]
    refine HR.out.mono ?_
    rintro e w2 ⟨rfl, hb2⟩
    have HD := Lib.hid (Did.same HTB.out (below_then HW.out.2.1 hb2) (Nat.le_refl m) hm)
    clear hb2
    go_wp2_with fail
    go_ret
    exact ⟨rfl, HD.out⟩

/-- what Read's closure has laid of acc, in the variable at block N -/
def JR (t : Tab) (base N : Nat) (G : Nat → Prop) (acc : List Pc) (w : World) : Prop :=
  ∃ A c, w.heap[N]? = some (.cells #[.slice A (acc.flatMap t.str).length c] 22 (0, 0)) ∧ OwnC w base (.slice A (acc.flatMap t.str).length c) (acc.flatMap t.str) ∧ (∀ g, Value.ownBlock (.slice A (acc.flatMap t.str).length c) = some g → G g ∧ g ≠ N) ∧ (G N ∧ ∀ b, G b → base ≤ b ∧ b < w.heap.size)
theorem jr_keeps (t : Tab) (base N : Nat) : Keeps base (JR t base N) := by
  refine ⟨fun G acc w1 w2 h hb => ?_, fun G acc w1 h => ?_⟩
  · obtain ⟨A, c, h1, h2, h3, h4⟩ := h
    exact ⟨A, c, below_old hb h1 (lt_of_block h1), h2.below hb (fun g hg => (h2.lt g hg).2), h3, h4.1, fun b hG => ⟨(h4.2 b hG).1, Nat.lt_of_lt_of_le (h4.2 b hG).2 hb.size⟩⟩
  · obtain ⟨A, c, h1, h2, h3, h4⟩ := h
    exact h4.2

theorem jr_append {t : Tab} {base N k n : Nat} {G : Nat → Prop} {acc2 : List Pc} {X Y : List Int} {w wS w4 : World} {A A4 : Option Addr} {c c4 : Nat} (hX : acc2.flatMap t.str = X ++ Y) (hk : X.length = k) (hn : Y.length = n) (hb : Below w.heap.size w wS)
    (h1 : wS.heap[N]? = some (.cells #[.slice A k c] 22 (0, 0))) (h3 : ∀ g, Value.ownBlock (.slice A k c) = some g → G g ∧ g ≠ N) (h4 : G N ∧ ∀ b, G b → base ≤ b ∧ b < w.heap.size) (hbase : base ≤ w.heap.size)
    (hO : OwnC w4 base (.slice A4 (k + n) c4) (X ++ Y)) (hg : wS.grownBy w4 (Value.ownBlock (.slice A k c)))
    (hat : Value.ownBlock (.slice A4 (k + n) c4) = Value.ownBlock (.slice A k c) ∨ Value.ownBlock (.slice A4 (k + n) c4) = some wS.heap.size) :
    Tn G w (w4.setCell ⟨N, 0, none⟩ (.slice A4 (k + n) c4)) ∧ ∃ G', JR t base N G' acc2 (w4.setCell ⟨N, 0, none⟩ (.slice A4 (k + n) c4)) ∧ ∀ b, G' b → G b ∨ w.heap.size ≤ b := by
  have hz := hb.size
  have hN := lt_of_block h1
  have p4 : w4.heap[N]? = some (.cells #[.slice A k c] 22 (0, 0)) := (hg.block N hN (fun e => (h3 N e.symm).2 rfl)).trans h1
  have hl : (acc2.flatMap t.str).length = k + n := by rw [hX, List.length_append, hk, hn]
  have hne : ∀ g, Value.ownBlock (.slice A4 (k + n) c4) = some g → (G g ∨ w.heap.size ≤ g) ∧ g ≠ N ∧ g < w4.heap.size := fun g e => by
    have hlt := (hO.lt g e).2
    rcases hat with h | h
    · rw [h] at e; exact ⟨Or.inl (h3 g e).1, (h3 g e).2, hlt⟩
    · rw [h] at e
      have e2 : wS.heap.size = g := Option.some.inj e
      exact ⟨Or.inr (by omega), by omega, hlt⟩
  have hT : Tn G w (w4.setCell ⟨N, 0, none⟩ (.slice A4 (k + n) c4)) := ((Tn.of G hb).grown hg (fun j e => Or.inr (h3 j e).1)).set_ (p := ⟨N, 0, none⟩) (Or.inr h4.1) _
  have pz : (w4.setCell ⟨N, 0, none⟩ (.slice A4 (k + n) c4)).heap[N]? = some (.cells #[.slice A4 (k + n) c4] 22 (0, 0)) := by rw [blk_set p4]; rfl
  have hfar : ∀ b, b ≠ N → (w4.setCell ⟨N, 0, none⟩ (.slice A4 (k + n) c4)).heap[b]? = w4.heap[b]? := fun b e => blk_keep _ e
  have hsz : (w4.setCell ⟨N, 0, none⟩ (.slice A4 (k + n) c4)).heap.size = w4.heap.size := by simp [World.setCell]
  have hg4 := hg.size
  revert hT pz hfar hsz
  generalize w4.setCell ⟨N, 0, none⟩ (.slice A4 (k + n) c4) = Z
  intro hT pz hfar hsz
  refine ⟨hT, fun b => (G b ∨ w.heap.size ≤ b) ∧ b < Z.heap.size, ⟨A4, c4, ?_, ?_, ?_, ⟨⟨Or.inl h4.1, lt_of_block pz⟩, fun b hb => ?_⟩⟩, fun b hb => hb.1⟩
  · rw [hl]; exact pz
  · rw [hl, hX]; exact hO.same fun g _ _ e => hfar g (hne g e).2.1
  · rw [hl]; exact fun g e => ⟨⟨(hne g e).1, by rw [hsz]; exact (hne g e).2.2⟩, (hne g e).2.1⟩
  · refine ⟨?_, hb.2⟩
    rcases hb.1 with h | h
    · exact (h4.2 b h).1
    · omega
set_option maxRecDepth 100000 in
set_option maxHeartbeats 1000000 in
theorem readClos {w : World} {F : Nat → Prop} {p : Nat} {t : Tab} {m : Nat} (h : Tb w F p t m) (base N bt : Nat) (G : Nat → Prop) (acc : List Pc) (x : Pc) (hJ : JR t base N G acc w) (hx : x.at_ + x.len ≤ (t.buf x.s).length) (hl : (acc.flatMap t.str).length + x.len ≤ 1073741824)
    (h1 : w.heap[bt]? = some (.cells #[.pointer (some ⟨p, 0, none⟩)] 25 (0, 0))) (hbt : bt < base) (hbase : base ≤ w.heap.size) :
    Calls Try.prog 49 #[aggP x, .pointer (some ⟨N, 0, none⟩), .pointer (some ⟨bt, 0, none⟩)] w (Left (JR t base N) G (acc ++ [x]) w) := by
  obtain ⟨A, c, j1, j2, j3, j4⟩ := hJ
  obtain ⟨X, hX⟩ : ∃ X, X = acc.flatMap t.str := ⟨_, rfl⟩
  have hstr : (t.str x).length = x.len := by unfold Tab.str; rw [List.length_take, List.length_drop]; omega
  have HAC := Lib.hid (show (acc ++ [x]).flatMap t.str = X ++ t.str x by rw [hX, List.flatMap_append]; simp)
  rw [← hX] at j1 j2 j3 hl
  obtain ⟨k, hk⟩ : ∃ k, k = X.length := ⟨_, rfl⟩
  rw [← hk] at j1 j2 j3 hl
  obtain ⟨W, hW⟩ : ∃ W, W = w.alloc (.cells #[.bool x.s, .int .i64 (x.at_ : Int), .int .i64 (x.len : Int)] 59) := ⟨_, rfl⟩
  have hb : Below w.heap.size w W := by rw [hW]; exact below_alloc (Below.refl _ w) _
  have hzW : W.heap.size = w.heap.size + 1 := by rw [hW]; simp
  have pb : W.heap[w.heap.size]? = some (.cells #[.bool x.s, .int .i64 (x.at_ : Int), .int .i64 (x.len : Int)] 59 (0, 0)) := by rw [hW]; exact heap_alloc_new w _
  have pn := below_old hb j1 (lt_of_block j1)
  have pt := below_old hb h1 (lt_of_block h1)
  have HS := Lib.hid (stretch_tb (h.then_ (hb.drew)) x hx)
  rw [aggP_eq] at HS
  have d0 := cell0 pb
  have d1 := cell1 pb
  have d2 := cell2 pb
  have n0 := cell0 pn
  have t0 := cell0 pt
  have HB := Lib.hid (And.intro hb (And.intro hzW (And.intro (lt_of_block j1) (And.intro hbt hbase))))
  have HJ := Lib.hid (And.intro pn (And.intro (j2.below hb (fun g hg => (j2.lt g hg).2)) (And.intro j3 j4)))
  have HW := Lib.hid hW
  have HKX := Lib.hid (And.intro hk hstr)
  clear hb hzW pb pn pt j1 j2 j3 j4 h1 h hx hW hX hk hstr hbt hbase
  rw [aggP_eq]
  go_enter Try.func49, Try.ntmps49
  go_wp2_with fail
  rw [← HW.out]
  have HOS := Lib.hid (fun wS (hbS : Below W.drew.heap.size W.drew wS) => show OwnC wS base (.slice A k c) X from OwnC.below HJ.out.2.1 (below_drew hbS) (fun g hg => (HJ.out.2.1.lt g hg).2))
  have HSZ := Lib.hid (fun wS (hbS : Below W.drew.heap.size W.drew wS) => show base ≤ wS.heap.size from Nat.le_trans HB.out.2.2.2.2 (Nat.le_trans HB.out.1.size hbS.size))
  have HNS := Lib.hid (fun wS (hbS : Below W.drew.heap.size W.drew wS) => below_old (below_drew hbS) HJ.out.1 (lt_of_block HJ.out.1))
  have HN4 := Lib.hid (fun wS w4 (hbS : Below W.drew.heap.size W.drew wS) (hg : wS.grownBy w4 (Value.ownBlock (.slice A k c))) => show w4.heap[N]? = _ from (hg.block N (lt_of_block (HNS.out wS hbS)) (fun e => (HJ.out.2.2.1 N e.symm).2 rfl)).trans (HNS.out wS hbS))
  go_region_law (first
    | (refine step_append_crs wS (by rfl) (.tmp 4) (.tmp 7) (by rfl) base A k c X (by rfl) (HOS.out wS hbS) _ A' x.len x.len (t.str x) (by rfl) hC (by omega) (HSZ.out wS hbS) ?_; intro A4 c4 w4 hO4 hg4 hat4; have p4 := HN4.out wS w4 hbS hg4; have f4 := frozen_of_row w4 N 0 _ _ p4; have r4 := cell0 p4)
    | (go_simp; go_at_call 50; refine HS.out.mono ?_; rintro e wS ⟨A', rfl, hC, hbS⟩; have s0 := cell0 (HNS.out wS hbS)))
  all_goals
    refine ⟨rfl, _, results_none (by kernel_rfl) _ _ _, rfl, ?_⟩
    exact jr_append HAC.out HKX.out.1.symm HKX.out.2 (HB.out.1.trans ((below_drew hbS).mono HB.out.1.size)) (HNS.out wS hbS) HJ.out.2.2.1 HJ.out.2.2.2 HB.out.2.2.2.2 hO4 hg4 hat4
theorem callRead (args : Array Value) (w : World) : (callFunc 49 args).run Try.prog w = .ok (.enter 49 args) w := by simp [go_sem]
theorem part_read {w : World} {F : Nat → Prop} {p : Nat} {t : Tab} {m : Nat} (h : Tb w F p t m) (k n : Nat) (hk : k + n ≤ t.L.length) (base N bt : Nat) (G0 : Nat → Prop)
    (hF : ∀ b, F b → b < base) (hbase : base ≤ w.heap.size) (hJ : JR t base N G0 [] w) (h1 : w.heap[bt]? = some (.cells #[.pointer (some ⟨p, 0, none⟩)] 25 (0, 0))) (hbt : bt < base) :
    Calls Try.prog 46 #[.pointer (some ⟨p, 0, none⟩), .int .i64 (k : Int), .int .i64 ((k + n : Nat) : Int), .func (.func 49) #[] #[.pointer (some ⟨N, 0, none⟩), .pointer (some ⟨bt, 0, none⟩)]] w (Left (JR t base N) G0 (Pl.clip (k : Int) ((k + n : Nat) : Int) (Pl.group t.L)) w) := by
  have hlen := h.ok.len
  have hm := h.le
  have := part_any h (k : Int) ((k + n : Nat) : Int) (by omega) (by omega) 49 #[.pointer (some ⟨N, 0, none⟩), .pointer (some ⟨bt, 0, none⟩)] base (JR t base N) G0 [] callRead hF hbase hJ (jr_keeps t base N) ?_
  · rwa [List.nil_append] at this
  · intro G acc2 x w1 hJ1 hb1 hx1 hx2 hl
    obtain ⟨r, hr⟩ := hl
    have htx := Pl.text_clip h.ok k n
    rw [hr, List.flatMap_append, List.flatMap_append] at htx
    have hle := congrArg List.length htx
    have hstr : (t.str x).length = x.len := by unfold Tab.str; rw [List.length_take, List.length_drop]; omega
    rw [List.length_append, List.length_append, List.length_take] at hle
    simp only [List.flatMap_cons, List.flatMap_nil, List.append_nil] at hle
    rw [hstr] at hle
    exact readClos (h.below hb1 hF) base N bt G acc2 x hJ1 hx2 (by omega) (below_old hb1 h1 hbt) hbt (Nat.le_trans hbase hb1.size)
end Go.Proofs.Ytogmddneimhpeaa
