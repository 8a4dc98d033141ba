/-
  Contracts of piece's Delete, Read (with its closure), Text, Pieces. Conditions: the table is one, or none; the buffers have at most 2^30 code points.
  Contracts of piece's Read, Text, Pieces, Flatten. Conditions: the table is one, or none; the buffers have at most 2^30 code points.
-/
import Derived.Test.YtldmnkakpmplnaaGreatUd34
set_option maxRecDepth 100000
namespace Go.Proofs.YtldmnkakpmplnaaGreat.Tbl
open Go.RowKit
open Tp (Pc Plc Tab)
set_option maxHeartbeats 1000000 in
theorem del_tb {w : World} {F : Nat → Prop} {p : Nat} {t : Tab} {m : Nat} (h : Tb w F p t m) (pos n : Int) (hpos : Tp.I pos) :
    Calls Tryz.prog 217 #[.pointer (some ⟨p, 0, none⟩), .int .i64 pos, .int .i64 n] w fun e w' => e = .returned (.int .i64 (Tp.reachE t.L.length pos n)) ∧ Did w F p (Tp.delT t pos n) m w' := by
  obtain ⟨W, hW⟩ : ∃ W, W = ((w.alloc (.cells #[.pointer (some ⟨p, 0, none⟩)] 89)).alloc (.cells #[.int .i64 pos] 3)).alloc (.cells #[.int .i64 n] 3) := ⟨_, rfl⟩
  have hb : Below w.heap.size w W := by rw [hW]; exact below_alloc (below_alloc (below_alloc (Below.refl _ w) _) _) _
  have k1 : W.heap[w.heap.size]? = some (.cells #[.pointer (some ⟨p, 0, none⟩)] 89 (0, 0)) := by rw [hW, Below.heap_alloc _ _ _ (by simp; omega), Below.heap_alloc _ _ _ (by simp)]; exact heap_alloc_new w _
  have k2 : W.heap[w.heap.size + 1]? = some (.cells #[.int .i64 pos] 3 (0, 0)) := by rw [hW, Below.heap_alloc _ _ _ (by simp)]; exact heap_new (by simp)
  have k3 : W.heap[w.heap.size + 2]? = some (.cells #[.int .i64 n] 3 (0, 0)) := by rw [hW]; exact heap_new (by simp)
  have hT := h.then_ hb
  have HR := Lib.hid (reach_tb hT pos n hpos)
  have HW := Lib.hid (And.intro hW (And.intro hb (And.intro k1 (And.intro k2 k3))))
  have HTB := Lib.hid h
  have HT := Lib.hid hT
  have hlen := h.ok.len
  have hm := h.le
  obtain ⟨R, hR⟩ : ∃ R, R = Tp.reachE t.L.length pos n := ⟨_, rfl⟩
  rw [← hR] at HR ⊢
  rcases Tp.reach_cases t.L.length pos n with h0 | h0
  · have hin : Tp.delT t pos n = t.del pos.toNat n.toNat := by unfold Tp.delT; rw [if_pos h0]
    rw [hin]
    have hr := Tp.reach_ok h0
    rw [← hR] at h0
    subst h0
    obtain ⟨k, rfl⟩ : ∃ k : Nat, pos = (k : Int) := ⟨pos.toNat, by omega⟩
    obtain ⟨n, rfl⟩ : ∃ k : Nat, n = (k : Int) := ⟨n.toNat, by omega⟩
    have HK := Lib.hid (show k + n ≤ t.L.length by omega)
    rw [Int.toNat_natCast, Int.toNat_natCast]
    clear hr hin hR hW hb k1 k2 k3 hT h hlen hpos
    by_cases hn0 : n = 0
    · subst hn0
      go_enter Tryz.func217, Tryz.ntmps217
      have HW2 := Lib.hid HW.out.1
      have g3 := cell0 HW.out.2.2.2.2
      go_wp2_with fail
      rw [← (show W = ((w.alloc (.cells #[.pointer (some ⟨p, 0, none⟩)] 89)).alloc (.cells #[.int .i64 (k : Int)] 3)).alloc (.cells #[.int .i64 0] 3) from HW2.out)]
      refine HR.out.mono ?_
      rintro e w2 ⟨rfl, hb2⟩
      have q3 := below_old hb2 HW.out.2.2.2.2 (lt_of_block HW.out.2.2.2.2)
      have d3 := cell0 q3
      have HD := Lib.hid (show Did w F p (t.del k 0) m w2 by
        rw [Tp.del_zero]
        exact Did.same HTB.out (below_then HW.out.2.1 hb2) (Nat.le_refl _) hm)
      clear hb2 q3 g3
      go_wp2_with fail
      go_ret
      exact ⟨rfl, HD.out⟩
    · have hn1 : ¬ ((n : Int) = 0) := by omega
      go_enter Tryz.func217, Tryz.ntmps217
      go_wp2_with fail
      rw [← HW.out.1]
      refine HR.out.mono ?_
      rintro e w2 ⟨rfl, hb2⟩
      have q1 := below_old hb2 HW.out.2.2.1 (lt_of_block HW.out.2.2.1)
      have q2 := below_old hb2 HW.out.2.2.2.1 (lt_of_block HW.out.2.2.2.1)
      have q3 := below_old hb2 HW.out.2.2.2.2 (lt_of_block HW.out.2.2.2.2)
      have d1 := cell0 q1
      have d3 := cell0 q3
      have HRN := Lib.hid (renew_del (HT.out.then_ hb2) HK.out q1 q2 q3)
      have HB2 := Lib.hid (below_then HW.out.2.1 hb2)
      clear hb2 q1 q2 q3 HR
      go_wp2_with fail
      refine HRN.out.mono ?_
      rintro e w5 ⟨rfl, hD5⟩
      have HD := Lib.hid (Did.after (Tn.of F HB2.out) (fun _ hb => Or.inl hb) (fun _ hb => hb) hD5)
      clear hD5 HRN
      go_wp2_with fail
      go_ret
      exact ⟨rfl, HD.out⟩
  · have hin : Tp.delT t pos n = t := by unfold Tp.delT; rw [if_neg (by rw [h0]; decide)]
    rw [hin]
    rw [← hR] at h0
    subst h0
    clear hin hR hW hb k1 k2 k3 hT h hlen hpos
    go_enter Tryz.func217, Tryz.ntmps217
    go_wp2_with fail
    rw [← HW.out.1]
    refine HR.out.mono ?_
    rintro e w2 ⟨rfl, hb2⟩
    have HD := Lib.hid (Did.same HTB.out (below_then HW.out.2.1 hb2) (Nat.le_refl m) hm)
    clear hb2
    go_wp2_with fail
    go_ret
    exact ⟨rfl, HD.out⟩
def JR (t : Tab) (base N : Nat) (G : Nat → Prop) (acc : List Pc) (w : World) : Prop :=
  ∃ A c, w.heap[N]? = some (.cells #[.slice A (acc.flatMap t.str).length c] 33 (0, 0)) ∧ OwnC w base (.slice A (acc.flatMap t.str).length c) (acc.flatMap t.str) ∧ (∀ g, Value.ownBlock (.slice A (acc.flatMap t.str).length c) = some g → G g ∧ g ≠ N) ∧ (G N ∧ ∀ b, G b → base ≤ b ∧ b < w.heap.size)
theorem jr_keeps (t : Tab) (base N : Nat) : Keeps base (JR t base N) := by
  refine ⟨fun G acc w1 w2 h hb => ?_, fun G acc w1 h => ?_⟩
  · obtain ⟨A, c, h1, h2, h3, h4⟩ := h
    exact ⟨A, c, below_old hb h1 (lt_of_block h1), h2.below hb (fun g hg => (h2.lt g hg).2), h3, h4.1, fun b hG => ⟨(h4.2 b hG).1, Nat.lt_of_lt_of_le (h4.2 b hG).2 hb.size⟩⟩
  · obtain ⟨A, c, h1, h2, h3, h4⟩ := h
    exact h4.2
theorem jr_append {t : Tab} {base N k n : Nat} {G : Nat → Prop} {acc2 : List Pc} {X Y : List Int} {w wS w4 : World} {A A4 : Option Addr} {c c4 : Nat} (hX : acc2.flatMap t.str = X ++ Y) (hk : X.length = k) (hn : Y.length = n) (hb : Below w.heap.size w wS)
    (h1 : wS.heap[N]? = some (.cells #[.slice A k c] 33 (0, 0))) (h3 : ∀ g, Value.ownBlock (.slice A k c) = some g → G g ∧ g ≠ N) (h4 : G N ∧ ∀ b, G b → base ≤ b ∧ b < w.heap.size) (hbase : base ≤ w.heap.size)
    (hO : OwnC w4 base (.slice A4 (k + n) c4) (X ++ Y)) (hg : wS.grownBy w4 (Value.ownBlock (.slice A k c)))
    (hat : Value.ownBlock (.slice A4 (k + n) c4) = Value.ownBlock (.slice A k c) ∨ Value.ownBlock (.slice A4 (k + n) c4) = some wS.heap.size) :
    Tn G w (w4.setCell ⟨N, 0, none⟩ (.slice A4 (k + n) c4)) ∧ ∃ G', JR t base N G' acc2 (w4.setCell ⟨N, 0, none⟩ (.slice A4 (k + n) c4)) ∧ ∀ b, G' b → G b ∨ w.heap.size ≤ b := by
  have hz := hb.size
  have hN := lt_of_block h1
  have p4 : w4.heap[N]? = some (.cells #[.slice A k c] 33 (0, 0)) := (hg.block N hN (fun e => (h3 N e.symm).2 rfl)).trans h1
  have hl : (acc2.flatMap t.str).length = k + n := by rw [hX, List.length_append, hk, hn]
  have hne : ∀ g, Value.ownBlock (.slice A4 (k + n) c4) = some g → (G g ∨ w.heap.size ≤ g) ∧ g ≠ N ∧ g < w4.heap.size := fun g e => by
    have hlt := (hO.lt g e).2
    rcases hat with h | h
    · rw [h] at e; exact ⟨Or.inl (h3 g e).1, (h3 g e).2, hlt⟩
    · rw [h] at e
      have e2 : wS.heap.size = g := Option.some.inj e
      exact ⟨Or.inr (by omega), by omega, hlt⟩
  have hT : Tn G w (w4.setCell ⟨N, 0, none⟩ (.slice A4 (k + n) c4)) := ((Tn.of G hb).grown hg (fun j e => Or.inr (h3 j e).1)).set_ (p := ⟨N, 0, none⟩) (Or.inr h4.1) _
  have pz : (w4.setCell ⟨N, 0, none⟩ (.slice A4 (k + n) c4)).heap[N]? = some (.cells #[.slice A4 (k + n) c4] 33 (0, 0)) := by rw [blk_set p4]; rfl
  have hfar : ∀ b, b ≠ N → (w4.setCell ⟨N, 0, none⟩ (.slice A4 (k + n) c4)).heap[b]? = w4.heap[b]? := fun b e => blk_keep _ e
  have hsz : (w4.setCell ⟨N, 0, none⟩ (.slice A4 (k + n) c4)).heap.size = w4.heap.size := by simp [World.setCell]
  have hg4 := hg.size
  revert hT pz hfar hsz
  generalize w4.setCell ⟨N, 0, none⟩ (.slice A4 (k + n) c4) = Z
  intro hT pz hfar hsz
  refine ⟨hT, fun b => (G b ∨ w.heap.size ≤ b) ∧ b < Z.heap.size, ⟨A4, c4, ?_, ?_, ?_, ⟨⟨Or.inl h4.1, lt_of_block pz⟩, fun b hb => ?_⟩⟩, fun b hb => hb.1⟩
  · rw [hl]; exact pz
  · rw [hl, hX]; exact hO.same fun g _ _ e => hfar g (hne g e).2.1
  · rw [hl]; exact fun g e => ⟨⟨(hne g e).1, by rw [hsz]; exact (hne g e).2.2⟩, (hne g e).2.1⟩
  · refine ⟨?_, hb.2⟩
    rcases hb.1 with h | h
    · exact (h4.2 b h).1
    · omega
set_option maxHeartbeats 1000000 in
theorem readClos {w : World} {F : Nat → Prop} {p : Nat} {t : Tab} {m : Nat} (h : Tb w F p t m) (base N bt : Nat) (G : Nat → Prop) (acc : List Pc) (x : Pc) (hJ : JR t base N G acc w) (hx : x.at_ + x.len ≤ (t.buf x.s).length) (hl : (acc.flatMap t.str).length + x.len ≤ 1073741824)
    (h1 : w.heap[bt]? = some (.cells #[.pointer (some ⟨p, 0, none⟩)] 89 (0, 0))) (hbt : bt < base) (hbase : base ≤ w.heap.size) :
    Calls Tryz.prog 231 #[aggP x, .pointer (some ⟨N, 0, none⟩), .pointer (some ⟨bt, 0, none⟩)] w (Left (JR t base N) G (acc ++ [x]) w) := by
  obtain ⟨A, c, j1, j2, j3, j4⟩ := hJ
  obtain ⟨X, hX⟩ : ∃ X, X = acc.flatMap t.str := ⟨_, rfl⟩
  have hstr : (t.str x).length = x.len := by unfold Tab.str; rw [List.length_take, List.length_drop]; omega
  have HAC := Lib.hid (show (acc ++ [x]).flatMap t.str = X ++ t.str x by rw [hX, List.flatMap_append]; simp)
  rw [← hX] at j1 j2 j3 hl
  obtain ⟨k, hk⟩ : ∃ k, k = X.length := ⟨_, rfl⟩
  rw [← hk] at j1 j2 j3 hl
  obtain ⟨W, hW⟩ : ∃ W, W = w.alloc (.cells #[.bool x.s, .int .i64 (x.at_ : Int), .int .i64 (x.len : Int)] 193) := ⟨_, rfl⟩
  have hb : Below w.heap.size w W := by rw [hW]; exact below_alloc (Below.refl _ w) _
  have hzW : W.heap.size = w.heap.size + 1 := by rw [hW]; simp
  have pb : W.heap[w.heap.size]? = some (.cells #[.bool x.s, .int .i64 (x.at_ : Int), .int .i64 (x.len : Int)] 193 (0, 0)) := by rw [hW]; exact heap_alloc_new w _
  have pn := below_old hb j1 (lt_of_block j1)
  have pt := below_old hb h1 (lt_of_block h1)
  have HS := Lib.hid (stretch_tb (h.then_ (hb.drew)) x hx)
  rw [aggP_eq] at HS
  have d0 := cell0 pb
  have d1 := cell1 pb
  have d2 := cell2 pb
  have n0 := cell0 pn
  have t0 := cell0 pt
  have HB := Lib.hid (And.intro hb (And.intro hzW (And.intro (lt_of_block j1) (And.intro hbt hbase))))
  have HJ := Lib.hid (And.intro pn (And.intro (j2.below hb (fun g hg => (j2.lt g hg).2)) (And.intro j3 j4)))
  have HW := Lib.hid hW
  have HKX := Lib.hid (And.intro hk hstr)
  clear hb hzW pb pn pt j1 j2 j3 j4 h1 h hx hW hX hk hstr hbt hbase
  rw [aggP_eq]
  go_enter Tryz.func231, Tryz.ntmps231
  go_wp2_with fail
  rw [← HW.out]
  have HOS := Lib.hid (fun wS (hbS : Below W.drew.heap.size W.drew wS) => show OwnC wS base (.slice A k c) X from OwnC.below HJ.out.2.1 (below_drew hbS) (fun g hg => (HJ.out.2.1.lt g hg).2))
  have HSZ := Lib.hid (fun wS (hbS : Below W.drew.heap.size W.drew wS) => show base ≤ wS.heap.size from Nat.le_trans HB.out.2.2.2.2 (Nat.le_trans HB.out.1.size hbS.size))
  have HNS := Lib.hid (fun wS (hbS : Below W.drew.heap.size W.drew wS) => below_old (below_drew hbS) HJ.out.1 (lt_of_block HJ.out.1))
  have HN4 := Lib.hid (fun wS w4 (hbS : Below W.drew.heap.size W.drew wS) (hg : wS.grownBy w4 (Value.ownBlock (.slice A k c))) => show w4.heap[N]? = _ from (hg.block N (lt_of_block (HNS.out wS hbS)) (fun e => (HJ.out.2.2.1 N e.symm).2 rfl)).trans (HNS.out wS hbS))
  go_region_law (first
    | (refine step_append_crs wS (by rfl) (.tmp 4) (.tmp 7) (by rfl) base A k c X (by rfl) (HOS.out wS hbS) _ A' x.len x.len (t.str x) (by rfl) hC (by omega) (HSZ.out wS hbS) ?_; intro A4 c4 w4 hO4 hg4 hat4; have p4 := HN4.out wS w4 hbS hg4; have f4 := frozen_of_row w4 N 0 _ _ p4; have r4 := cell0 p4)
    | (go_simp; go_at_call 232; refine HS.out.mono ?_; rintro e wS ⟨A', rfl, hC, hbS⟩; have s0 := cell0 (HNS.out wS hbS)))
  all_goals
    refine ⟨rfl, _, results_none (by kernel_rfl) _ _ _, rfl, ?_⟩
    exact jr_append HAC.out HKX.out.1.symm HKX.out.2 (HB.out.1.trans ((below_drew hbS).mono HB.out.1.size)) (HNS.out wS hbS) HJ.out.2.2.1 HJ.out.2.2.2 HB.out.2.2.2.2 hO4 hg4 hat4
theorem callRead (args : Array Value) (w : World) : (callFunc 231 args).run Tryz.prog w = .ok (.enter 231 args) w := by simp [go_sem]
theorem part_read {w : World} {F : Nat → Prop} {p : Nat} {t : Tab} {m : Nat} (h : Tb w F p t m) (k n : Nat) (hk : k + n ≤ t.L.length) (base N bt : Nat) (G0 : Nat → Prop)
    (hF : ∀ b, F b → b < base) (hbase : base ≤ w.heap.size) (hJ : JR t base N G0 [] w) (h1 : w.heap[bt]? = some (.cells #[.pointer (some ⟨p, 0, none⟩)] 89 (0, 0))) (hbt : bt < base) :
    Calls Tryz.prog 230 #[.pointer (some ⟨p, 0, none⟩), .int .i64 (k : Int), .int .i64 ((k + n : Nat) : Int), .func (.func 231) #[] #[.pointer (some ⟨N, 0, none⟩), .pointer (some ⟨bt, 0, none⟩)]] w (Left (JR t base N) G0 (Tp.clip (k : Int) ((k + n : Nat) : Int) (Tp.group t.L)) w) := by
  have hlen := h.ok.len
  have hm := h.le
  have := part_any h (k : Int) ((k + n : Nat) : Int) (by omega) (by omega) 231 #[.pointer (some ⟨N, 0, none⟩), .pointer (some ⟨bt, 0, none⟩)] base (JR t base N) G0 [] callRead hF hbase hJ (jr_keeps t base N) ?_
  · rwa [List.nil_append] at this
  · intro G acc2 x w1 hJ1 hb1 hx1 hx2 hl
    obtain ⟨r, hr⟩ := hl
    have htx := Tp.text_clip h.ok k n
    rw [hr, List.flatMap_append, List.flatMap_append] at htx
    have hle := congrArg List.length htx
    have hstr : (t.str x).length = x.len := by unfold Tab.str; rw [List.length_take, List.length_drop]; omega
    rw [List.length_append, List.length_append, List.length_take] at hle
    simp only [List.flatMap_cons, List.flatMap_nil, List.append_nil] at hle
    rw [hstr] at hle
    exact readClos (h.below hb1 hF) base N bt G acc2 x hJ1 hx2 (by omega) (below_old hb1 h1 hbt) hbt (Nat.le_trans hbase hb1.size)
end Go.Proofs.YtldmnkakpmplnaaGreat.Tbl
namespace Go.Proofs.YtldmnkakpmplnaaGreat.Tbl
open Go.RowKit
open Tp (Pc Plc Tab)
def Tp.readT (t : Tab) (pos n : Int) : List Int := if Tp.reachE t.L.length pos n = 0 then (t.text.drop pos.toNat).take n.toNat else []
def RetRead (w : World) (cs : List Int) (er : Int) (e : Ending) (w' : World) : Prop := ∃ A c, e = .returned (.tuple #[.slice A cs.length c, .int .i64 er]) ∧ OwnC w' w.heap.size (.slice A cs.length c) cs ∧ Below w.heap.size w w'
set_option maxHeartbeats 1000000 in
theorem read_tb {w : World} {F : Nat → Prop} {p : Nat} {t : Tab} {m : Nat} (h : Tb w F p t m) (pos n : Int) (hpos : Tp.I pos) :
    Calls Tryz.prog 188 #[.pointer (some ⟨p, 0, none⟩), .int .i64 pos, .int .i64 n] w (RetRead w (Tp.readT t pos n) (Tp.reachE t.L.length pos n)) := by
  obtain ⟨W, hW⟩ : ∃ W, W = w.alloc (.cells #[.pointer (some ⟨p, 0, none⟩)] 89) := ⟨_, rfl⟩
  have hb : Below w.heap.size w W := by rw [hW]; exact below_alloc (Below.refl _ w) _
  have k1 : W.heap[w.heap.size]? = some (.cells #[.pointer (some ⟨p, 0, none⟩)] 89 (0, 0)) := by rw [hW]; exact heap_alloc_new w _
  have hT := h.then_ hb
  have HR := Lib.hid (reach_tb hT pos n hpos)
  have HW := Lib.hid (And.intro hW (And.intro hb k1))
  have HTB := Lib.hid h
  have HT := Lib.hid hT
  have hlen := h.ok.len
  have hm := h.le
  obtain ⟨R, hR⟩ : ∃ R, R = Tp.reachE t.L.length pos n := ⟨_, rfl⟩
  rw [← hR] at HR ⊢
  rcases Tp.reach_cases t.L.length pos n with h0 | h0
  · have hin : Tp.readT t pos n = (t.text.drop pos.toNat).take n.toNat := by unfold Tp.readT; rw [if_pos h0]
    rw [hin]
    have hr := Tp.reach_ok h0
    rw [← hR] at h0
    subst h0
    obtain ⟨k, rfl⟩ : ∃ k : Nat, pos = (k : Int) := ⟨pos.toNat, by omega⟩
    obtain ⟨n, rfl⟩ : ∃ k : Nat, n = (k : Int) := ⟨n.toNat, by omega⟩
    have hkn : k + n ≤ t.L.length := by omega
    have HK := Lib.hid hkn
    have hkb : k ≤ 1073741824 := by omega
    have hnb : n ≤ 1073741824 := by omega
    have hw : IntKind.i64.wrap ((k : Int) + (n : Int)) = (k : Int) + (n : Int) := by simp [IntKind.wrap, IntKind.bits, IntKind.signed]; omega
    rw [Int.toNat_natCast, Int.toNat_natCast]
    obtain ⟨X, hX⟩ : ∃ X, X = (t.text.drop k).take n := ⟨_, rfl⟩
    have HX := Lib.hid hX
    rw [← hX]
    clear hX
    obtain ⟨i0, hi, hz0, hz1, hz2⟩ := info_parts infoChar
    have HI := Lib.hid (And.intro hi (And.intro hz0 (And.intro hz1 (show i0.bytes * n ≤ 281474976710656 by rw [hz2]; omega))))
    clear hr hin hR hW hb k1 hT h hlen hpos hkn hi hz0 hz1 hz2
    go_enter Tryz.func188, Tryz.ntmps188
    go_wp2_with fail
    rw [← HW.out.1]
    refine HR.out.mono ?_
    rintro e w2 ⟨rfl, hb2⟩
    have HB2 := Lib.hid (below_then HW.out.2.1 hb2)
    have HQ := Lib.hid (below_old hb2 HW.out.2.2 (lt_of_block HW.out.2.2))
    have HT2 := Lib.hid (HT.out.then_ hb2)
    clear hb2 HR
    go_wp2_with (at_make; refine wpList_make_own w2 rfl (.const (.int .i64 0)) (.tmp 17) 33 rfl w2.heap.size 41 i0 _ 1 Tryz.underlying33 HI.out.1 HI.out.2.1 HI.out.2.2.1 .i64 .i64 _ n (by rfl) (by rfl) (by omega) HI.out.2.2.2 (by unfold maxLen; omega) (Nat.le_refl _) ?_)
    intro w3 ho3 hg3
    have hb3 : Below w2.heap.size w2 w3 := (Below.refl _ w2).grown hg3 (Nat.le_refl _) (fun k e => by cases e)
    obtain ⟨V, hV⟩ : ∃ V, V = w3.alloc (.cells #[.slice (some ⟨w2.heap.size, 0, none⟩) 0 n] 33) := ⟨_, rfl⟩
    have hbV : Below w2.heap.size w2 V := by rw [hV]; exact below_alloc hb3 _
    have hJ0 : JR t w2.heap.size w3.heap.size (fun b => b = w2.heap.size ∨ b = w3.heap.size) [] V := by
      have hz := hb3.size
      have hl := (World.ownsRow.lt ho3 w2.heap.size rfl).2
      have hzV : V.heap.size = w3.heap.size + 1 := by rw [hV]; simp
      refine ⟨some ⟨w2.heap.size, 0, none⟩, n, by rw [hV]; exact heap_alloc_new w3 _, ⟨by rw [hV]; exact World.ownsRow.alloc ho3 _, fun x hx => by cases hx⟩, fun g hg => ?_, ⟨Or.inr rfl, fun b hb => ?_⟩⟩
      · have e : g = w2.heap.size := by cases hg; rfl
        subst e
        exact ⟨Or.inl rfl, by omega⟩
      · rcases hb with rfl | rfl <;> omega
    have HC := Lib.hid (part_read (HT2.out.then_ hbV) k n HK.out w2.heap.size w3.heap.size w.heap.size _ (fun b hb => HT2.out.lt b hb) hbV.size hJ0 (below_old hbV HQ.out (lt_of_block HQ.out)) (lt_of_block HQ.out))
    rw [Int.natCast_add] at HC
    have d1 : V.cell? ⟨w.heap.size, 0, none⟩ = some (.pointer (some ⟨p, 0, none⟩)) := cell0 (below_old hbV HQ.out (lt_of_block HQ.out))
    rw [hV] at d1
    have HV := Lib.hid (And.intro hV (And.intro hbV hb3))
    clear ho3 hg3 hb3 hbV hJ0 hV
    go_wp2_with fail
    rw [← HV.out.1]
    refine HC.out.mono ?_
    rintro e w5 ⟨rfl, ht5, G5, hJ5, hG5⟩
    have hb5 : Below w2.heap.size w2 w5 := ht5.below HV.out.2.1 HV.out.2.1.size (fun b hb => by have := HV.out.2.2.size; rcases hb with rfl | rfl <;> omega)
    obtain ⟨A, c, j1, j2, j3, j4⟩ := hJ5
    have htx := Tp.text_clip HTB.out.ok k n
    rw [Int.natCast_add] at htx
    rw [htx, ← HX.out] at j1 j2
    have n0 := cell0 j1
    have HD := Lib.hid (show RetRead w X 0 (.returned (.tuple #[.slice A X.length c, .int .i64 0])) w5 from ⟨A, c, rfl, j2.lower HB2.out.size, below_then HB2.out hb5⟩)
    clear htx j1 j2 j3 j4 hG5 ht5 hb5 HC
    go_wp2_with fail
    go_ret2
    exact HD.out
  · have hin : Tp.readT t pos n = [] := by unfold Tp.readT; rw [if_neg (by rw [h0]; decide)]
    rw [hin]
    rw [← hR] at h0
    subst h0
    clear hin hR hW hb k1 hT h hlen hpos
    go_enter Tryz.func188, Tryz.ntmps188
    go_wp2_with fail
    rw [← HW.out.1]
    refine HR.out.mono ?_
    rintro e w2 ⟨rfl, hb2⟩
    have HB2 := Lib.hid (below_then HW.out.2.1 hb2)
    clear hb2
    go_wp2_with fail
    go_ret2
    exact ⟨none, 0, rfl, OwnC.nil_ _ _, HB2.out⟩
set_option maxHeartbeats 400000 in
theorem text_tb {w : World} {F : Nat → Prop} {p : Nat} {t : Tab} {m : Nat} (h : Tb w F p t m) : Calls Tryz.prog 101 #[.pointer (some ⟨p, 0, none⟩)] w (RetC w t.text) := by
  have HL := Lib.hid (len_tb h)
  have HR := Lib.hid (fun w2 (hb : Below w.heap.size w w2) => read_tb (h.then_ hb) 0 (t.L.length : Int) (Tp.I.mk (by omega)))
  have hre : Tp.reachE t.L.length 0 (t.L.length : Int) = 0 := by unfold Tp.reachE; rw [if_neg (by omega)]
  have htx : Tp.readT t 0 (t.L.length : Int) = t.text := by
    unfold Tp.readT
    rw [if_pos hre, Int.toNat_zero, List.drop_zero, Int.toNat_natCast, ← Tp.len_text, List.take_length]
  rw [hre, htx] at HR
  obtain ⟨K, hK⟩ : ∃ K, K = t.L.length := ⟨_, rfl⟩
  rw [← hK] at HL HR
  clear h hre htx hK
  go_enter Tryz.func101, Tryz.ntmps101
  go_wp2_with fail
  refine HL.out.mono ?_
  rintro e w2 ⟨rfl, hb2⟩
  have HR2 := Lib.hid (HR.out w2 hb2)
  have HB2 := Lib.hid hb2
  clear hb2 HL HR
  go_wp2_with fail
  refine HR2.out.mono ?_
  rintro e w3 ⟨A, c, rfl, hO, hb⟩
  have H := Lib.hid (And.intro (hO.lower HB2.out.size) (below_then HB2.out hb))
  clear hO hb
  go_wp2_with fail
  go_ret
  exact ⟨A, c, rfl, H.out.1, H.out.2⟩
end Go.Proofs.YtldmnkakpmplnaaGreat.Tbl
