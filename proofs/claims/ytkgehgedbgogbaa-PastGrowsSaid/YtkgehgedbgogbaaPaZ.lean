/-
  past.Past's Push where it is refused (units that do not fit, a full past, none). Conditions: those of a past; the units of at most 2^47 bytes; the last length at most 2^60.
-/
import Derived.Test.YtkgehgedbgogbaaPaY
namespace Go.Proofs.Ytkgehgedbgogbaa
open Go.RowKit
open Pl (Un)

theorem eval_two (a b : Value) : (#[a, b] : Array Value).getD 0 undef = a ∧ (#[a, b] : Array Value).getD 1 undef = b := ⟨rfl, rfl⟩
variable {w : World} {p : Nat} {F : Nat → Prop} {fr : Nat} {N : Int} {P : List Pl.Op}
/-- what Push's first drawn region needs -/
structure PuH (w V : World) (p : Nat) (F : Nat → Prop) (fr : Nat) (N : Int) (P : List Pl.Op) (x y : Int) (A : Option Addr) (n c : Nat) (l : List Un) (b : Bool) (gB oB m d k : Nat) (N1 ra rb : Int) : Prop where
  oa : OAt V w.heap.size x y A n c b
  bel : Below w.heap.size w V
  pa : PastAt V p F fr N P
  pw : ∃ A' n' c' L', PastW V p F fr N P A' n' c' (some ⟨gB, oB, none⟩) m d L'
  un : Uns V V.heap.size A n c l
  kk : k = P.length
  km : k < m
  n1 : N1 = N + Pl.total P
  cn : ∀ w1, Below V.heap.size V w1 → w1.cell? ⟨gB, oB + k, none⟩ = some (.int .i64 N1)
  lo : ∀ w1, Below V.heap.size V w1 → Calls Try.prog 25 #[.slice A n c, .int .i64 N1] w1 fun e w' => e = .returned (.tuple #[.int .i64 ra, .int .i64 rb]) ∧ Below w1.heap.size w1 w'
theorem PuH.make (h : PastAt w p F fr N P) (x y : Int) (A : Option Addr) (n c : Nat) (l : List Un) (b : Bool) (h1 : Uns w w.heap.size A n c l) (hn : n * 40 ≤ 140737488355328) (hN : N + Pl.total P ≤ 1152921504606846976) (ra rb : Int) (hl : Pl.longL l (N + Pl.total P) = (ra, rb)) :
    ∃ gB oB m d k N1, PuH w (w.alloc (.cells #[.int .u32 x, .int .u64 y, .slice A n c, .bool b] 38)) p F fr N P x y A n c l b gB oB m d k N1 ra rb := by
  obtain ⟨V, hV⟩ : ∃ V, V = w.alloc (.cells #[.int .u32 x, .int .u64 y, .slice A n c, .bool b] 38) := ⟨_, rfl⟩
  have hb : Below w.heap.size w V := by rw [hV]; exact below_box _ _
  have ho : OAt V w.heap.size x y A n c b := by rw [hV]; exact heap_new rfl
  rw [← hV]
  have hpa := h.then_ hb
  obtain ⟨A', n', c', B, m, d, L', hw⟩ := hpa
  have hm := hw.m_len
  obtain ⟨gB, oB, rfl, hg, hc⟩ := Rws.int_at hw.len (i := P.length) (by omega)
  refine ⟨gB, oB, m, d, P.length, N + Pl.total P, ⟨ho, hb, ⟨A', n', c', _, m, d, L', hw⟩, ⟨A', n', c', L', hw⟩, Rws.then_ h1 hb, rfl, by omega, rfl, fun w1 hb1 => ?_, fun w1 hb1 => ?_⟩⟩
  · have := hc P.length (by omega)
    rw [Pl.lens_at N P (Nat.le_refl _), List.take_length] at this
    exact (hb1.cell (p := ⟨gB, oB + P.length, none⟩) hg).trans this
  · have := long_big A n c l (N + Pl.total P) w1 (Rws.then_ (Rws.then_ h1 hb) hb1) (by omega) hN
    rwa [hl] at this
set_option maxRecDepth 100000 in
set_option maxHeartbeats 400000 in
theorem push_bad (h : PastAt w p F fr N P) (x y : Int) (A : Option Addr) (n c : Nat) (l : List Un) (b : Bool) (h1 : Uns w w.heap.size A n c l) (hn : n * 40 ≤ 140737488355328) (hN : N + Pl.total P ≤ 1152921504606846976) (ra rb : Int) (hl : Pl.longL l (N + Pl.total P) = (ra, rb)) (hE : rb ≠ 0) :
    Calls Try.prog 9 #[.pointer (some ⟨p, 0, none⟩), .agg #[.int .u32 x, .int .u64 y, .slice A n c, .bool b]] w fun e w' => e = .returned (.tuple #[.int .u64 0, .int .i64 rb]) ∧ Below w.heap.size w w' := by
  obtain ⟨gB, oB, m, d, k, N1, hH⟩ := PuH.make h x y A n c l b h1 hn hN ra rb hl
  obtain ⟨V, hV⟩ : ∃ V, V = w.alloc (.cells #[.int .u32 x, .int .u64 y, .slice A n c, .bool b] 38) := ⟨_, rfl⟩
  rw [← hV] at hH
  obtain ⟨A', n', c', L', hPW⟩ := hH.pw
  have HPW := Lib.hid hPW
  have HPA := Lib.hid hH.pa
  have HOA := Lib.hid hH.oa
  have HN := Lib.hid (none_past hH.pa)
  have HK := Lib.hid hH.kk
  have HCN := Lib.hid hH.cn
  have HLO := Lib.hid hH.lo
  have HBV := Lib.hid hH.bel
  have zk0 : (0 : Int) ≤ (k : Int) := Int.natCast_nonneg _
  have zk1 : (k : Int) < (m : Int) := Int.ofNat_lt.2 hH.km
  have HV := Lib.hid hV
  have hEb : (rb != 0) = true := by simpa using hE
  clear h h1 hn hN hl hE hH hPW hV
  go_enter Try.func9, Try.ntmps9
  go_wp2_with fail
  rw [← HV.out]
  refine HN.out.mono ?_
  rintro e w' ⟨rfl, hw⟩
  rw [hw]
  clear hw
  go_wp2_with fail
  refine Rg.wp_region_inv (Below V.heap.size V) (Rg.Wd.at [.is (.pointer (some ⟨w.heap.size, 2, none⟩)), .is (.slice A n c), .is (.pointer (some ⟨p, 0, none⟩)), .is (.pointer (some ⟨p, 0, none⟩)), .is (.pointer (some ⟨p, 2, none⟩)), .is (.slice (some ⟨gB, oB, none⟩) m d), .is (.pointer (some ⟨p, 0, none⟩)), .is (.int .i64 (k : Int)), .is (.pointer (some ⟨gB, oB + k, none⟩)), .is (.int .i64 N1), .is (.tuple #[.int .i64 ra, .int .i64 rb]), .is (.tuple #[.int .i64 ra, .int .i64 rb]), .is (.int .i64 ra), .is (.int .i64 rb), .is (.int .i64 ra), .is (.int .i64 rb)]) (by kernel_rfl) (by kernel_rfl) (Rg.Wd.stays _ _) ((below_drawn (Below.refl _ _))) ⟨?_, ?_, ?_, ?_, ?_, ?_, ?_, ?_, ?_, ?_, ?_, ?_, ?_, ?_, ?_, ?_, trivial⟩ ?_
  · intro a w1 hS hb hd
    have e3 := hb 3 (Rg.nw (by decide))
    simp [Act.eval] at e3
    exact Rg.does_pure (Rg.wanted_none rfl) (by simp [execOp, e3, go_sem]) hS rfl
  · intro a w1 hS hb hd
    have e11 := hd ⟨0, .data⟩ (by simp) rfl _ _ rfl rfl
    have e11 : a.tmps[11]?.getD undef = (.pointer (some ⟨w.heap.size, 2, none⟩)) := Rg.slot e11
    exact Rg.does_pure (Rg.wanted_none rfl) (by simp [execOp, e11, (HOA.out.then_ hS).cells.2.2.1, go_sem]) hS rfl
  · intro a w1 hS hb hd
    have e0 := hb 0 (Rg.nw (by decide))
    simp [Act.eval] at e0
    exact Rg.does_pure (Rg.wanted_none rfl) (by simp [execOp, e0, go_sem]) hS rfl
  · intro a w1 hS hb hd
    have e13 := hd ⟨2, .data⟩ (by simp) rfl _ _ rfl rfl
    have e13 : a.tmps[13]?.getD undef = (.pointer (some ⟨p, 0, none⟩)) := Rg.slot e13
    exact Rg.does_pure (Rg.wanted_none rfl) (by simp [execOp, e13, go_sem]) hS rfl
  · intro a w1 hS hb hd
    have e14 := hd ⟨3, .data⟩ (by simp) rfl _ _ rfl rfl
    have e14 : a.tmps[14]?.getD undef = (.pointer (some ⟨p, 0, none⟩)) := Rg.slot e14
    exact Rg.does_pure (Rg.wanted_none rfl) (by simp [execOp, e14, go_sem]) hS rfl
  · intro a w1 hS hb hd
    have e15 := hd ⟨4, .data⟩ (by simp) rfl _ _ rfl rfl
    have e15 : a.tmps[15]?.getD undef = (.pointer (some ⟨p, 2, none⟩)) := Rg.slot e15
    exact Rg.does_pure (Rg.wanted_none rfl) (by simp [execOp, e15, (HPW.out.then_ hS).cells.2.2, go_sem]) hS rfl
  · intro a w1 hS hb hd
    have e0 := hb 0 (Rg.nw (by decide))
    simp [Act.eval] at e0
    exact Rg.does_pure (Rg.wanted_none rfl) (by simp [execOp, e0, go_sem]) hS rfl
  · intro a w1 hS hb hd
    have e17 := hd ⟨6, .data⟩ (by simp) rfl _ _ rfl rfl
    have e17 : a.tmps[17]?.getD undef = (.pointer (some ⟨p, 0, none⟩)) := Rg.slot e17
    refine Rg.does_call (f := 15) (args := #[.pointer (some ⟨p, 0, none⟩)]) (Rg.wanted_none rfl) (by simp [e17, go_sem]) ?_
    refine (len_past (HPA.out.then_ hS)).mono ?_; rintro e w3 ⟨rfl, rfl⟩; exact ⟨_, rfl, by rw [HK.out]; rfl, hS, Below.refl _ _⟩
  · intro a w1 hS hb hd
    have e16 := hd ⟨5, .data⟩ (by simp) rfl _ _ rfl rfl
    have e16 : a.tmps[16]?.getD undef = (.slice (some ⟨gB, oB, none⟩) m d) := Rg.slot e16
    have e18 := hd ⟨7, .data⟩ (by simp) rfl _ _ rfl rfl
    have e18 : a.tmps[18]?.getD undef = (.int .i64 (k : Int)) := Rg.slot e18
    exact Rg.does_pure (Rg.wanted_none rfl) (by simp [execOp, e16, e18, zk0, zk1, go_sem]) hS rfl
  · intro a w1 hS hb hd
    have e19 := hd ⟨8, .data⟩ (by simp) rfl _ _ rfl rfl
    have e19 : a.tmps[19]?.getD undef = (.pointer (some ⟨gB, oB + k, none⟩)) := Rg.slot e19
    exact Rg.does_pure (Rg.wanted_none rfl) (by simp [execOp, e19, (HCN.out w1 hS), go_sem]) hS rfl
  · intro a w1 hS hb hd
    have e12 := hd ⟨1, .data⟩ (by simp) rfl _ _ rfl rfl
    have e12 : a.tmps[12]?.getD undef = (.slice A n c) := Rg.slot e12
    have e20 := hd ⟨9, .data⟩ (by simp) rfl _ _ rfl rfl
    have e20 : a.tmps[20]?.getD undef = (.int .i64 N1) := Rg.slot e20
    refine Rg.does_call (f := 25) (args := #[.slice A n c, .int .i64 N1]) (Rg.wanted_none rfl) (by simp [e12, e20, go_sem]) ?_
    refine (HLO.out w1 hS).mono ?_; rintro e w3 ⟨rfl, hb⟩; exact ⟨_, rfl, rfl, below_then hS hb, hb⟩
  · intro a w1 hS hb hd
    have e21 := hd ⟨10, .data⟩ (by simp) rfl _ _ rfl rfl
    have e21 : a.tmps[21]?.getD undef = (.tuple #[.int .i64 ra, .int .i64 rb]) := Rg.slot e21
    exact Rg.does_pure (Rg.wanted_none rfl) (by simp [execOp, e21, go_sem]) hS rfl
  · intro a w1 hS hb hd
    have e10 := hd ⟨11, .data⟩ (by simp) rfl _ _ rfl rfl
    have e10 : a.tmps[10]?.getD undef = (.tuple #[.int .i64 ra, .int .i64 rb]) := Rg.slot e10
    exact Rg.does_pure (Rg.wanted_none rfl) (by simp [execOp, e10, go_sem]) hS rfl
  · intro a w1 hS hb hd
    have e10 := hd ⟨11, .data⟩ (by simp) rfl _ _ rfl rfl
    have e10 : a.tmps[10]?.getD undef = (.tuple #[.int .i64 ra, .int .i64 rb]) := Rg.slot e10
    exact Rg.does_pure (Rg.wanted_none rfl) (by simp [execOp, e10, go_sem]) hS rfl
  · intro a w1 hS hb hd
    have e22 := hd ⟨12, .data⟩ (by simp) rfl _ _ rfl rfl
    have e22 : a.tmps[22]?.getD undef = (.int .i64 ra) := Rg.slot e22
    exact Rg.does_pure (Rg.wanted_none rfl) (by simp [execOp, e22, go_sem]) hS rfl
  · intro a w1 hS hb hd
    have e23 := hd ⟨13, .data⟩ (by simp) rfl _ _ rfl rfl
    have e23 : a.tmps[23]?.getD undef = (.int .i64 rb) := Rg.slot e23
    exact Rg.does_pure (Rg.wanted_none rfl) (by simp [execOp, e23, go_sem]) hS rfl
  · intro v w3 hS hv
    have v10 := hv 11 _ _ rfl rfl
    have v22 := hv 12 _ _ rfl rfl
    have v23 := hv 13 _ _ rfl rfl
    have v6 := hv 14 _ _ rfl rfl
    have v7 := hv 15 _ _ rfl rfl
    have HB := Lib.hid (below_then HBV.out hS)
    clear hS hv
    simp only [Rg.putAll, Nat.zero_add, Nat.reduceAdd]
    simp only [Act.put, List.setIfInBounds_toArray, List.set_cons_succ, List.set_cons_zero]
    rw [v6, v7]
    go_wp2_with fail
    go_returns
    exact ⟨rfl, HB.out⟩
set_option maxRecDepth 100000 in
set_option maxHeartbeats 400000 in
theorem push_full (h : PastAt w p F fr N P) (x y : Int) (A : Option Addr) (n c : Nat) (l : List Un) (b : Bool) (h1 : Uns w w.heap.size A n c l) (hn : n * 40 ≤ 140737488355328) (hN : N + Pl.total P ≤ 1152921504606846976) (ra : Int) (hl : Pl.longL l (N + Pl.total P) = (ra, 0)) (hfull : fr + P.length = 1099511627776 ∨ P.length = 256) :
    Calls Try.prog 9 #[.pointer (some ⟨p, 0, none⟩), .agg #[.int .u32 x, .int .u64 y, .slice A n c, .bool b]] w fun e w' => e = .returned (.tuple #[.int .u64 0, .int .i64 7]) ∧ Below w.heap.size w w' := by
  obtain ⟨gB, oB, m, d, k, N1, hH⟩ := PuH.make h x y A n c l b h1 hn hN ra 0 hl
  obtain ⟨V, hV⟩ : ∃ V, V = w.alloc (.cells #[.int .u32 x, .int .u64 y, .slice A n c, .bool b] 38) := ⟨_, rfl⟩
  rw [← hV] at hH
  obtain ⟨A', n', c', L', hPW⟩ := hH.pw
  obtain ⟨rb, hrb⟩ : ∃ rb : Int, rb = 0 := ⟨_, rfl⟩
  rw [← hrb] at hH
  have HPW := Lib.hid hPW
  have HPA := Lib.hid hH.pa
  have HOA := Lib.hid hH.oa
  have HN := Lib.hid (none_past hH.pa)
  have HK := Lib.hid hH.kk
  have HCN := Lib.hid hH.cn
  have HLO := Lib.hid hH.lo
  have HBV := Lib.hid hH.bel
  have HRB := Lib.hid hrb
  have zk0 : (0 : Int) ≤ (k : Int) := Int.natCast_nonneg _
  have zk1 : (k : Int) < (m : Int) := Int.ofNat_lt.2 hH.km
  have HV := Lib.hid hV
  have HFU := Lib.hid hfull
  clear h h1 hn hN hl hfull hH hPW hV hrb
  go_enter Try.func9, Try.ntmps9
  go_wp2_with fail
  rw [← HV.out]
  refine HN.out.mono ?_
  rintro e w' ⟨rfl, hw⟩
  rw [hw]
  clear hw
  go_wp2_with fail
  refine Rg.wp_region_inv (Below V.heap.size V) (Rg.Wd.at [.is (.pointer (some ⟨w.heap.size, 2, none⟩)), .is (.slice A n c), .is (.pointer (some ⟨p, 0, none⟩)), .is (.pointer (some ⟨p, 0, none⟩)), .is (.pointer (some ⟨p, 2, none⟩)), .is (.slice (some ⟨gB, oB, none⟩) m d), .is (.pointer (some ⟨p, 0, none⟩)), .is (.int .i64 (k : Int)), .is (.pointer (some ⟨gB, oB + k, none⟩)), .is (.int .i64 N1), .is (.tuple #[.int .i64 ra, .int .i64 rb]), .is (.tuple #[.int .i64 ra, .int .i64 rb]), .is (.int .i64 ra), .is (.int .i64 rb), .is (.int .i64 ra), .is (.int .i64 rb)]) (by kernel_rfl) (by kernel_rfl) (Rg.Wd.stays _ _) ((below_drawn (Below.refl _ _))) ⟨?_, ?_, ?_, ?_, ?_, ?_, ?_, ?_, ?_, ?_, ?_, ?_, ?_, ?_, ?_, ?_, trivial⟩ ?_
  · intro a w1 hS hb hd
    have e3 := hb 3 (Rg.nw (by decide))
    simp [Act.eval] at e3
    exact Rg.does_pure (Rg.wanted_none rfl) (by simp [execOp, e3, go_sem]) hS rfl
  · intro a w1 hS hb hd
    have e11 := hd ⟨0, .data⟩ (by simp) rfl _ _ rfl rfl
    have e11 : a.tmps[11]?.getD undef = (.pointer (some ⟨w.heap.size, 2, none⟩)) := Rg.slot e11
    exact Rg.does_pure (Rg.wanted_none rfl) (by simp [execOp, e11, (HOA.out.then_ hS).cells.2.2.1, go_sem]) hS rfl
  · intro a w1 hS hb hd
    have e0 := hb 0 (Rg.nw (by decide))
    simp [Act.eval] at e0
    exact Rg.does_pure (Rg.wanted_none rfl) (by simp [execOp, e0, go_sem]) hS rfl
  · intro a w1 hS hb hd
    have e13 := hd ⟨2, .data⟩ (by simp) rfl _ _ rfl rfl
    have e13 : a.tmps[13]?.getD undef = (.pointer (some ⟨p, 0, none⟩)) := Rg.slot e13
    exact Rg.does_pure (Rg.wanted_none rfl) (by simp [execOp, e13, go_sem]) hS rfl
  · intro a w1 hS hb hd
    have e14 := hd ⟨3, .data⟩ (by simp) rfl _ _ rfl rfl
    have e14 : a.tmps[14]?.getD undef = (.pointer (some ⟨p, 0, none⟩)) := Rg.slot e14
    exact Rg.does_pure (Rg.wanted_none rfl) (by simp [execOp, e14, go_sem]) hS rfl
  · intro a w1 hS hb hd
    have e15 := hd ⟨4, .data⟩ (by simp) rfl _ _ rfl rfl
    have e15 : a.tmps[15]?.getD undef = (.pointer (some ⟨p, 2, none⟩)) := Rg.slot e15
    exact Rg.does_pure (Rg.wanted_none rfl) (by simp [execOp, e15, (HPW.out.then_ hS).cells.2.2, go_sem]) hS rfl
  · intro a w1 hS hb hd
    have e0 := hb 0 (Rg.nw (by decide))
    simp [Act.eval] at e0
    exact Rg.does_pure (Rg.wanted_none rfl) (by simp [execOp, e0, go_sem]) hS rfl
  · intro a w1 hS hb hd
    have e17 := hd ⟨6, .data⟩ (by simp) rfl _ _ rfl rfl
    have e17 : a.tmps[17]?.getD undef = (.pointer (some ⟨p, 0, none⟩)) := Rg.slot e17
    refine Rg.does_call (f := 15) (args := #[.pointer (some ⟨p, 0, none⟩)]) (Rg.wanted_none rfl) (by simp [e17, go_sem]) ?_
    refine (len_past (HPA.out.then_ hS)).mono ?_; rintro e w3 ⟨rfl, rfl⟩; exact ⟨_, rfl, by rw [HK.out]; rfl, hS, Below.refl _ _⟩
  · intro a w1 hS hb hd
    have e16 := hd ⟨5, .data⟩ (by simp) rfl _ _ rfl rfl
    have e16 : a.tmps[16]?.getD undef = (.slice (some ⟨gB, oB, none⟩) m d) := Rg.slot e16
    have e18 := hd ⟨7, .data⟩ (by simp) rfl _ _ rfl rfl
    have e18 : a.tmps[18]?.getD undef = (.int .i64 (k : Int)) := Rg.slot e18
    exact Rg.does_pure (Rg.wanted_none rfl) (by simp [execOp, e16, e18, zk0, zk1, go_sem]) hS rfl
  · intro a w1 hS hb hd
    have e19 := hd ⟨8, .data⟩ (by simp) rfl _ _ rfl rfl
    have e19 : a.tmps[19]?.getD undef = (.pointer (some ⟨gB, oB + k, none⟩)) := Rg.slot e19
    exact Rg.does_pure (Rg.wanted_none rfl) (by simp [execOp, e19, (HCN.out w1 hS), go_sem]) hS rfl
  · intro a w1 hS hb hd
    have e12 := hd ⟨1, .data⟩ (by simp) rfl _ _ rfl rfl
    have e12 : a.tmps[12]?.getD undef = (.slice A n c) := Rg.slot e12
    have e20 := hd ⟨9, .data⟩ (by simp) rfl _ _ rfl rfl
    have e20 : a.tmps[20]?.getD undef = (.int .i64 N1) := Rg.slot e20
    refine Rg.does_call (f := 25) (args := #[.slice A n c, .int .i64 N1]) (Rg.wanted_none rfl) (by simp [e12, e20, go_sem]) ?_
    refine (HLO.out w1 hS).mono ?_; rintro e w3 ⟨rfl, hb⟩; exact ⟨_, rfl, rfl, below_then hS hb, hb⟩
  · intro a w1 hS hb hd
    have e21 := hd ⟨10, .data⟩ (by simp) rfl _ _ rfl rfl
    have e21 : a.tmps[21]?.getD undef = (.tuple #[.int .i64 ra, .int .i64 rb]) := Rg.slot e21
    exact Rg.does_pure (Rg.wanted_none rfl) (by simp [execOp, e21, go_sem]) hS rfl
  · intro a w1 hS hb hd
    have e10 := hd ⟨11, .data⟩ (by simp) rfl _ _ rfl rfl
    have e10 : a.tmps[10]?.getD undef = (.tuple #[.int .i64 ra, .int .i64 rb]) := Rg.slot e10
    exact Rg.does_pure (Rg.wanted_none rfl) (by simp [execOp, e10, go_sem]) hS rfl
  · intro a w1 hS hb hd
    have e10 := hd ⟨11, .data⟩ (by simp) rfl _ _ rfl rfl
    have e10 : a.tmps[10]?.getD undef = (.tuple #[.int .i64 ra, .int .i64 rb]) := Rg.slot e10
    exact Rg.does_pure (Rg.wanted_none rfl) (by simp [execOp, e10, go_sem]) hS rfl
  · intro a w1 hS hb hd
    have e22 := hd ⟨12, .data⟩ (by simp) rfl _ _ rfl rfl
    have e22 : a.tmps[22]?.getD undef = (.int .i64 ra) := Rg.slot e22
    exact Rg.does_pure (Rg.wanted_none rfl) (by simp [execOp, e22, go_sem]) hS rfl
  · intro a w1 hS hb hd
    have e23 := hd ⟨13, .data⟩ (by simp) rfl _ _ rfl rfl
    have e23 : a.tmps[23]?.getD undef = (.int .i64 rb) := Rg.slot e23
    exact Rg.does_pure (Rg.wanted_none rfl) (by simp [execOp, e23, go_sem]) hS rfl
  · intro v w3 hS hv
    have v6 := hv 14 _ _ rfl rfl
    have v7 := hv 15 _ _ rfl rfl
    have HB := Lib.hid (below_then HBV.out hS)
    have HNW := Lib.hid (now_past (HPA.out.then_ hS))
    have HLE := Lib.hid (len_past (HPA.out.then_ hS))
    rw [← HK.out] at HNW HLE
    clear hS hv
    simp only [Rg.putAll, Nat.zero_add, Nat.reduceAdd]
    simp only [Act.put, List.setIfInBounds_toArray, List.set_cons_succ, List.set_cons_zero]
    rw [v6, v7, HRB.out]
    obtain ⟨nw, hnw⟩ : ∃ nw, nw = fr + k := ⟨_, rfl⟩
    rw [← hnw] at HNW
    have hfu := HFU.out
    rw [← HK.out, ← hnw] at hfu
    by_cases h1 : nw = 1099511627776
    · have z1 : ((nw : Int) == 1099511627776) = true := by rw [h1]; rfl
      clear hnw hfu h1
      go_wp2_with fail
      refine HNW.out.mono ?_
      rintro e w' ⟨rfl, hw⟩
      rw [hw]
      clear hw
      go_wp2_with fail
      go_returns
      exact ⟨rfl, HB.out⟩
    · have hk : k = 256 := by omega
      have z1 : ((nw : Int) == 1099511627776) = false := by simp; omega
      subst hk
      clear hnw hfu h1
      go_wp2_with fail
      refine HNW.out.mono ?_
      rintro e w' ⟨rfl, hw⟩
      rw [hw]
      clear hw
      go_wp2_with fail
      refine HLE.out.mono ?_
      rintro e w' ⟨rfl, hw⟩
      rw [hw]
      clear hw
      go_wp2_with fail
      go_returns
      exact ⟨rfl, HB.out⟩
set_option maxRecDepth 100000 in
set_option maxHeartbeats 400000 in
theorem push_non {v : Option Addr} (h : NonAt w (.pointer v)) (x y : Int) (A : Option Addr) (n c : Nat) (b : Bool) :
    Calls Try.prog 9 #[.pointer v, .agg #[.int .u32 x, .int .u64 y, .slice A n c, .bool b]] w fun e w' => e = .returned (.tuple #[.int .u64 0, .int .i64 2]) ∧ Below w.heap.size w w' := by
  have HN := Lib.hid (none_non (h.then_ (below_box w (.cells #[.int .u32 x, .int .u64 y, .slice A n c, .bool b] 38))))
  clear h
  go_enter Try.func9, Try.ntmps9
  go_wp2_with fail
  refine HN.out.mono ?_
  rintro e w' ⟨rfl, hw⟩
  rw [hw]
  clear hw
  go_wp2_with fail
  go_returns
  exact ⟨rfl, below_box _ _⟩
end Go.Proofs.Ytkgehgedbgogbaa
