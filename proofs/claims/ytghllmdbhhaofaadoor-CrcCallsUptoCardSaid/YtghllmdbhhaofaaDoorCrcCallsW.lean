/-
  The walk of copybooklaw02.CrcCalls: it returns true for any parts and any bytes; nothing that was there turned. Conditions: the table stands in crc.steps; all parts together have at most 2^47 bytes.
-/
import Derived.Test.YtghllmdbhhaofaaDoorCrcR
import Derived.Test.YtghllmdbhhaofaaDoorBaseR
namespace Go.Proofs.YtghllmdbhhaofaaDoor.crcCalls
open Go.RowKit

/-- what stripping answers -/
def good (bs : List Nat) : Bool := decide (4 ≤ bs.length) && decide (Pl.lay 4 (Pl.sum (bs.take (bs.length - 4))) = bs.drop (bs.length - 4))
def left (bs : List Nat) : List Nat := if good bs = true then bs.take (bs.length - 4) else []
def code (bs : List Nat) : Nat := if bs.length < 4 then 4 else if good bs = true then 0 else 20
theorem left_len (bs : List Nat) : (left bs).length ≤ bs.length := by
  unfold left; split
  · rw [List.length_take]; omega
  · exact Nat.zero_le _

def StripU (w : World) (bs : List Nat) (e : Ending) (w' : World) : Prop :=
  ∃ A cap, e = .returned (.tuple #[.slice A (left bs).length cap, .int .i64 ((code bs : Nat) : Int)]) ∧ OwnV w' w.heap.size (.slice A (left bs).length cap) (left bs) ∧ Below w.heap.size w w'
theorem strip_u (A : Option Addr) (n c : Nat) (bs : List Nat) (w : World) (hT : Tab w) (h1 : Bys w w.heap.size A n c bs) (hr : n ≤ 140737488355328) :
    Calls Tryd.prog 11 #[.slice A n c] w (StripU w bs) := by
  have hl := h1.len
  by_cases h4 : n < 4
  · have hg : good bs = false := by unfold good; rw [decide_eq_false (by omega)]; rfl
    have hle : left bs = [] := by unfold left; rw [hg]; rfl
    have hc : code bs = 4 := by unfold code; rw [if_pos (by omega)]
    refine (strip_short A n c w h4).mono fun e w' ⟨h2, h3⟩ => ?_
    subst h3
    refine ⟨none, 0, ?_, ?_, Below.refl _ _⟩
    · rw [h2, hle, hc]; rfl
    · rw [hle]; exact OwnV.nil_ _ _
  · refine (strip_any A n c bs w hT h1 (by omega) hr).mono fun e w' ⟨h2, h3, h5⟩ => ?_
    by_cases hd : Pl.lay 4 (Pl.sum (bs.take (n - 4))) = bs.drop (n - 4)
    · have hg : good bs = true := by unfold good; rw [hl, decide_eq_true hd, decide_eq_true (by omega)]; rfl
      have hle : left bs = bs.take (n - 4) := by unfold left; rw [hg, hl]; rfl
      have hc : code bs = 0 := by unfold code; rw [if_neg (by omega), hg]; rfl
      obtain ⟨g, cap, h6, h7⟩ := h5 (decide_eq_true hd)
      refine ⟨some ⟨g, 0, none⟩, cap, ?_, ?_, h2⟩
      · rw [h6, hle, hc]; rfl
      · rw [hle]; exact h7.toV
    · have hg : good bs = false := by unfold good; rw [hl, decide_eq_false hd, Bool.and_false]
      have hle : left bs = [] := by unfold left; rw [hg]; rfl
      have hc : code bs = 20 := by unfold code; rw [if_neg (by omega), hg]; rfl
      refine ⟨none, 0, ?_, ?_, h2⟩
      · rw [h3 (decide_eq_false hd), hle, hc]; rfl
      · rw [hle]; exact OwnV.nil_ _ _
def RStripU (w : World) (bs : List Nat) (e : Ending) (w' : World) : Prop :=
  ∃ A cap, e = .returned (.tuple #[.slice A (left bs).length cap, .int .i64 ((code bs : Nat) : Int)]) ∧ Bys w' w'.heap.size A (left bs).length cap (left bs) ∧ Below w.heap.size w w'
theorem mark_iff (bs : List Nat) (n : Nat) : Pl.mark (bs.take (n - 4)) = bs ↔ Pl.lay 4 (Pl.sum (bs.take (n - 4))) = bs.drop (n - 4) := by
  unfold Pl.mark
  constructor
  · intro h
    have h2 : bs.take (n - 4) ++ Pl.lay 4 (Pl.sum (bs.take (n - 4))) = bs.take (n - 4) ++ bs.drop (n - 4) := by rw [List.take_append_drop]; exact h
    exact List.append_cancel_left h2
  · intro h; rw [h, List.take_append_drop]
theorem rstrip_u (A : Option Addr) (n c : Nat) (bs : List Nat) (w : World) (h1 : Bys w w.heap.size A n c bs) (hr : n ≤ 140737488351240) :
    Calls Tryd.prog 12 #[.slice A n c] w (RStripU w bs) := by
  have hl := h1.len
  by_cases h4 : n < 4
  · have hg : good bs = false := by unfold good; rw [decide_eq_false (by omega)]; rfl
    have hle : left bs = [] := by unfold left; rw [hg]; rfl
    have hc : code bs = 4 := by unfold code; rw [if_pos (by omega)]
    refine (rstrip_short A n c w h4).mono fun e w' ⟨h2, h3⟩ => ?_
    subst h3
    refine ⟨none, 0, ?_, ?_, Below.refl _ _⟩
    · rw [h2, hle, hc]; rfl
    · rw [hle]; exact Bys.none_ _ _
  · refine (rstrip_any A n c (n - 4) bs w h1 (by omega) hr).mono fun e w' ⟨h2, h3, h5⟩ => ?_
    have hm := mark_iff bs n
    by_cases hd : Pl.lay 4 (Pl.sum (bs.take (n - 4))) = bs.drop (n - 4)
    · have hg : good bs = true := by unfold good; rw [hl, decide_eq_true hd, decide_eq_true (by omega)]; rfl
      have hle : left bs = bs.take (n - 4) := by unfold left; rw [hg, hl]; rfl
      have hc : code bs = 0 := by unfold code; rw [if_neg (by omega), hg]; rfl
      obtain ⟨A', cap, h6, h7⟩ := h5 (decide_eq_true (hm.2 hd))
      refine ⟨A', cap, ?_, ?_, h2⟩
      · rw [h6, hle, hc]; rfl
      · rw [hle]; exact h7
    · have hg : good bs = false := by unfold good; rw [hl, decide_eq_false hd, Bool.and_false]
      have hle : left bs = [] := by unfold left; rw [hg]; rfl
      have hc : code bs = 20 := by unfold code; rw [if_neg (by omega), hg]; rfl
      refine ⟨none, 0, ?_, ?_, h2⟩
      · rw [h3 (decide_eq_false (fun h => hd (hm.1 h))), hle, hc]; rfl
      · rw [hle]; exact Bys.none_ _ _

/-- a slice that reads as these bytes -/
def Lies (bs : List Nat) (v : Value) (w : World) : Prop := ∃ A c, v = .slice A bs.length c ∧ Bys w w.heap.size A bs.length c bs
theorem lies_stb (bs : List Nat) : Rg.Stb (Lies bs) := fun _ _ _ ⟨A, c, h1, h2⟩ hb => ⟨A, c, h1, (h2.below hb (Nat.le_refl _)).more hb.size⟩
theorem xor255 (a : Nat) (ha : a < 256) : bits BinOp.xor IntKind.u8 (a : Int) 255 = ((a ^^^ 255 : Nat) : Int) := u8_xor_nat a 255 ha (by omega)
/-- the first loop at its round j: m is being turned -/
def L1 (w2 : World) (g L c : Nat) (b3 : Nat) (sv : Value) (sl : List Nat) (i : Value) (wr : World) : Prop :=
  ∃ (j : Nat) (ms : List Nat), i = .int .i64 (j : Int) ∧ j ≤ L ∧ ms.length = L ∧ Own wr w2.heap.size g c ms ∧ OwnV wr b3 sv sl ∧ Below w2.heap.size w2 wr
/-- the second loop at its round j: s is being turned -/
def L2 (w2 : World) (b3 : Nat) (A : Option Addr) (L c : Nat) (i : Value) (wr : World) : Prop :=
  ∃ (j : Nat) (sl : List Nat), i = .int .i64 (j : Int) ∧ j ≤ L ∧ sl.length = L ∧ OwnV wr b3 (.slice A L c) sl ∧ Below w2.heap.size w2 wr

set_option maxRecDepth 100000 in
set_option maxHeartbeats 8000000 in
theorem walk (w : World) (hT : Tab w) (A : Option Addr) (n c : Nat) (ps : List (List Nat)) (hP : Parts w w.heap.size A n c ps) (htot : ps.flatten.length ≤ 140737488355328) (B : Option Addr) (nb cb : Nat) (bs : List Nat) (hB : Bys w w.heap.size B nb cb bs) (hr : nb ≤ 140737488351232) :
    Calls Tryd.prog 3 #[.slice A n c, .slice B nb cb] w fun e w' => e = .returned (.bool true) ∧ Below w.heap.size w w' := by
  obtain ⟨N, hN1, hmin⟩ : ∃ N : Nat, N ≤ n ∧ ∀ (w' : World) (ts : Array TypeId) (t : TypeId), (Builtin.min_ ts t #[.int .i64 (n : Int), .int .i64 40]).run Tryd.prog w' = .ok (.int .i64 (N : Int)) w' := by
    refine ⟨min n 40, by omega, fun w' ts t => ?_⟩
    rw [run_min_int2]
    have e : (if (40 : Int) < (n : Int) then (40 : Int) else (n : Int)) = ((min n 40 : Nat) : Int) := by split <;> omega
    rw [e]
  have hle := hP.le
  have HB := Lib.hid hB
  have HP := Lib.hid (hP.upto hN1)
  have HJ := Lib.hid (show (ps.take N).flatten.length ≤ 140737488355328 by
    have e2 : ps.flatten = (ps.take N).flatten ++ (ps.drop N).flatten := by rw [← List.flatten_append, List.take_append_drop]
    rw [e2, List.length_append] at htot; omega)
  clear hP hB htot
  obtain ⟨qs, hqs⟩ : ∃ q, q = ps.take N := ⟨_, rfl⟩
  rw [← hqs] at HP HJ
  clear hqs
  have z1 : (0 : Int) ≤ (N : Int) := by omega
  have z2 : (N : Int) ≤ (c : Int) := by omega
  go_enter Tryd.func3, Tryd.ntmps3
  go_wp2_with fail
  clear hmin
  refine (join_any A N c qs w HP.out HJ.out).mono ?_
  rintro e w1 ⟨A5, c5, rfl, hV5, hb1⟩
  have HB1 := Lib.hid ((HB.out.below hb1 (Nat.le_refl _)).more hb1.size)
  have HV := Lib.hid (OwnV.nil_ w1 w1.heap.size)
  have HA5 := Lib.hid hV5.bys.2
  clear hV5
  go_wp2_with (at_builtin; refine wpList_append_bys _ rfl (.const (.slice none 0 0)) (.tmp 22) rfl w1.heap.size _ _ _ [] rfl HV.out w1.heap.size _ _ _ bs rfl HB1.out (by omega) (Nat.le_refl _) ?_)
  intro A6 c6 w2 hV6 hg6 hx6
  have hb2 := below_append HV.out hg6 (Below.refl _ w1) (Nat.le_refl _)
  clear hx6 hg6
  have hV6 : OwnV w2 w1.heap.size (.slice A6 nb c6) bs := by simpa using hV6
  have HA6 := Lib.hid hV6.bys.2
  have hbw2 := below_then hb1 hb2
  have hT2 := hT.below hbw2 hT.pos
  have HA52 := Lib.hid ((HA5.out.below hb2 (Nat.le_refl _)).more hb2.size)
  clear hV6 HA5 HV HB1
  go_wp2_with fail
  refine (mark_any A6 nb c6 bs w2 hT2 HA6.out (by omega)).mono ?_
  rintro e w3 ⟨g7, c7, rfl, hO7, hb3⟩
  have hT3 := hT2.below hb3 hT2.pos
  have HA63 := Lib.hid ((HA6.out.below hb3 (Nat.le_refl _)).more hb3.size)
  go_wp2_with fail
  refine (strip_u A6 nb c6 bs w3 hT3 HA63.out (by omega)).mono ?_
  rintro e w4 ⟨A8, c8, rfl, hV8, hb4⟩
  have hbw4 := below_then hbw2 (below_then hb3 hb4)
  have HB4 := Lib.hid ((HB.out.below hbw4 (Nat.le_refl _)).more hbw4.size)
  go_wp2_with fail
  refine (rstrip_u B nb cb bs w4 HB4.out (by omega)).mono ?_
  rintro e w5 ⟨A9, c9, rfl, hB9, hb5⟩
  have hb25 : Below w2.heap.size w2 w5 := below_then (below_then hb3 hb4) hb5
  have hb35 : Below w3.heap.size w3 w5 := below_then hb4 hb5
  have hbw5 := below_then hbw2 hb25
  have hO75 := hO7.below hb35 hO7.form.2.1
  have hV85 := hV8.below hb5 (fun g hg => (hV8.lt g hg).2)
  have hT5 := hT.below hbw5 hT.pos
  have HB5 := Lib.hid ((HB.out.below hbw5 (Nat.le_refl _)).more hbw5.size)
  have HP5 := Lib.hid ((HP.out.below hbw5 (Nat.le_refl _)).more hbw5.size)
  have HA55 := Lib.hid ((HA52.out.below hb25 (Nat.le_refl _)).more hb25.size)
  have y7 := fun (w' : World) (hk : Below w5.heap.size w5 w') => hO75.bys.str _ rfl w' (kb hk)
  have y8 := fun (w' : World) (hk : Below w5.heap.size w5 w') => hV85.bys.2.str _ rfl w' (kb hk)
  have y9 := fun (w' : World) (hk : Below w5.heap.size w5 w') => hB9.str _ rfl w' (kb hk)
  have HC1 := fun (w' : World) (hk : Below w5.heap.size w5 w') => sum_any A N c qs w' (hT5.kept hT5.pos (kb hk)) ((HP5.out.below hk (Nat.le_refl _)).more hk.size)
  have HC2 := fun (w' : World) (hk : Below w5.heap.size w5 w') => rsum_any A5 qs.flatten.length c5 qs.flatten w' (HA55.out.kept (kb hk))
  have HC3 := fun (w' : World) (hk : Below w5.heap.size w5 w') => rmark_any B nb cb bs w' (HB5.out.kept (kb hk)) (by omega)
  obtain ⟨sm, hsm⟩ : ∃ s, s = strOfNums (ints (Pl.mark bs)) := ⟨_, rfl⟩
  have HSM := Lib.hid hsm
  rw [← hsm] at y7
  clear hsm
  obtain ⟨sl, hsl⟩ : ∃ s, s = strOfNums (ints (left bs)) := ⟨_, rfl⟩
  rw [← hsl] at y8 y9
  clear hsl
  have hidS := Lib.hid (And.intro HC1 (And.intro HC2 HC3))
  have hidY := Lib.hid (And.intro y7 (And.intro y8 y9))
  clear HC1 HC2 HC3 y7 y8 y9
  go_wp2_with fail
  obtain ⟨HC1, HC2, HC3⟩ := hidS.out
  obtain ⟨y7, y8, y9⟩ := hidY.out
  refine Rg.wp_region_inv (fun w' => Below w5.heap.size w5 w') (Rg.Wd.at [.is (.slice A N c), .is (.int .u32 ((Pl.sum qs.flatten : Nat) : Int)), .is (.slice A5 qs.flatten.length c5), .is (.int .u32 ((Pl.sum qs.flatten : Nat) : Int)), .is (.bool true), .is (.bool true), .is (.slice (some ⟨g7, 0, none⟩) (Pl.mark bs).length c7), .is (.string sm), .is (.slice B nb cb), .pred (Lies (Pl.mark bs)) (lies_stb _), .is (.string sm), .is (.bool true), .is (.bool true), .is (.bool true), .is (.slice A8 (left bs).length c8), .is (.string sl), .is (.slice A9 (left bs).length c9), .is (.string sl), .is (.bool true), .is (.bool true), .is (.bool true), .is (.int .i64 ((code bs : Nat) : Int)), .is (.int .i64 ((code bs : Nat) : Int)), .is (.bool true), .is (.bool true), .is (.bool true)]) (by kernel_rfl) (by kernel_rfl) (Rg.Wd.stays _ _) (below_drawn (Below.refl _ w5)) ⟨?_, ?_, ?_, ?_, ?_, ?_, ?_, ?_, ?_, ?_, ?_, ?_, ?_, ?_, ?_, ?_, ?_, ?_, ?_, ?_, ?_, ?_, ?_, ?_, ?_, ?_, trivial⟩ ?_
  · intro a w1 hS hb hd
    have e0 := hb 0 (Rg.nw (by decide))
    simp [Act.eval] at e0
    exact Rg.does_pure (Rg.wanted_none rfl) (by simp [execOp, e0, go_sem]) hS rfl
  · intro a w1 hS hb hd
    have e36 := hd ⟨0, .data⟩ (by simp) rfl _ _ rfl rfl
    have e36 : a.tmps[36]?.getD undef = (.slice A N c) := Rg.slot e36
    refine Rg.does_call (f := 13) (args := #[.slice A N c]) (Rg.wanted_none rfl) (by simp [e36, go_sem]) ?_
    exact (HC1 w1 hS).mono fun e w' ⟨h1, h2⟩ => h2 ▸ ⟨_, h1, rfl, hS, Below.refl _ _⟩
  · intro a w1 hS hb hd
    have e5 := hb 5 (Rg.nw (by decide))
    simp [Act.eval] at e5
    exact Rg.does_pure (Rg.wanted_none rfl) (by simp [execOp, e5, go_sem]) hS rfl
  · intro a w1 hS hb hd
    have e38 := hd ⟨2, .data⟩ (by simp) rfl _ _ rfl rfl
    have e38 : a.tmps[38]?.getD undef = (.slice A5 qs.flatten.length c5) := Rg.slot e38
    refine Rg.does_call (f := 14) (args := #[.slice A5 qs.flatten.length c5]) (Rg.wanted_none rfl) (by simp [e38, go_sem]) ?_
    exact (HC2 w1 hS).mono fun e w' ⟨h1, h2⟩ => h2 ▸ ⟨_, h1, rfl, hS, Below.refl _ _⟩
  · intro a w1 hS hb hd
    have e37 := hd ⟨1, .data⟩ (by simp) rfl _ _ rfl rfl
    have e37 : a.tmps[37]?.getD undef = (.int .u32 ((Pl.sum qs.flatten : Nat) : Int)) := Rg.slot e37
    have e39 := hd ⟨3, .data⟩ (by simp) rfl _ _ rfl rfl
    have e39 : a.tmps[39]?.getD undef = (.int .u32 ((Pl.sum qs.flatten : Nat) : Int)) := Rg.slot e39
    exact Rg.does_pure (Rg.wanted_none rfl) (by simp [execOp, e37, e39, go_sem]) hS rfl
  · intro a w1 hS hb hd
    have e40 := hd ⟨4, .data⟩ (by simp) rfl _ _ rfl rfl
    have e40 : a.tmps[40]?.getD undef = (.bool true) := Rg.slot e40
    exact Rg.does_pure (Rg.wanted_none rfl) (by simp [execOp, e40, go_sem]) hS rfl
  · intro a w1 hS hb hd
    have e7 := hb 7 (Rg.nw (by decide))
    simp [Act.eval] at e7
    have e41 := hd ⟨5, .guard⟩ (by simp) rfl _ _ rfl rfl
    exact Rg.does_pure (Rg.wanted_some rfl rfl rfl e41) (by simp [execOp, e7, go_sem]) hS rfl
  · intro a w1 hS hb hd
    have e42 := hd ⟨6, .data⟩ (by simp) rfl _ _ rfl rfl
    have e42 : a.tmps[42]?.getD undef = (.slice (some ⟨g7, 0, none⟩) (Pl.mark bs).length c7) := Rg.slot e42
    have e41 := hd ⟨5, .guard⟩ (by simp) rfl _ _ rfl rfl
    exact Rg.does_pure (Rg.wanted_some rfl rfl rfl e41) (by simp [execOp, e42, y7 w1 hS, go_sem]) hS rfl
  · intro a w1 hS hb hd
    have e1 := hb 1 (Rg.nw (by decide))
    simp [Act.eval] at e1
    have e41 := hd ⟨5, .guard⟩ (by simp) rfl _ _ rfl rfl
    exact Rg.does_pure (Rg.wanted_some rfl rfl rfl e41) (by simp [execOp, e1, go_sem]) hS rfl
  · intro a w1 hS hb hd
    have e44 := hd ⟨8, .data⟩ (by simp) rfl _ _ rfl rfl
    have e44 : a.tmps[44]?.getD undef = (.slice B nb cb) := Rg.slot e44
    have e41 := hd ⟨5, .guard⟩ (by simp) rfl _ _ rfl rfl
    refine Rg.does_call (f := 15) (args := #[.slice B nb cb]) (Rg.wanted_some rfl rfl rfl e41) (by simp [e44, go_sem]) ?_
    exact (HC3 w1 hS).mono fun e w' ⟨g, cap, h1, h2, h3⟩ => ⟨_, h1, ⟨_, _, rfl, h2.bys⟩, below_then hS h3, h3⟩
  · intro a w1 hS hb hd
    have e45 := hd ⟨9, .data⟩ (by simp) rfl _ _ rfl rfl
    have e41 := hd ⟨5, .guard⟩ (by simp) rfl _ _ rfl rfl
    obtain ⟨Am, cm, em, hm⟩ := e45; have em := Rg.slot em; have ym := hm.conv; rw [← HSM.out] at ym; exact Rg.does_pure (Rg.wanted_some rfl rfl rfl e41) (by simp [execOp, em, ym, go_sem]) hS rfl
  · intro a w1 hS hb hd
    have e43 := hd ⟨7, .data⟩ (by simp) rfl _ _ rfl rfl
    have e43 : a.tmps[43]?.getD undef = (.string sm) := Rg.slot e43
    have e46 := hd ⟨10, .data⟩ (by simp) rfl _ _ rfl rfl
    have e46 : a.tmps[46]?.getD undef = (.string sm) := Rg.slot e46
    have e41 := hd ⟨5, .guard⟩ (by simp) rfl _ _ rfl rfl
    exact Rg.does_pure (Rg.wanted_some rfl rfl rfl e41) (by simp [execOp, e43, e46, go_sem]) hS rfl
  · intro a w1 hS hb hd
    have e41 := hd ⟨5, .data⟩ (by simp) rfl _ _ rfl rfl
    have e41 : a.tmps[41]?.getD undef = (.bool true) := Rg.slot e41
    have e47 := hd ⟨11, .data⟩ (by simp) rfl _ _ rfl rfl
    have e47 : a.tmps[47]?.getD undef = (.bool true) := Rg.slot e47
    exact Rg.does_pure (Rg.wanted_none rfl) (by simp [execOp, e41, e47, go_sem]) hS rfl
  · intro a w1 hS hb hd
    have e48 := hd ⟨12, .data⟩ (by simp) rfl _ _ rfl rfl
    have e48 : a.tmps[48]?.getD undef = (.bool true) := Rg.slot e48
    exact Rg.does_pure (Rg.wanted_none rfl) (by simp [execOp, e48, go_sem]) hS rfl
  · intro a w1 hS hb hd
    have e8 := hb 8 (Rg.nw (by decide))
    simp [Act.eval] at e8
    have e49 := hd ⟨13, .guard⟩ (by simp) rfl _ _ rfl rfl
    exact Rg.does_pure (Rg.wanted_some rfl rfl rfl e49) (by simp [execOp, e8, go_sem]) hS rfl
  · intro a w1 hS hb hd
    have e50 := hd ⟨14, .data⟩ (by simp) rfl _ _ rfl rfl
    have e50 : a.tmps[50]?.getD undef = (.slice A8 (left bs).length c8) := Rg.slot e50
    have e49 := hd ⟨13, .guard⟩ (by simp) rfl _ _ rfl rfl
    exact Rg.does_pure (Rg.wanted_some rfl rfl rfl e49) (by simp [execOp, e50, y8 w1 hS, go_sem]) hS rfl
  · intro a w1 hS hb hd
    have e10 := hb 10 (Rg.nw (by decide))
    simp [Act.eval] at e10
    have e49 := hd ⟨13, .guard⟩ (by simp) rfl _ _ rfl rfl
    exact Rg.does_pure (Rg.wanted_some rfl rfl rfl e49) (by simp [execOp, e10, go_sem]) hS rfl
  · intro a w1 hS hb hd
    have e52 := hd ⟨16, .data⟩ (by simp) rfl _ _ rfl rfl
    have e52 : a.tmps[52]?.getD undef = (.slice A9 (left bs).length c9) := Rg.slot e52
    have e49 := hd ⟨13, .guard⟩ (by simp) rfl _ _ rfl rfl
    exact Rg.does_pure (Rg.wanted_some rfl rfl rfl e49) (by simp [execOp, e52, y9 w1 hS, go_sem]) hS rfl
  · intro a w1 hS hb hd
    have e51 := hd ⟨15, .data⟩ (by simp) rfl _ _ rfl rfl
    have e51 : a.tmps[51]?.getD undef = (.string sl) := Rg.slot e51
    have e53 := hd ⟨17, .data⟩ (by simp) rfl _ _ rfl rfl
    have e53 : a.tmps[53]?.getD undef = (.string sl) := Rg.slot e53
    have e49 := hd ⟨13, .guard⟩ (by simp) rfl _ _ rfl rfl
    exact Rg.does_pure (Rg.wanted_some rfl rfl rfl e49) (by simp [execOp, e51, e53, go_sem]) hS rfl
  · intro a w1 hS hb hd
    have e49 := hd ⟨13, .data⟩ (by simp) rfl _ _ rfl rfl
    have e49 : a.tmps[49]?.getD undef = (.bool true) := Rg.slot e49
    have e54 := hd ⟨18, .data⟩ (by simp) rfl _ _ rfl rfl
    have e54 : a.tmps[54]?.getD undef = (.bool true) := Rg.slot e54
    exact Rg.does_pure (Rg.wanted_none rfl) (by simp [execOp, e49, e54, go_sem]) hS rfl
  · intro a w1 hS hb hd
    have e55 := hd ⟨19, .data⟩ (by simp) rfl _ _ rfl rfl
    have e55 : a.tmps[55]?.getD undef = (.bool true) := Rg.slot e55
    exact Rg.does_pure (Rg.wanted_none rfl) (by simp [execOp, e55, go_sem]) hS rfl
  · intro a w1 hS hb hd
    have e9 := hb 9 (Rg.nw (by decide))
    simp [Act.eval] at e9
    have e56 := hd ⟨20, .guard⟩ (by simp) rfl _ _ rfl rfl
    exact Rg.does_pure (Rg.wanted_some rfl rfl rfl e56) (by simp [execOp, e9, go_sem]) hS rfl
  · intro a w1 hS hb hd
    have e11 := hb 11 (Rg.nw (by decide))
    simp [Act.eval] at e11
    have e56 := hd ⟨20, .guard⟩ (by simp) rfl _ _ rfl rfl
    exact Rg.does_pure (Rg.wanted_some rfl rfl rfl e56) (by simp [execOp, e11, go_sem]) hS rfl
  · intro a w1 hS hb hd
    have e57 := hd ⟨21, .data⟩ (by simp) rfl _ _ rfl rfl
    have e57 : a.tmps[57]?.getD undef = (.int .i64 ((code bs : Nat) : Int)) := Rg.slot e57
    have e58 := hd ⟨22, .data⟩ (by simp) rfl _ _ rfl rfl
    have e58 : a.tmps[58]?.getD undef = (.int .i64 ((code bs : Nat) : Int)) := Rg.slot e58
    have e56 := hd ⟨20, .guard⟩ (by simp) rfl _ _ rfl rfl
    exact Rg.does_pure (Rg.wanted_some rfl rfl rfl e56) (by simp [execOp, e57, e58, go_sem]) hS rfl
  · intro a w1 hS hb hd
    have e56 := hd ⟨20, .data⟩ (by simp) rfl _ _ rfl rfl
    have e56 : a.tmps[56]?.getD undef = (.bool true) := Rg.slot e56
    have e59 := hd ⟨23, .data⟩ (by simp) rfl _ _ rfl rfl
    have e59 : a.tmps[59]?.getD undef = (.bool true) := Rg.slot e59
    exact Rg.does_pure (Rg.wanted_none rfl) (by simp [execOp, e56, e59, go_sem]) hS rfl
  · intro a w1 hS hb hd
    have e60 := hd ⟨24, .data⟩ (by simp) rfl _ _ rfl rfl
    have e60 : a.tmps[60]?.getD undef = (.bool true) := Rg.slot e60
    exact Rg.does_pure (Rg.wanted_none rfl) (by simp [execOp, e60, go_sem]) hS rfl
  intro v w6 hS6 hF
  have h25 : v 25 = .bool true := hF 25 _ _ rfl rfl
  simp only [Rg.putAll, h25]
  simp only [Act.put, List.setIfInBounds_toArray, List.set_cons_succ, List.set_cons_zero]
  clear HC1 HC2 HC3 y7 y8 y9 hF h25 hidS hidY
  have hO76 := hO75.below hS6 hO75.form.2.1
  have hV86 := hV85.below hS6 (fun g hg => (hV85.lt g hg).2)
  have hb26 := below_then hb25 hS6
  have hg7 := hO7.form
  obtain ⟨L, hL⟩ : ∃ L, (Pl.mark bs).length = L := ⟨_, rfl⟩
  obtain ⟨K, hK⟩ : ∃ K, (left bs).length = K := ⟨_, rfl⟩
  have hLr : L ≤ 140737488355328 := by have := Pl.mark_len bs; have := HB.out.len; omega
  have hKr : K ≤ 140737488355328 := by have := left_len bs; have := HB.out.len; omega
  have HLL := Lib.hid hL
  have HKK := Lib.hid hK
  rw [hL, hK]
  rw [hK] at hV86
  clear hL hK hO75 hV85 hO7 hV8 hB9 hT5 HB5 HP5 HA55 hb25 hb35 hS6 hT2 hT3 hbw4 HB4 HA63 HA52 hb3 hb4 hb5 HP HJ
  go_wp2_with fail
  go_loopw [13] (fun i wr => L1 w2 g7 L c7 w3.heap.size (.slice A8 K c8) (left bs) i wr) (fun i _ => L - (intOf i).toNat)
  case atStart => exact ⟨0, Pl.mark bs, rfl, by omega, HLL.out, hO76, hV86, hb26⟩
  case round =>
    obtain ⟨j, ms, rfl, hj, hml, hO, hV, hb⟩ := hrel
    have HML := Lib.hid hml
    clear hml
    by_cases hlt : j < L
    · have hbq := Pl.oct_getD hO.oct j
      have e1 := xor255 _ hbq
      have hx : ms.getD j 0 ^^^ 255 < 256 := Pl.byte_xor hbq (by omega)
      have hset := hO.set_ j _ hx
      have hf := hO.1.frozenAt j
      have hc := hO.1.cellAt j (by rw [HML.out]; omega)
      rw [cells_at _ _ (by rw [HML.out]; omega)] at hc
      obtain ⟨x, hx0⟩ : ∃ x, x = ms.getD j 0 ^^^ 255 := ⟨_, rfl⟩
      rw [← hx0] at e1 hset
      clear hx0 hx
      obtain ⟨b, hb0⟩ : ∃ b, b = ms.getD j 0 := ⟨_, rfl⟩
      rw [← hb0] at e1 hc hbq
      clear hb0
      have HSET := Lib.hid hset
      have HV := Lib.hid (hV.grown hset.2 (by
        cases hA : Value.ownBlock (.slice A8 K c8) with
        | none => exact .inl rfl
        | some q => exact .inr (fun e => by have h1 := (hV.lt q hA).1; have h2 := Option.some.inj e; omega)))
      clear hset hO hV
      go_wp2_with fail
      go_roundw
      case rel => exact ⟨j + 1, ms.set j x, by go_num, by omega, by rw [List.length_set]; exact HML.out, HSET.out.1, HV.out, hb.grown HSET.out.2 hb.size (fun q e => by cases e; exact hg7.1)⟩
      case measure => simp [intOf]; omega
    · clear hO HML hj
      go_wp2_with fail
      go_loopw [14] (fun i wr => L2 w2 w3.heap.size A8 K c8 i wr) (fun i _ => K - (intOf i).toNat)
      case atStart => exact ⟨0, left bs, rfl, by omega, HKK.out, hV, hb⟩
      case round =>
        obtain ⟨j2, sl2, rfl, hj2, hsl2, hV2, hb2r⟩ := hrel
        have HSL := Lib.hid hsl2
        clear hsl2
        by_cases hlt2 : j2 < K
        · obtain ⟨g8, hA8, hK8, hO8⟩ := hV2.pos_ (by rw [HSL.out]; omega)
          subst hA8
          clear hK8
          have hbq := Pl.oct_getD hO8.oct j2
          have e1 := xor255 _ hbq
          have hx : sl2.getD j2 0 ^^^ 255 < 256 := Pl.byte_xor hbq (by omega)
          have hset := hO8.set_ j2 _ hx
          have hf := hO8.1.frozenAt j2
          have hc := hO8.1.cellAt j2 (by rw [HSL.out]; omega)
          rw [cells_at _ _ (by rw [HSL.out]; omega)] at hc
          obtain ⟨x, hx0⟩ : ∃ x, x = sl2.getD j2 0 ^^^ 255 := ⟨_, rfl⟩
          rw [← hx0] at e1 hset
          clear hx0 hx
          obtain ⟨b, hb0⟩ : ∃ b, b = sl2.getD j2 0 := ⟨_, rfl⟩
          rw [← hb0] at e1 hc hbq
          clear hb0
          have hg8 := hO8.form
          have HV3 := Lib.hid (show OwnV _ w3.heap.size (.slice (some ⟨g8, 0, none⟩) K c8) (sl2.set j2 x) by
            have := hset.1.toV
            rwa [List.length_set, HSL.out] at this)
          have HSET := Lib.hid hset.2
          clear hset hO8 hV2
          go_wp2_with fail
          go_roundw
          case rel => exact ⟨j2 + 1, sl2.set j2 x, by go_num, by omega, by rw [List.length_set]; exact HSL.out, HV3.out, hb2r.grown HSET.out hb2r.size (fun q e => by cases e; omega)⟩
          case measure => simp [intOf]; omega
        · clear hV2 HSL
          have hbwr := below_then hbw2 hb2r
          have k6 := (HA6.out.below hb2r (Nat.le_refl _)).conv
          have k1 := (HB.out.below hbwr (Nat.le_refl _)).conv
          obtain ⟨s, hs⟩ : ∃ s, s = strOfNums (ints bs) := ⟨_, rfl⟩
          rw [← hs] at k6 k1
          clear hs
          have HW := Lib.hid (wakes_any _ (hT.below hbwr hT.pos))
          go_wp2_with fail
          refine HW.out.mono ?_
          rintro e w9 ⟨rfl, hb9⟩
          go_wp2_with fail
          go_ret
          exact ⟨rfl, below_then hbwr hb9⟩
end Go.Proofs.YtghllmdbhhaofaaDoor.crcCalls
