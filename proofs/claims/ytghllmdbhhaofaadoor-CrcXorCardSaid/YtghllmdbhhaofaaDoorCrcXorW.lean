/-
  The walk of copybooklaw02.CrcXor: it returns true for any three rows of bytes; nothing that was there turned. Condition: the table stands in crc.steps.
-/
import Derived.Test.YtghllmdbhhaofaaDoorCrcV
import Derived.RegionTactic
import Derived.ChangeAlike
import Derived.Test.YtghllmdbhhaofaaDoorBaseR
namespace Go.Proofs.YtghllmdbhhaofaaDoor.crcXor
open Go.RowKit

theorem xor8 (a b : Nat) (ha : a < 256) (hb : b < 256) : bits BinOp.xor IntKind.u8 (a : Int) (b : Int) = ((a ^^^ b : Nat) : Int) := u8_xor_nat a b ha hb
/-- the loop at its round j -/
def XRel (w : World) (X : List Nat) (N g : Nat) (i : Value) (wr : World) : Prop :=
  ∃ j : Nat, i = .int .i64 (j : Int) ∧ j ≤ N ∧ Own wr w.heap.size g N (X.take j ++ List.replicate (N - j) 0) ∧ Below w.heap.size w wr

set_option maxRecDepth 100000 in
set_option maxHeartbeats 4000000 in
theorem walk (w : World) (hT : Tab w) (A : Option Addr) (na ca : Nat) (xa : List Nat) (hA : Bys w w.heap.size A na ca xa) (hra : na ≤ 140737488351232) (B : Option Addr) (nb cb : Nat) (xb : List Nat) (hB : Bys w w.heap.size B nb cb xb) (_hrb : nb ≤ 140737488351232)
    (C : Option Addr) (nc cc : Nat) (xc : List Nat) (hC : Bys w w.heap.size C nc cc xc) (_hrc : nc ≤ 140737488351232) :
    Calls Tryd.prog 5 #[.slice A na ca, .slice B nb cb, .slice C nc cc] w fun e w' => e = .returned (.bool true) ∧ Below w.heap.size w w' := by
  obtain ⟨N, hN1, hN2, hN3, hmin⟩ : ∃ N : Nat, N ≤ na ∧ N ≤ nb ∧ N ≤ nc ∧ ∀ (w' : World) (ts : Array TypeId) (t : TypeId), (Builtin.min_ ts t #[.int .i64 (na : Int), .int .i64 (nb : Int), .int .i64 (nc : Int)]).run Tryd.prog w' = .ok (.int .i64 (N : Int)) w' := by
    refine ⟨min (min na nb) nc, by omega, by omega, by omega, fun w' ts t => ?_⟩
    rw [run_min_int3]
    have e : (if (nc : Int) < (if (nb : Int) < (na : Int) then (nb : Int) else (na : Int)) then (nc : Int) else (if (nb : Int) < (na : Int) then (nb : Int) else (na : Int))) = ((min (min na nb) nc : Nat) : Int) := by
      split <;> split <;> omega
    rw [e]
  have HA := Lib.hid hA
  have HB := Lib.hid hB
  have HC := Lib.hid hC
  have hla := hA.le
  have hlb := hB.le
  have hlc := hC.le
  clear hA hB hC
  have HA1 := Lib.hid (HA.out.upto hN1)
  have HB1 := Lib.hid (HB.out.upto hN2)
  have HC1 := Lib.hid (HC.out.upto hN3)
  obtain ⟨X, hX⟩ : ∃ X, X = Pl.xors (xa.take N) (xb.take N) (xc.take N) := ⟨_, rfl⟩
  have HXl := Lib.hid (show X.length = N by rw [hX, Pl.xors_len _ _ _ (by rw [HA1.out.len, HB1.out.len]) (by rw [HA1.out.len, HC1.out.len]), HA1.out.len])
  have HXo := Lib.hid (show Pl.Oct X by rw [hX]; exact Pl.xors_oct _ _ _ HA1.out.oct HB1.out.oct HC1.out.oct)
  have HXs := Lib.hid (show Pl.sum X = Pl.sum (xa.take N) ^^^ Pl.sum (xb.take N) ^^^ Pl.sum (xc.take N) by
    rw [hX]; exact Pl.sum_xors _ _ _ HA1.out.oct HB1.out.oct HC1.out.oct (by rw [HA1.out.len, HB1.out.len]) (by rw [HA1.out.len, HC1.out.len]) (Pl.xors_oct _ _ _ HA1.out.oct HB1.out.oct HC1.out.oct))
  have HXg := Lib.hid (show ∀ i, i < N → X.getD i 0 = (xa.take N).getD i 0 ^^^ (xb.take N).getD i 0 ^^^ (xc.take N).getD i 0 by
    intro i hi
    rw [hX]; exact Pl.xors_getD _ _ _ (by rw [HA1.out.len, HB1.out.len]) (by rw [HA1.out.len, HC1.out.len]) i (by rw [HA1.out.len]; exact hi))
  clear hX
  obtain ⟨i0, hi, hz0, hz1, hz2⟩ := info_parts infoByte
  have HI := Lib.hid (show i0.bytes * N ≤ 281474976710656 by rw [hz2]; omega)
  clear hz2
  go_enter Tryd.func5, Tryd.ntmps5
  go_wp2_with (at_make; refine wpList_make_full _ rfl (.tmp 17) (.tmp 17) 23 rfl w.heap.size 5 i0 (.int .u8 0) 1 Tryd.underlying23 hi hz0 hz1 .i64 .i64 _ _ N rfl rfl rfl rfl ?c2 ?c3 ?c4 ?_)
  case c2 => exact HI.out
  case c3 => unfold maxLen; omega
  case c4 => exact Nat.le_refl _
  intro w1 o1 g1
  have hb1 : Below w.heap.size w w1 := (Below.refl _ w).grown g1 (Nat.le_refl _) (fun k e => by cases e)
  rw [toList_madeCells_one] at o1
  have O1 : Own w1 w.heap.size w.heap.size N (List.replicate N 0) := by
    refine ⟨?_, fun x hx => by rw [List.eq_of_mem_replicate hx]; omega⟩
    rw [List.length_replicate, show cellsOf (List.replicate N 0) = List.replicate N (Value.int IntKind.u8 0) by simp [cellsOf]]; exact o1
  clear o1 g1 hz0 hz1 hi hmin
  go_wp2_with fail
  go_loopw [9] (fun i wr => XRel w X N w.heap.size i wr) (fun i _ => N - (intOf i).toNat)
  case atStart => exact ⟨0, rfl, by omega, O1, hb1⟩
  case round =>
    obtain ⟨j, rfl, hj, hO, hb⟩ := hrel
    by_cases hlt : j < N
    · have ha := Pl.oct_getD HA1.out.oct j
      have hbb := Pl.oct_getD HB1.out.oct j
      have hcb := Pl.oct_getD HC1.out.oct j
      obtain ⟨ga, oa, hAe, hga, hca⟩ := HA1.out.at_ hlt
      obtain ⟨gb, ob, hBe, hgb, hcb2⟩ := HB1.out.at_ hlt
      obtain ⟨gc, oc, hCe, hgc, hcc⟩ := HC1.out.at_ hlt
      subst hAe hBe hCe
      have q1 := (hb.cell (p := ⟨ga, oa + j, none⟩) hga).trans (hca j hlt)
      have q2 := (hb.cell (p := ⟨gb, ob + j, none⟩) hgb).trans (hcb2 j hlt)
      have q3 := (hb.cell (p := ⟨gc, oc + j, none⟩) hgc).trans (hcc j hlt)
      have HG := Lib.hid (HXg.out j hlt)
      obtain ⟨a, ha0⟩ : ∃ a, a = (xa.take N).getD j 0 := ⟨_, rfl⟩
      obtain ⟨b, hb0⟩ : ∃ a, a = (xb.take N).getD j 0 := ⟨_, rfl⟩
      obtain ⟨c, hc0⟩ : ∃ a, a = (xc.take N).getD j 0 := ⟨_, rfl⟩
      rw [← ha0] at ha q1
      rw [← hb0] at hbb q2
      rw [← hc0] at hcb q3
      rw [← ha0, ← hb0, ← hc0] at HG
      clear ha0 hb0 hc0 hca hcb2 hcc
      have e1 := xor8 a b ha hbb
      have e2 := xor8 (a ^^^ b) c (Pl.byte_xor ha hbb) hcb
      rw [← HG.out] at e2
      have hx : X.getD j 0 < 256 := Pl.oct_getD HXo.out j
      have hset := hO.set_ j (X.getD j 0) hx
      have hf := hO.1.frozenAt j
      have hll : (X.take j ++ List.replicate (N - j) 0).length = N := by
        rw [List.length_append, List.length_take, List.length_replicate, HXl.out]; omega
      obtain ⟨v, hc⟩ : ∃ v, wr.cell? ⟨w.heap.size, j, none⟩ = some v := by
        have h1 := hO.1.cellAt j (by rw [hll]; omega)
        rw [h1, cells_at _ _ (by rw [hll]; omega)]
        exact ⟨_, rfl⟩
      have HSN := Lib.hid (show X.take (j + 1) = X.take j ++ [X.getD j 0] from Pl.take_snoc _ _ (by rw [HXl.out]; omega))
      have HE := Lib.hid (show (X.take j ++ List.replicate (N - j) 0).set j (X.getD j 0) = X.take (j + 1) ++ List.replicate (N - (j + 1)) 0 by
        have hl : (X.take j).length = j := by rw [List.length_take, HXl.out]; omega
        rw [List.set_append_right _ _ (by rw [hl]; omega), hl, Nat.sub_self, show N - j = (N - (j + 1)) + 1 by omega, List.replicate_succ, List.set_cons_zero, HSN.out, List.append_assoc]; rfl)
      obtain ⟨x, hx0⟩ : ∃ x, x = X.getD j 0 := ⟨_, rfl⟩
      rw [← hx0] at e2 hset HE
      clear hx0
      obtain ⟨ab, hab⟩ : ∃ x, x = a ^^^ b := ⟨_, rfl⟩
      rw [← hab] at e1 e2
      clear hab
      have HSET := Lib.hid hset
      have HO := Lib.hid hO
      clear hset hO hll
      have z0 : (0 : Int) ≤ (j : Int) := by omega
      have z1 : (j : Int) < (na : Int) := by omega
      have z2 : (j : Int) < (nb : Int) := by omega
      have z3 : (j : Int) < (nc : Int) := by omega
      have z4 : (j : Int) < (N : Int) := by omega
      go_wp2_with fail
      go_region
      go_wp2_with fail
      go_roundw
      case rel =>
        refine ⟨j + 1, by go_num, by omega, ?_, ?_⟩
        · rw [← HE.out]; exact HSET.out.1
        · exact below_drawn (hb.grown HSET.out.2 hb.size (fun q e => by cases e; exact Nat.le_refl _))
      case measure => simp [intOf]; omega
    · obtain rfl : j = N := by omega
      rw [Nat.sub_self, List.replicate_zero, List.append_nil, List.take_of_length_le (by rw [HXl.out]; exact Nat.le_refl _)] at hO
      have hT1 := hT.below hb hT.pos
      have hX1 := hO.bys
      rw [HXl.out] at hX1
      have hA1 := (HA1.out.below hb (Nat.le_refl _)).more hb.size
      have hB1 := (HB1.out.below hb (Nat.le_refl _)).more hb.size
      have hC1 := (HC1.out.below hb (Nat.le_refl _)).more hb.size
      have z1 : (0 : Int) ≤ (j : Int) := by omega
      have z2 : (j : Int) ≤ (ca : Int) := by omega
      have z3 : (j : Int) ≤ (cb : Int) := by omega
      have z4 : (j : Int) ≤ (cc : Int) := by omega
      have x1 := xor32 (Pl.sum (xa.take j)) (Pl.sum (xb.take j)) (Pl.sum_W _) (Pl.sum_W _)
      have x2 := xor32 (Pl.sum (xa.take j) ^^^ Pl.sum (xb.take j)) (Pl.sum (xc.take j)) (Pl.W_xor (Pl.sum_W _) (Pl.sum_W _)) (Pl.sum_W _)
      rw [← HXs.out] at x2
      have HS1 := fun (w' : World) (g : Nat) (hk : Below wr.heap.size wr w') (hc : w'.cell? ⟨g, 0, none⟩ = some (.slice (some ⟨w.heap.size, 0, none⟩) j j)) => sum_cell w' g _ _ _ X (hT1.kept hT1.pos (kb hk)) hc (hX1.kept (kb hk))
      have HS2 := fun (w' : World) (g : Nat) (hk : Below wr.heap.size wr w') (hc : w'.cell? ⟨g, 0, none⟩ = some (.slice A j ca)) => sum_cell w' g _ _ _ (xa.take j) (hT1.kept hT1.pos (kb hk)) hc (hA1.kept (kb hk))
      have HS3 := fun (w' : World) (g : Nat) (hk : Below wr.heap.size wr w') (hc : w'.cell? ⟨g, 0, none⟩ = some (.slice B j cb)) => sum_cell w' g _ _ _ (xb.take j) (hT1.kept hT1.pos (kb hk)) hc (hB1.kept (kb hk))
      have HS4 := fun (w' : World) (g : Nat) (hk : Below wr.heap.size wr w') (hc : w'.cell? ⟨g, 0, none⟩ = some (.slice C j cc)) => sum_cell w' g _ _ _ (xc.take j) (hT1.kept hT1.pos (kb hk)) hc (hC1.kept (kb hk))
      have HWK := fun (w' : World) (hk : Below wr.heap.size wr w') => wakes_any w' (hT1.kept hT1.pos (kb hk))
      have hidS := Lib.hid (And.intro HS1 (And.intro HS2 (And.intro HS3 (And.intro HS4 HWK))))
      have hidX := Lib.hid (And.intro x1 x2)
      clear HXl HXs HXg HA1 HB1 HC1 O1 HI HXo HA HB HC HS1 HS2 HS3 HS4 HWK x1 x2 hO hX1 hA1 hB1 hC1
      go_wp2_with fail
      obtain ⟨HS1, HS2, HS3, HS4, HWK⟩ := hidS.out
      obtain ⟨x1, x2⟩ := hidX.out
      refine Rg.wp_region_inv (fun w' => Below wr.heap.size wr w') (Rg.Wd.at [.is (.slice (some ⟨w.heap.size, 0, none⟩) j j), .cell 1 [.slice (some ⟨w.heap.size, 0, none⟩) j j], .is (.int .u32 ((Pl.sum X : Nat) : Int)), .is (.slice A na ca), .is (.int .i64 (j : Int)), .is (.slice A j ca), .cell 1 [.slice A j ca], .is (.int .u32 ((Pl.sum (xa.take j) : Nat) : Int)), .is (.slice B nb cb), .is (.int .i64 (j : Int)), .is (.slice B j cb), .cell 1 [.slice B j cb], .is (.int .u32 ((Pl.sum (xb.take j) : Nat) : Int)), .is (.int .u32 ((Pl.sum (xa.take j) ^^^ Pl.sum (xb.take j) : Nat) : Int)), .is (.slice C nc cc), .is (.int .i64 (j : Int)), .is (.slice C j cc), .cell 1 [.slice C j cc], .is (.int .u32 ((Pl.sum (xc.take j) : Nat) : Int)), .is (.int .u32 ((Pl.sum X : Nat) : Int)), .is (.bool true), .is (.bool true), .is (.bool true), .is (.bool true), .is (.bool true)]) (by kernel_rfl) (by kernel_rfl) (Rg.Wd.stays _ _) (below_drawn (Below.refl _ wr)) ⟨?_, ?_, ?_, ?_, ?_, ?_, ?_, ?_, ?_, ?_, ?_, ?_, ?_, ?_, ?_, ?_, ?_, ?_, ?_, ?_, ?_, ?_, ?_, ?_, ?_, trivial⟩ ?_
      · intro a w1 hS hb hd
        have e8 := hb 8 (Rg.nw (by decide))
        simp [Act.eval] at e8
        exact Rg.does_pure (Rg.wanted_none rfl) (by simp [execOp, e8, go_sem]) hS rfl
      · intro a w1 hS hb hd
        have e41 := hd ⟨0, .data⟩ (by simp) rfl _ _ rfl rfl
        have e41 : a.tmps[41]?.getD undef = (.slice (some ⟨w.heap.size, 0, none⟩) j j) := Rg.slot e41
        exact Rg.does_new (x := .slice (some ⟨w1.heap.size, 0, none⟩) 1 1) (ob := .cells #[.slice (some ⟨w.heap.size, 0, none⟩) j j] 23) (Rg.wanted_none rfl) (by simp [execOp, e41, go_sem]) (below_alloc hS _) ⟨_, rfl, rfl, fun i x hi => by
          rcases i with _ | i
          · simp at hi; subst hi; simp [go_sem]
          · simp at hi⟩
      · intro a w1 hS hb hd
        have e42 := hd ⟨1, .data⟩ (by simp) rfl _ _ rfl rfl
        obtain ⟨g42, f42, l42, c42⟩ := e42
        have e42 := Rg.slot f42
        refine Rg.does_call (f := 13) (args := #[.slice (some ⟨g42, 0, none⟩) 1 1]) (Rg.wanted_none rfl) (by simp [e42, go_sem]) ?_
        exact (HS1 w1 g42 hS (c42 0 _ rfl)).mono fun e w' ⟨h1, h2⟩ => h2 ▸ ⟨_, h1, rfl, hS, Below.refl _ _⟩
      · intro a w1 hS hb hd
        have e0 := hb 0 (Rg.nw (by decide))
        simp [Act.eval] at e0
        exact Rg.does_pure (Rg.wanted_none rfl) (by simp [execOp, e0, go_sem]) hS rfl
      · intro a w1 hS hb hd
        have e7 := hb 7 (Rg.nw (by decide))
        simp [Act.eval] at e7
        exact Rg.does_pure (Rg.wanted_none rfl) (by simp [execOp, e7, go_sem]) hS rfl
      · intro a w1 hS hb hd
        have e44 := hd ⟨3, .data⟩ (by simp) rfl _ _ rfl rfl
        have e44 : a.tmps[44]?.getD undef = (.slice A na ca) := Rg.slot e44
        have e45 := hd ⟨4, .data⟩ (by simp) rfl _ _ rfl rfl
        have e45 : a.tmps[45]?.getD undef = (.int .i64 (j : Int)) := Rg.slot e45
        exact Rg.does_pure (Rg.wanted_none rfl) (by simp [execOp, e44, e45, z1, z2, go_sem]) hS rfl
      · intro a w1 hS hb hd
        have e46 := hd ⟨5, .data⟩ (by simp) rfl _ _ rfl rfl
        have e46 : a.tmps[46]?.getD undef = (.slice A j ca) := Rg.slot e46
        exact Rg.does_new (x := .slice (some ⟨w1.heap.size, 0, none⟩) 1 1) (ob := .cells #[.slice A j ca] 23) (Rg.wanted_none rfl) (by simp [execOp, e46, go_sem]) (below_alloc hS _) ⟨_, rfl, rfl, fun i x hi => by
          rcases i with _ | i
          · simp at hi; subst hi; simp [go_sem]
          · simp at hi⟩
      · intro a w1 hS hb hd
        have e47 := hd ⟨6, .data⟩ (by simp) rfl _ _ rfl rfl
        obtain ⟨g47, f47, l47, c47⟩ := e47
        have e47 := Rg.slot f47
        refine Rg.does_call (f := 13) (args := #[.slice (some ⟨g47, 0, none⟩) 1 1]) (Rg.wanted_none rfl) (by simp [e47, go_sem]) ?_
        exact (HS2 w1 g47 hS (c47 0 _ rfl)).mono fun e w' ⟨h1, h2⟩ => h2 ▸ ⟨_, h1, rfl, hS, Below.refl _ _⟩
      · intro a w1 hS hb hd
        have e1 := hb 1 (Rg.nw (by decide))
        simp [Act.eval] at e1
        exact Rg.does_pure (Rg.wanted_none rfl) (by simp [execOp, e1, go_sem]) hS rfl
      · intro a w1 hS hb hd
        have e7 := hb 7 (Rg.nw (by decide))
        simp [Act.eval] at e7
        exact Rg.does_pure (Rg.wanted_none rfl) (by simp [execOp, e7, go_sem]) hS rfl
      · intro a w1 hS hb hd
        have e49 := hd ⟨8, .data⟩ (by simp) rfl _ _ rfl rfl
        have e49 : a.tmps[49]?.getD undef = (.slice B nb cb) := Rg.slot e49
        have e50 := hd ⟨9, .data⟩ (by simp) rfl _ _ rfl rfl
        have e50 : a.tmps[50]?.getD undef = (.int .i64 (j : Int)) := Rg.slot e50
        exact Rg.does_pure (Rg.wanted_none rfl) (by simp [execOp, e49, e50, z1, z3, go_sem]) hS rfl
      · intro a w1 hS hb hd
        have e51 := hd ⟨10, .data⟩ (by simp) rfl _ _ rfl rfl
        have e51 : a.tmps[51]?.getD undef = (.slice B j cb) := Rg.slot e51
        exact Rg.does_new (x := .slice (some ⟨w1.heap.size, 0, none⟩) 1 1) (ob := .cells #[.slice B j cb] 23) (Rg.wanted_none rfl) (by simp [execOp, e51, go_sem]) (below_alloc hS _) ⟨_, rfl, rfl, fun i x hi => by
          rcases i with _ | i
          · simp at hi; subst hi; simp [go_sem]
          · simp at hi⟩
      · intro a w1 hS hb hd
        have e52 := hd ⟨11, .data⟩ (by simp) rfl _ _ rfl rfl
        obtain ⟨g52, f52, l52, c52⟩ := e52
        have e52 := Rg.slot f52
        refine Rg.does_call (f := 13) (args := #[.slice (some ⟨g52, 0, none⟩) 1 1]) (Rg.wanted_none rfl) (by simp [e52, go_sem]) ?_
        exact (HS3 w1 g52 hS (c52 0 _ rfl)).mono fun e w' ⟨h1, h2⟩ => h2 ▸ ⟨_, h1, rfl, hS, Below.refl _ _⟩
      · intro a w1 hS hb hd
        have e48 := hd ⟨7, .data⟩ (by simp) rfl _ _ rfl rfl
        have e48 : a.tmps[48]?.getD undef = (.int .u32 ((Pl.sum (xa.take j) : Nat) : Int)) := Rg.slot e48
        have e53 := hd ⟨12, .data⟩ (by simp) rfl _ _ rfl rfl
        have e53 : a.tmps[53]?.getD undef = (.int .u32 ((Pl.sum (xb.take j) : Nat) : Int)) := Rg.slot e53
        exact Rg.does_pure (Rg.wanted_none rfl) (by simp [execOp, e48, e53, x1, go_sem]) hS rfl
      · intro a w1 hS hb hd
        have e2 := hb 2 (Rg.nw (by decide))
        simp [Act.eval] at e2
        exact Rg.does_pure (Rg.wanted_none rfl) (by simp [execOp, e2, go_sem]) hS rfl
      · intro a w1 hS hb hd
        have e7 := hb 7 (Rg.nw (by decide))
        simp [Act.eval] at e7
        exact Rg.does_pure (Rg.wanted_none rfl) (by simp [execOp, e7, go_sem]) hS rfl
      · intro a w1 hS hb hd
        have e55 := hd ⟨14, .data⟩ (by simp) rfl _ _ rfl rfl
        have e55 : a.tmps[55]?.getD undef = (.slice C nc cc) := Rg.slot e55
        have e56 := hd ⟨15, .data⟩ (by simp) rfl _ _ rfl rfl
        have e56 : a.tmps[56]?.getD undef = (.int .i64 (j : Int)) := Rg.slot e56
        exact Rg.does_pure (Rg.wanted_none rfl) (by simp [execOp, e55, e56, z1, z4, go_sem]) hS rfl
      · intro a w1 hS hb hd
        have e57 := hd ⟨16, .data⟩ (by simp) rfl _ _ rfl rfl
        have e57 : a.tmps[57]?.getD undef = (.slice C j cc) := Rg.slot e57
        exact Rg.does_new (x := .slice (some ⟨w1.heap.size, 0, none⟩) 1 1) (ob := .cells #[.slice C j cc] 23) (Rg.wanted_none rfl) (by simp [execOp, e57, go_sem]) (below_alloc hS _) ⟨_, rfl, rfl, fun i x hi => by
          rcases i with _ | i
          · simp at hi; subst hi; simp [go_sem]
          · simp at hi⟩
      · intro a w1 hS hb hd
        have e58 := hd ⟨17, .data⟩ (by simp) rfl _ _ rfl rfl
        obtain ⟨g58, f58, l58, c58⟩ := e58
        have e58 := Rg.slot f58
        refine Rg.does_call (f := 13) (args := #[.slice (some ⟨g58, 0, none⟩) 1 1]) (Rg.wanted_none rfl) (by simp [e58, go_sem]) ?_
        exact (HS4 w1 g58 hS (c58 0 _ rfl)).mono fun e w' ⟨h1, h2⟩ => h2 ▸ ⟨_, h1, rfl, hS, Below.refl _ _⟩
      · intro a w1 hS hb hd
        have e54 := hd ⟨13, .data⟩ (by simp) rfl _ _ rfl rfl
        have e54 : a.tmps[54]?.getD undef = (.int .u32 ((Pl.sum (xa.take j) ^^^ Pl.sum (xb.take j) : Nat) : Int)) := Rg.slot e54
        have e59 := hd ⟨18, .data⟩ (by simp) rfl _ _ rfl rfl
        have e59 : a.tmps[59]?.getD undef = (.int .u32 ((Pl.sum (xc.take j) : Nat) : Int)) := Rg.slot e59
        exact Rg.does_pure (Rg.wanted_none rfl) (by simp [execOp, e54, e59, x2, go_sem]) hS rfl
      · intro a w1 hS hb hd
        have e43 := hd ⟨2, .data⟩ (by simp) rfl _ _ rfl rfl
        have e43 : a.tmps[43]?.getD undef = (.int .u32 ((Pl.sum X : Nat) : Int)) := Rg.slot e43
        have e60 := hd ⟨19, .data⟩ (by simp) rfl _ _ rfl rfl
        have e60 : a.tmps[60]?.getD undef = (.int .u32 ((Pl.sum X : Nat) : Int)) := Rg.slot e60
        exact Rg.does_pure (Rg.wanted_none rfl) (by simp [execOp, e43, e60, go_sem]) hS rfl
      · intro a w1 hS hb hd
        have e61 := hd ⟨20, .data⟩ (by simp) rfl _ _ rfl rfl
        have e61 : a.tmps[61]?.getD undef = (.bool true) := Rg.slot e61
        exact Rg.does_pure (Rg.wanted_none rfl) (by simp [execOp, e61, go_sem]) hS rfl
      · intro a w1 hS hb hd
        have e62 := hd ⟨21, .guard⟩ (by simp) rfl _ _ rfl rfl
        refine Rg.does_call (f := 16) (args := #[]) (Rg.wanted_some rfl rfl rfl e62) (by simp [go_sem]) ?_
        exact (HWK w1 hS).mono fun e w' ⟨h1, h2⟩ => ⟨_, h1, rfl, below_then hS h2, h2⟩
      · intro a w1 hS hb hd
        have e62 := hd ⟨21, .data⟩ (by simp) rfl _ _ rfl rfl
        have e62 : a.tmps[62]?.getD undef = (.bool true) := Rg.slot e62
        have e63 := hd ⟨22, .data⟩ (by simp) rfl _ _ rfl rfl
        have e63 : a.tmps[63]?.getD undef = (.bool true) := Rg.slot e63
        exact Rg.does_pure (Rg.wanted_none rfl) (by simp [execOp, e62, e63, go_sem]) hS rfl
      · intro a w1 hS hb hd
        have e64 := hd ⟨23, .data⟩ (by simp) rfl _ _ rfl rfl
        have e64 : a.tmps[64]?.getD undef = (.bool true) := Rg.slot e64
        exact Rg.does_pure (Rg.wanted_none rfl) (by simp [execOp, e64, go_sem]) hS rfl
      · intro v w7 hS hF
        have h24 : v 24 = .bool true := hF 24 _ _ rfl rfl
        simp only [Rg.putAll, h24]
        simp only [Act.put, List.setIfInBounds_toArray, List.set_cons_succ, List.set_cons_zero]
        clear HS1 HS2 HS3 HS4 HWK x1 x2 hF h24
        go_wp2_with fail
        go_ret
        exact ⟨rfl, below_then hb hS⟩
end Go.Proofs.YtghllmdbhhaofaaDoor.crcXor
