/-
  Marks.Copy: ones of their own with the same; none of none. Conditions: none but the marks'.
-/
import Derived.Test.YtfjnliebgndemaaMkZ
import Derived.Test.YtfjnliebgndemaaBaseR
namespace Go.Proofs.Ytfjnliebgndemaa
open Go.RowKit

theorem cloneM {w : World} {b : Nat} {M : Pl.Mks} (h : w.ownsMap Try.prog 32 (plainElem (H := Unit) Try.prog 3) b M.length (dat M)) :
    Calls Try.prog 29 #[.map (some b)] w fun e w' => e = .returned (.map (some w.heap.size)) ∧ w'.ownsMap Try.prog 32 (plainElem (H := Unit) Try.prog 3) w.heap.size M.length (dat M) ∧ Below w.heap.size w w' :=
  (AnyW.maps_Clone_owns Try.laysClone 32 _ b _ _ w h).mono fun _ _ ⟨h1, h2, _, h4⟩ => ⟨h1, h2, h4⟩
theorem own_then {w w' : World} {b n : Nat} {D : DataW Unit} (h : w.ownsMap Try.prog 32 (plainElem (H := Unit) Try.prog 3) b n D) (hb : Below w.heap.size w w') : w'.ownsMap Try.prog 32 (plainElem (H := Unit) Try.prog 3) b n D := by
  have hl := h.lt
  obtain ⟨es, clock, h1, h2⟩ := h
  exact ⟨es, clock, below_old hb h1 hl, h2⟩
def CmN (B : Nat) (M : Pl.Mks) (v : Value) (w : World) : Prop := ∃ b, v = .map (some b) ∧ B ≤ b ∧ w.ownsMap Try.prog 32 (plainElem (H := Unit) Try.prog 3) b M.length (dat M)
def CmS (B : Nat) (N : Int) (M : Pl.Mks) (v : Value) (w : World) : Prop := ∃ b, v = .agg #[.int .i64 N, .map (some b)] ∧ B ≤ b ∧ w.ownsMap Try.prog 32 (plainElem (H := Unit) Try.prog 3) b M.length (dat M)
def CmP (B : Nat) (N : Int) (M : Pl.Mks) (v : Value) (w : World) : Prop := ∃ q b, v = .pointer (some ⟨q, 0, none⟩) ∧ B ≤ q ∧ B ≤ b ∧ MarksW w q b N M
theorem CmN.stb {B : Nat} {M : Pl.Mks} : Rg.Stb (CmN B M) := fun _ _ _ ⟨b, e, h1, h⟩ hb => ⟨b, e, h1, own_then h hb⟩
theorem CmS.stb {B : Nat} {N : Int} {M : Pl.Mks} : Rg.Stb (CmS B N M) := fun _ _ _ ⟨b, e, h1, h⟩ hb => ⟨b, e, h1, own_then h hb⟩
theorem CmP.stb {B : Nat} {N : Int} {M : Pl.Mks} : Rg.Stb (CmP B N M) := fun _ _ _ ⟨q, b, e, h1, h2, h⟩ hb => ⟨q, b, e, h1, h2, h.then_ hb⟩
variable {w : World} {p b : Nat} {N : Int} {M : Pl.Mks}
set_option maxRecDepth 100000 in
set_option maxHeartbeats 400000 in
theorem copyM (h : MarksW w p b N M) :
    Calls Try.prog 16 #[.pointer (some ⟨p, 0, none⟩)] w fun e w' => ∃ q b', e = .returned (.pointer (some ⟨q, 0, none⟩)) ∧ w.heap.size ≤ q ∧ w.heap.size ≤ b' ∧ MarksW w' q b' N M ∧ Below w.heap.size w w' := by
  have HN := Lib.hid (none_marks h)
  have HP := Lib.hid h
  clear h
  go_enter Try.func16, Try.ntmps16
  go_wp2_with fail
  refine HN.out.mono ?_
  rintro e w' ⟨rfl, hw⟩
  rw [hw]
  clear hw
  go_wp2_with fail
  refine Rg.wp_region_inv (Below w.heap.size w) (Rg.Wd.at [.is (.pointer (some ⟨p, 0, none⟩)), .is (.pointer (some ⟨p, 0, none⟩)), .is (.pointer (some ⟨p, 0, none⟩)), .is (.int .i64 N), .is (.pointer (some ⟨p, 0, none⟩)), .is (.pointer (some ⟨p, 0, none⟩)), .is (.pointer (some ⟨p, 1, none⟩)), .is (.map (some b)), .pred (CmN w.heap.size M) CmN.stb, .pred (CmS w.heap.size N M) CmS.stb, .pred (CmP w.heap.size N M) CmP.stb, .pred (CmP w.heap.size N M) CmP.stb]) (by kernel_rfl) (by kernel_rfl) (Rg.Wd.stays _ _) ((below_drawn (Below.refl _ _))) ⟨?_, ?_, ?_, ?_, ?_, ?_, ?_, ?_, ?_, ?_, ?_, ?_, trivial⟩ ?_
  · intro a w1 hS hb hd
    have e0 := hb 0 (Rg.nw (by decide))
    simp [Act.eval] at e0
    exact Rg.does_pure (Rg.wanted_none rfl) (by simp [execOp, e0, go_sem]) hS rfl
  · intro a w1 hS hb hd
    have e5 := hd ⟨0, .data⟩ (by simp) rfl _ _ rfl rfl
    have e5 : a.tmps[5]?.getD undef = (.pointer (some ⟨p, 0, none⟩)) := Rg.slot e5
    exact Rg.does_pure (Rg.wanted_none rfl) (by simp [execOp, e5, go_sem]) hS rfl
  · intro a w1 hS hb hd
    have e6 := hd ⟨1, .data⟩ (by simp) rfl _ _ rfl rfl
    have e6 : a.tmps[6]?.getD undef = (.pointer (some ⟨p, 0, none⟩)) := Rg.slot e6
    exact Rg.does_pure (Rg.wanted_none rfl) (by simp [execOp, e6, go_sem]) hS rfl
  · intro a w1 hS hb hd
    have e7 := hd ⟨2, .data⟩ (by simp) rfl _ _ rfl rfl
    have e7 : a.tmps[7]?.getD undef = (.pointer (some ⟨p, 0, none⟩)) := Rg.slot e7
    exact Rg.does_pure (Rg.wanted_none rfl) (by simp [execOp, e7, (HP.out.then_ hS).cells.1, go_sem]) hS rfl
  · intro a w1 hS hb hd
    have e0 := hb 0 (Rg.nw (by decide))
    simp [Act.eval] at e0
    exact Rg.does_pure (Rg.wanted_none rfl) (by simp [execOp, e0, go_sem]) hS rfl
  · intro a w1 hS hb hd
    have e9 := hd ⟨4, .data⟩ (by simp) rfl _ _ rfl rfl
    have e9 : a.tmps[9]?.getD undef = (.pointer (some ⟨p, 0, none⟩)) := Rg.slot e9
    exact Rg.does_pure (Rg.wanted_none rfl) (by simp [execOp, e9, go_sem]) hS rfl
  · intro a w1 hS hb hd
    have e10 := hd ⟨5, .data⟩ (by simp) rfl _ _ rfl rfl
    have e10 : a.tmps[10]?.getD undef = (.pointer (some ⟨p, 0, none⟩)) := Rg.slot e10
    exact Rg.does_pure (Rg.wanted_none rfl) (by simp [execOp, e10, go_sem]) hS rfl
  · intro a w1 hS hb hd
    have e11 := hd ⟨6, .data⟩ (by simp) rfl _ _ rfl rfl
    have e11 : a.tmps[11]?.getD undef = (.pointer (some ⟨p, 1, none⟩)) := Rg.slot e11
    exact Rg.does_pure (Rg.wanted_none rfl) (by simp [execOp, e11, (HP.out.then_ hS).cells.2, go_sem]) hS rfl
  · intro a w1 hS hb hd
    have e12 := hd ⟨7, .data⟩ (by simp) rfl _ _ rfl rfl
    have e12 : a.tmps[12]?.getD undef = (.map (some b)) := Rg.slot e12
    refine Rg.does_call (f := 29) (args := #[.map (some b)]) (Rg.wanted_none rfl) (by simp [e12, go_sem]) ?_
    refine (cloneM (HP.out.then_ hS).own).mono ?_; rintro e w3 ⟨rfl, ho, hb⟩; exact ⟨_, rfl, ⟨_, rfl, below_size hS, ho⟩, below_then hS hb, hb⟩
  · intro a w1 hS hb hd
    have e8 := hd ⟨3, .data⟩ (by simp) rfl _ _ rfl rfl
    have e8 : a.tmps[8]?.getD undef = (.int .i64 N) := Rg.slot e8
    have e13 := hd ⟨8, .data⟩ (by simp) rfl _ _ rfl rfl
    obtain ⟨b3, e1, h1, ho⟩ := e13; have e3 := Rg.slot e1; exact Rg.does_pure (Rg.wanted_none rfl) (by simp [execOp, e8, e3, go_sem]) hS ⟨b3, rfl, h1, ho⟩
  · intro a w1 hS hb hd
    have e14 := hd ⟨9, .data⟩ (by simp) rfl _ _ rfl rfl
    obtain ⟨b3, e1, h1, ho⟩ := e14; have e3 := Rg.slot e1; exact Rg.does_new (x := .pointer (some ⟨w1.heap.size, 0, none⟩)) (ob := .cells #[.int .i64 N, .map (some b3)] 65) (Rg.wanted_none rfl) (by simp [execOp, e3, go_sem]) (below_alloc hS _) ⟨w1.heap.size, b3, rfl, below_size hS, h1, heap_new rfl, ho.alloc _, HP.out.ok⟩
  · intro a w1 hS hb hd
    have e15 := hd ⟨10, .data⟩ (by simp) rfl _ _ rfl rfl
    obtain ⟨q, b3, e1, h1, h2, h3⟩ := e15; have e3 := Rg.slot e1; exact Rg.does_pure (Rg.wanted_none rfl) (by simp [execOp, e3, go_sem]) hS ⟨q, b3, rfl, h1, h2, h3⟩
  · intro v w3 hS hv
    obtain ⟨q, b', e1, h1, h2, h3⟩ := hv 11 _ _ rfl rfl
    have H1 := Lib.hid h1
    have H2 := Lib.hid h2
    have H3 := Lib.hid h3
    have HB := Lib.hid hS
    clear hS hv h1 h2 h3
    simp only [Rg.putAll, Nat.zero_add, Nat.reduceAdd]
    simp only [Act.put, List.setIfInBounds_toArray, List.set_cons_succ, List.set_cons_zero]
    rw [e1]
    clear e1
    go_wp2_with fail
    go_ret
    exact ⟨q, b', rfl, H1.out, H2.out, H3.out, HB.out⟩
set_option maxRecDepth 100000 in
set_option maxHeartbeats 400000 in
theorem copyM_non {v : Option Addr} (h : NonM w (.pointer v)) :
    Calls Try.prog 16 #[.pointer v] w fun e w' => e = .returned (.pointer none) ∧ w' = w := by
  have HN := Lib.hid (none_nonM h)
  clear h
  go_enter Try.func16, Try.ntmps16
  go_wp2_with fail
  refine HN.out.mono ?_
  rintro e w' ⟨rfl, rfl⟩
  go_wp2_with fail
  go_ret
  exact ⟨rfl, rfl⟩
set_option maxRecDepth 100000 in
set_option maxHeartbeats 400000 in
theorem allM_non {v : Option Addr} (h : NonM w (.pointer v)) :
    Calls Try.prog 19 #[.pointer v] w fun e w' => e = .returned (.slice none 0 0) ∧ w' = w := by
  have HN := Lib.hid (none_nonM h)
  clear h
  go_enter Try.func19, Try.ntmps19
  go_wp2_with fail
  refine HN.out.mono ?_
  rintro e w' ⟨rfl, rfl⟩
  go_wp2_with fail
  go_ret
  exact ⟨rfl, rfl⟩
set_option maxRecDepth 100000 in
set_option maxHeartbeats 400000 in
theorem goM_non {v : Option Addr} (h : NonM w (.pointer v)) (B : Option Addr) (m d : Nat) :
    Calls Try.prog 11 #[.pointer v, .slice B m d] w fun e w' => e = .returned (.int .i64 2) ∧ w' = w := by
  have HN := Lib.hid (none_nonM h)
  clear h
  go_enter Try.func11, Try.ntmps11
  go_wp2_with fail
  refine HN.out.mono ?_
  rintro e w' ⟨rfl, rfl⟩
  go_wp2_with fail
  go_ret
  exact ⟨rfl, rfl⟩
end Go.Proofs.Ytfjnliebgndemaa
