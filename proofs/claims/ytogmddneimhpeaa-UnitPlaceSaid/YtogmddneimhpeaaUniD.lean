/-
  Contract of unit.Apply. Condition: the text has at most 100000 code points.
-/
import Derived.Test.YtogmddneimhpeaaUniC
import Derived.BigQuiet
namespace Go.Proofs.Ytogmddneimhpeaa
open Go.RowKit
open Pl (Un)


/-- t[:k] -/
theorem Crs.to_ {w : World} {B n c k : Nat} {A : Option Addr} {bs : List Int} (h : Crs w B A n c bs) (hk : k ≤ n) (u : Int) (hu : u = (k : Int)) :
    ∃ A2, Crs w B A2 k c (bs.take k) ∧ ∀ w', (Instr.sliceAt 22 (.slice A n c) none (some (.int .i64 u)) none).run Try.prog w' = .ok (.slice A2 k c) w' := by
  subst hu
  have hle := h.le
  obtain ⟨i0, hi, _⟩ := info_parts infoChar
  have hu : Try.prog.underlying 22 = some (.slice (Try.prog.elem 22)) := by kernel_rfl
  have he : Try.prog.elem 22 = 29 := by kernel_rfl
  have hrun : ∀ w', (Instr.sliceAt 22 (.slice A n c) none (some (.int .i64 (k : Int))) none).run Try.prog w' = .ok (sliced A 0 k c 1) w' := by
    intro w'
    rw [run_sliceAt_slice w' _ _ _ _ _ hu, run_slice_h w' 22 A n c hu .i64 (k : Int) (by omega) (by omega), he, run_sizeOf w' hi]
    simp [Result.andThen, cellsChar]
  have hl := h.len
  have hJ : ∀ x ∈ bs.take k, Pl.J x := fun x hx => h.js x (List.mem_of_mem_take hx)
  have hA : ∀ A2 : Option Addr, (A2 = A.map (·.add 0) ∨ A2 = A) → (A2 = none → c = 0) := fun A2 e hn => by
    cases A with
    | none => exact h.nil_ rfl
    | some ad => rcases e with e | e <;> rw [e] at hn <;> cases hn
  have hcell : ∀ A2 : Option Addr, (A2 = A.map (·.add 0) ∨ A2 = A) → 0 < k → ∃ g o, A2 = some ⟨g, o, none⟩ ∧ g < B ∧ ∀ i, i < k → w.cell? ⟨g, o + i, none⟩ = some (.int .i32 ((bs.take k).getD i 0)) := fun A2 e h0 => by
    obtain ⟨g, o, e2, hg, hc⟩ := h.at_ (i := 0) (by omega)
    subst e2
    refine ⟨g, o, ?_, hg, fun i hi => ?_⟩
    · rcases e with e | e
      · rw [e]; rfl
      · exact e
    · rw [hc i (by omega), List.getD_eq_getElem?_getD, List.getD_eq_getElem?_getD, List.getElem?_take, if_pos hi]
  by_cases hc0 : c = 0
  · exact ⟨A, ⟨by rw [List.length_take]; omega, by omega, h.cap, hA A (Or.inr rfl), hJ, hcell A (Or.inr rfl)⟩, fun w' => by rw [hrun]; simp [sliced, hc0]⟩
  · exact ⟨A.map (·.add 0), ⟨by rw [List.length_take]; omega, by omega, h.cap, hA _ (Or.inl rfl), hJ, hcell _ (Or.inl rfl)⟩, fun w' => by rw [hrun]; simp [sliced, hc0]⟩
/-- t[k:] -/
theorem Crs.from_ {w : World} {B n c k : Nat} {A : Option Addr} {bs : List Int} (h : Crs w B A n c bs) (hk : k ≤ n) (u : Int) (hu : u = (k : Int)) :
    ∃ A2, Crs w B A2 (n - k) (c - k) (bs.drop k) ∧ ∀ w', (Instr.sliceAt 22 (.slice A n c) (some (.int .i64 u)) none none).run Try.prog w' = .ok (.slice A2 (n - k) (c - k)) w' := by
  subst hu
  have hle := h.le
  obtain ⟨i0, hi, _⟩ := info_parts infoChar
  have hu : Try.prog.underlying 22 = some (.slice (Try.prog.elem 22)) := by kernel_rfl
  have he : Try.prog.elem 22 = 29 := by kernel_rfl
  have hrun : ∀ w', (Instr.sliceAt 22 (.slice A n c) (some (.int .i64 (k : Int))) none none).run Try.prog w' = .ok (sliced A k n c 1) w' := by
    intro w'
    rw [run_sliceAt_slice w' _ _ _ _ _ hu, run_slice_l w' 22 A n c hu .i64 (k : Int) (by omega) (by omega), he, run_sizeOf w' hi]
    simp [Result.andThen, cellsChar]
  have hl := h.len
  have hc := h.cap
  have hJ : ∀ x ∈ bs.drop k, Pl.J x := fun x hx => h.js x (List.mem_of_mem_drop hx)
  by_cases hck : c = k
  · refine ⟨A, ?_, fun w' => by rw [hrun]; simp [sliced, hck]⟩
    exact ⟨by rw [List.length_drop, hl], by omega, by omega, (fun _ => by omega), hJ, fun h => absurd h (by omega)⟩
  · refine ⟨A.map (·.add k), ?_, fun w' => by rw [hrun]; simp [sliced, hck]⟩
    refine ⟨by rw [List.length_drop, hl], by omega, Nat.le_trans (Nat.sub_le _ _) hc, (fun e => ?_), hJ, fun h0 => ?_⟩
    · cases A with
      | none => have := h.nil_ rfl; omega
      | some ad => cases e
    · obtain ⟨g, o, e, hg, hcell⟩ := h.at_ (i := k) (by omega)
      subst e
      refine ⟨g, o + k, by rw [← Addr.add_lit g o k]; rfl, hg, fun i hi => ?_⟩
      rw [Nat.add_assoc, hcell (k + i) (by omega), List.getD_eq_getElem?_getD, List.getD_eq_getElem?_getD, List.getElem?_drop]

theorem _root_.Go.RowKit.Below.dn {B : Nat} {w w' : World} (h : Below B w w') (n : Nat) : Below B w (w'.drewN n) := ⟨h.os, h.tape, h.output, h.size, h.block⟩
theorem one_crs (W : World) (x : Int) (hx : Pl.J x) : Crs (W.alloc (.cells #[.int .i32 x] 29)) (W.heap.size + 1) (some ⟨W.heap.size, 0, none⟩) 1 1 [x] := by
  have h := (crs_lit W [x] (fun y hy => by rw [List.mem_singleton] at hy; rw [hy]; exact hx) (by simp [maxLen])).crs.2
  exact h.more (by simp)
theorem parts_two (W : World) (A1 A2 : Option Addr) (n1 c1 n2 c2 : Nat) (l1 l2 : List Int) (h1 : Crs W W.heap.size A1 n1 c1 l1) (h2 : Crs W W.heap.size A2 n2 c2 l2) :
    Parts (W.alloc (.cells #[.slice A1 n1 c1, .slice A2 n2 c2] 22)) W.heap.size [⟨A1, n1, c1, l1⟩, ⟨A2, n2, c2, l2⟩] := by
  refine ⟨by simp, fun j hj => ?_⟩
  have hb := below_box W (.cells #[.slice A1 n1 c1, .slice A2 n2 c2] 22)
  have hrow : (W.alloc (.cells #[.slice A1 n1 c1, .slice A2 n2 c2] 22)).heap[W.heap.size]? = some (.cells #[.slice A1 n1 c1, .slice A2 n2 c2] 22 (0, 0)) := heap_new rfl
  rcases j with _ | _ | j
  · exact ⟨by rw [cell_of_row _ _ _ _ _ _ hrow]; rfl, h1.then_ hb⟩
  · exact ⟨by rw [cell_of_row _ _ _ _ _ _ hrow]; rfl, h2.then_ hb⟩
  · exact absurd hj (by simp only [List.length_cons, List.length_nil]; omega)
theorem parts_three (W : World) (A1 A2 : Option Addr) (n1 c1 n2 c2 : Nat) (l1 l2 : List Int) (x : Int) (hx : Pl.J x) (h1 : Crs W W.heap.size A1 n1 c1 l1) (h2 : Crs W W.heap.size A2 n2 c2 l2) :
    Parts ((W.alloc (.cells #[.int .i32 x] 29)).alloc (.cells #[.slice A1 n1 c1, .slice (some ⟨W.heap.size, 0, none⟩) 1 1, .slice A2 n2 c2] 22)) (W.heap.size + 1) [⟨A1, n1, c1, l1⟩, ⟨some ⟨W.heap.size, 0, none⟩, 1, 1, [x]⟩, ⟨A2, n2, c2, l2⟩] := by
  have hb := below_box (W.alloc (.cells #[.int .i32 x] 29)) (.cells #[.slice A1 n1 c1, .slice (some ⟨W.heap.size, 0, none⟩) 1 1, .slice A2 n2 c2] 22)
  have hb0 := below_box W (.cells #[.int .i32 x] 29)
  have hrow : ((W.alloc (.cells #[.int .i32 x] 29)).alloc (.cells #[.slice A1 n1 c1, .slice (some ⟨W.heap.size, 0, none⟩) 1 1, .slice A2 n2 c2] 22)).heap[W.heap.size + 1]? = some (.cells #[.slice A1 n1 c1, .slice (some ⟨W.heap.size, 0, none⟩) 1 1, .slice A2 n2 c2] 22 (0, 0)) := heap_new (by simp)
  refine ⟨lt_of_block hrow, fun j hj => ?_⟩
  rcases j with _ | _ | _ | j
  · exact ⟨by rw [cell_of_row _ _ _ _ _ _ hrow]; rfl, (h1.then_ hb0).then_ hb⟩
  · exact ⟨by rw [cell_of_row _ _ _ _ _ _ hrow]; rfl, Crs.then_ ((one_crs W x hx).more (by simp)) hb⟩
  · exact ⟨by rw [cell_of_row _ _ _ _ _ _ hrow]; rfl, (h2.then_ hb0).then_ hb⟩
  · exact absurd hj (by simp only [List.length_cons, List.length_nil]; omega)

set_option maxRecDepth 100000 in
set_option maxHeartbeats 400000 in
theorem apply_any (u : Un) (A : Option Addr) (n c : Nat) (cs : List Int) (w : World) (hu : Pl.J u.c) (h : Crs w w.heap.size A n c cs) (hr : n ≤ 100000) :
    Calls Try.prog 36 #[uval u, .slice A n c] w fun e w' => ∃ A' m c', e = .returned (.tuple #[.slice A' m c', .int .i64 (Pl.applyE u n)]) ∧ OwnC w' w.heap.size (.slice A' m c') (Pl.applyT u cs) ∧ Below w.heap.size w w' := by
  have hcap := h.cap
  have hle := h.le
  unfold maxLen at hcap
  have HL := Lib.hid h.len
  have H := Lib.hid h
  have HM := fun w => Lib.hid (okay_any u w)
  have HF := fun w => Lib.hid (fits_any u n w)
  clear h
  obtain ⟨k, p, x, y, z⟩ := u
  have HU := Lib.hid (uat_new w k p x y z)
  by_cases hO : Pl.Okay ⟨k, p, x, y, z⟩
  · rw [decide_eq_true hO] at HM
    by_cases hF : Pl.Fit ⟨k, p, x, y, z⟩ n
    · rw [decide_eq_true hF] at HF
      have HE := Lib.hid (show Pl.applyE ⟨k, p, x, y, z⟩ n = 0 by unfold Pl.applyE; rw [if_pos hO, if_pos hF])
      have HT := Lib.hid (show Pl.applyT ⟨k, p, x, y, z⟩ cs = Pl.behind ⟨k, p, x, y, z⟩ cs by unfold Pl.applyT; rw [HL.out, if_pos hF])
      obtain ⟨q, hq, hqn⟩ : ∃ q : Nat, p = (q : Int) ∧ q ≤ n := by
        unfold Pl.Fit Pl.Okay at hF
        refine ⟨p.toNat, ?_, ?_⟩ <;> (simp only at hF; omega)
      have HK := Lib.hid (show k = 0 ∨ k = 1 ∨ k = 2 ∧ q + 1 ≤ n by
        unfold Pl.Fit Pl.Okay at hF
        simp only at hF; omega)
      subst hq
      obtain ⟨A1, hC1, hs1⟩ := H.out.to_ hqn (q : Int) rfl
      obtain ⟨A2, hC2, hs2⟩ := H.out.from_ hqn (q : Int) rfl
      have HC1 := Lib.hid hC1
      have HC2 := Lib.hid hC2
      clear hO hF hC1 hC2
      unfold uval at HM HF ⊢
      simp only at HM HF hu ⊢
      have HJ := Lib.hid hu
      clear hu
      go_enter Try.func36, Try.ntmps36
      go_wp2_with fail
      refine (HM _).out.mono ?_
      rintro e w1 ⟨rfl, hb1⟩
      have HB1 := Lib.hid (below_on hb1)
      have HU1 := Lib.hid (HU.out.then_ hb1)
      obtain ⟨c0, c1, c2, c3, c4⟩ := HU1.out.cells
      clear hb1
      go_wp2_with fail
      refine (HF _).out.mono ?_
      rintro e w2 ⟨rfl, hb2⟩
      have HB2 := Lib.hid (HB1.out.trans (hb2.mono HB1.out.size))
      obtain ⟨d0, d1, d2, d3, d4⟩ := (HU1.out.then_ hb2).cells
      have HUL := Lib.hid (HU1.out.then_ hb2).lt
      clear hb2 c0 c1 c2 c3 c4 HM HF
      go_wp2_with fail
      go_quiet (fail)
      rcases HK.out with hk | hk | ⟨hk, hq1⟩
      · subst hk
        have HCL := Lib.hid (cloneC_any A n c cs (w2.drewN nq) (H.out.then_ (HB2.out.dn nq)) (by omega))
        go_wp2_with fail
        refine HCL.out.mono ?_
        rintro e w3 ⟨A3, c5, rfl, hO3, hb3⟩
        have HB3 := Lib.hid ((HB2.out.dn nq).trans (hb3.mono (HB2.out.dn nq).size))
        have HO3 := Lib.hid (hO3.lower (base' := w.heap.size) (HB2.out.dn nq).size)
        clear hb3 hO3
        go_wp2_with fail
        go_ret2
        exact ⟨_, _, _, by rw [HE.out]; rfl, by rw [HT.out]; exact HO3.out, HB3.out⟩
      · subst hk
        have HX := Lib.hid (parts_three (w2.drewN nq) A1 A2 q c (n - q) (c - q) (cs.take q) (cs.drop q) x HJ.out (HC1.out.then_ (HB2.out.dn nq)) (HC2.out.then_ (HB2.out.dn nq)))
        have HUP := Lib.hid (show upto [⟨A1, q, c, cs.take q⟩, ⟨some ⟨(w2.drewN nq).heap.size, 0, none⟩, 1, 1, [x]⟩, ⟨A2, n - q, c - q, cs.drop q⟩] 3 = cs.take q ++ x :: cs.drop q by unfold upto; simp)
        have HCC := Lib.hid (concat_any _ _ 3 _ HX.out (by simp) (by rw [show [(⟨A1, q, c, cs.take q⟩ : Part), ⟨some ⟨(w2.drewN nq).heap.size, 0, none⟩, 1, 1, [x]⟩, ⟨A2, n - q, c - q, cs.drop q⟩].length = 3 from rfl, HUP.out]; have := HL.out; simp; omega))
        clear HX
        go_wp2_with fail
        refine HCC.out.mono ?_
        rintro e w3 ⟨A3, c5, rfl, hO3, hb3⟩
        have HB3 := Lib.hid ((below_alloc (below_alloc (HB2.out.dn nq) _) _).trans (hb3.mono (below_alloc (below_alloc (HB2.out.dn nq) _) _).size))
        have HO3 := Lib.hid (hO3.lower (base' := w.heap.size) (below_alloc (below_alloc (HB2.out.dn nq) _) _).size)
        clear hb3 hO3
        go_wp2_with fail
        go_ret2
        exact ⟨_, _, _, by rw [HE.out]; rfl, by rw [HT.out]; have := HO3.out; rw [(show Pl.behind ⟨1, (q : Int), x, y, z⟩ cs = cs.take q ++ x :: cs.drop q by unfold Pl.behind; simp).trans HUP.out.symm]; exact this, HB3.out⟩
      · subst hk
        obtain ⟨A4, hC4, hs4⟩ := HC2.out.from_ (k := 1) (by omega) 1 rfl
        obtain ⟨l3, hl3⟩ : ∃ l3, l3 = (cs.drop q).drop 1 := ⟨_, rfl⟩
        rw [← hl3] at hC4
        have HL3 := Lib.hid (show l3 = cs.drop (q + 1) by rw [hl3, List.drop_drop])
        clear hl3
        have HX := Lib.hid (parts_two (w2.drewN nq) A1 A4 q c (n - q - 1) (c - q - 1) (cs.take q) l3 (HC1.out.then_ (HB2.out.dn nq)) (hC4.then_ (HB2.out.dn nq)))
        have HUP := Lib.hid (show upto [⟨A1, q, c, cs.take q⟩, ⟨A4, n - q - 1, c - q - 1, l3⟩] 2 = cs.take q ++ l3 by unfold upto; simp)
        have HCC := Lib.hid (concat_any _ _ 2 _ HX.out (by simp) (by rw [show [(⟨A1, q, c, cs.take q⟩ : Part), ⟨A4, n - q - 1, c - q - 1, l3⟩].length = 2 from rfl, HUP.out, HL3.out]; have := HL.out; simp; omega))
        clear HX hC4
        have z1 : (1 : Int) ≤ ((n - q : Nat) : Int) := by omega
        go_wp2_with fail
        refine HCC.out.mono ?_
        rintro e w3 ⟨A3, c5, rfl, hO3, hb3⟩
        have HB3 := Lib.hid ((below_alloc (HB2.out.dn nq) _).trans (hb3.mono (below_alloc (HB2.out.dn nq) _).size))
        have HO3 := Lib.hid (hO3.lower (base' := w.heap.size) (below_alloc (HB2.out.dn nq) _).size)
        clear hb3 hO3
        go_wp2_with fail
        go_ret2
        exact ⟨_, _, _, by rw [HE.out]; rfl, by rw [HT.out]; have := HO3.out; rw [(show Pl.behind ⟨2, (q : Int), x, y, z⟩ cs = cs.take q ++ l3 by rw [HL3.out]; unfold Pl.behind; simp).trans HUP.out.symm]; exact this, HB3.out⟩
    · rw [decide_eq_false hF] at HF
      have HE := Lib.hid (show Pl.applyE ⟨k, p, x, y, z⟩ n = 30 by unfold Pl.applyE; rw [if_pos hO, if_neg hF])
      have HT := Lib.hid (show Pl.applyT ⟨k, p, x, y, z⟩ cs = [] by unfold Pl.applyT; rw [HL.out, if_neg hF])
      clear hO hF
      unfold uval at HM HF ⊢
      simp only at HM HF ⊢
      go_enter Try.func36, Try.ntmps36
      go_wp2_with fail
      refine (HM _).out.mono ?_
      rintro e w1 ⟨rfl, hb1⟩
      have HB1 := Lib.hid (below_on hb1)
      obtain ⟨c0, c1, c2, c3, c4⟩ := (HU.out.then_ hb1).cells
      clear hb1
      go_wp2_with fail
      refine (HF _).out.mono ?_
      rintro e w2 ⟨rfl, hb2⟩
      have HB2 := Lib.hid (HB1.out.trans (hb2.mono HB1.out.size))
      clear hb2
      go_wp2_with fail
      go_ret2
      exact ⟨none, 0, 0, by rw [HE.out]; rfl, by rw [HT.out]; exact OwnC.nil_ _ _, HB2.out⟩
  · rw [decide_eq_false hO] at HM
    have HE := Lib.hid (show Pl.applyE ⟨k, p, x, y, z⟩ n = 1 by unfold Pl.applyE; rw [if_neg hO])
    have HT := Lib.hid (show Pl.applyT ⟨k, p, x, y, z⟩ cs = [] by unfold Pl.applyT; rw [if_neg (fun h => hO h.1)])
    clear hO
    unfold uval at HM HF ⊢
    simp only at HM HF ⊢
    go_enter Try.func36, Try.ntmps36
    go_wp2_with fail
    refine (HM _).out.mono ?_
    rintro e w1 ⟨rfl, hb1⟩
    have HB1 := Lib.hid (below_on hb1)
    clear hb1
    go_wp2_with fail
    go_ret2
    exact ⟨none, 0, 0, by rw [HE.out]; rfl, by rw [HT.out]; exact OwnC.nil_ _ _, HB1.out⟩
end Go.Proofs.Ytogmddneimhpeaa
