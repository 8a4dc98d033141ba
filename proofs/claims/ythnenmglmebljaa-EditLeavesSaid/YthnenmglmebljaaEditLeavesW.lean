/-
  The walk of EditLeaves: whatever comes in, it returns true; nothing that was there turned. Conditions: those that it states.
-/
import Derived.Test.YthnenmglmebljaaEdU
import Derived.BigQuiet
namespace Go.Proofs.Ythnenmglmebljaa
open Go.RowKit
open Pl (Un)

namespace editLeaves
theorem IdAt.then_ {w w' : World} {b : Nat} {x y : Int} (h : IdAt w b x y) (hb : Below w.heap.size w w') : IdAt w' b x y := h.below hb (lt_of_block h)
theorem typeE_at (P : Nat) (ds : List Int) (h : ds.length ≤ 256) : Pl.typeE (P : Int) ds = if ∀ c ∈ ds, Pl.May c then 0 else 21 := by
  have e : Pl.wrongE (P : Int) (ds.length : Int) = 0 := by unfold Pl.wrongE; rw [if_neg (by omega), if_neg (by omega)]
  unfold Pl.typeE
  rw [e]; rfl
theorem wrongE_at (P Q : Nat) (h : Q ≤ 256) : Pl.wrongE (P : Int) (Q : Int) = 0 := by unfold Pl.wrongE; rw [if_neg (by omega), if_neg (by omega)]
theorem replE_at (P N : Nat) (ds : List Int) (h : N + ds.length ≤ 256) (hm : ∀ c ∈ ds, Pl.May c) : Pl.replE (P : Int) (N : Int) ds = 0 := by
  unfold Pl.replE
  rw [wrongE_at P N (by omega), typeE_at P ds (by omega), if_pos hm, Int.toNat_natCast, if_neg (show ¬ 256 < N + ds.length by omega)]
  rfl
theorem tmod_nat (a b : Nat) : (a : Int).tmod (b : Int) = ((a % b : Nat) : Int) := by
  rw [Int.tmod_eq_emod_of_nonneg (by omega)]; rfl
theorem type_J {p x y : Int} {ds : List Int} (h : ∀ c ∈ ds, Pl.J c) : ∀ u ∈ Pl.typeL p ds x y, Pl.J u.c := fun u hu => by
  obtain ⟨i, _, rfl⟩ := List.mem_map.1 hu
  exact js_getD h i
theorem erase_J {p x y : Int} {n : Nat} : ∀ u ∈ Pl.eraseL p n x y, Pl.J u.c := fun u hu => by
  rw [List.eq_of_mem_replicate hu]; unfold Pl.J; simp only; omega
set_option maxRecDepth 100000 in
/-- t[k:] of code points -/
theorem tail_ {w : World} {B n c k : Nat} {A : Option Addr} {bs : List Int} (h : Crs w B A n c bs) (hk : k ≤ n) (l : Int) (hl : l = (k : Int)) :
    ∃ A2, Crs w B A2 (n - k) (c - k) (bs.drop k) ∧ ∀ w', (Instr.sliceAt 22 (.slice A n c) (some (.int .i64 l)) none none).run Try.prog w' = .ok (.slice A2 (n - k) (c - k)) w' := by
  subst hl
  have hle := h.le
  obtain ⟨i0, hi, _⟩ := info_parts infoChar
  have hu : Try.prog.underlying 22 = some (.slice (Try.prog.elem 22)) := by kernel_rfl
  have he : Try.prog.elem 22 = 42 := by kernel_rfl
  have hrun : ∀ w', (Instr.sliceAt 22 (.slice A n c) (some (.int .i64 (k : Int))) none none).run Try.prog w' = .ok (sliced A k n c 1) w' := by
    intro w'
    rw [run_sliceAt_slice w' _ _ _ _ _ hu, run_slice_l w' 22 A n c hu .i64 (k : Int) (by omega) (by omega), he, run_sizeOf w' hi]
    simp [Result.andThen, cellsChar]
  have hl := h.len
  have hc := h.cap
  by_cases hck : c = k
  · refine ⟨A, ?_, fun w' => by rw [hrun]; simp [sliced, hck]⟩
    have h0 : n - k = 0 := by omega
    rw [h0, show c - k = 0 by omega, List.drop_of_length_le (by omega)]
    exact ⟨rfl, Nat.le_refl _, Nat.zero_le _, (fun _ => rfl), (fun x hx => by cases hx), fun h => absurd h (by omega)⟩
  · refine ⟨A.map (·.add k), ?_, fun w' => by rw [hrun]; simp [sliced, hck]⟩
    refine ⟨by rw [List.length_drop, hl], by omega, Nat.le_trans (Nat.sub_le _ _) hc, (fun e => ?_), (fun x hx => h.js x (List.mem_of_mem_drop hx)), fun h0 => ?_⟩
    · cases A with
      | none => have := h.nil_ rfl; omega
      | some ad => cases e
    · obtain ⟨g, o, e, hg, hcell⟩ := h.at_ (i := k) (by omega)
      subst e
      refine ⟨g, o + k, by rw [← Addr.add_lit g o k]; rfl, hg, fun i hi => ?_⟩
      rw [Nat.add_assoc, hcell (k + i) (by omega), List.getD_eq_getElem?_getD, List.getD_eq_getElem?_getD, List.getElem?_drop]
theorem exec_append {o : Oper} {a : Act} {v sv xv : Value} {w w' : World} (s x : Operand) (ho : o.op = .call { callee := .builtin .append, args := #[s, x], argTypes := #[22, 22] }) (hs : a.eval s = sv) (hx : a.eval x = xv)
    (hr : (Builtin.append_ #[22, 22] o.type #[sv, xv]).run Try.prog w = .ok v w') : (execOp a.eval o).run Try.prog w = .ok (.value v) w' := by
  unfold execOp
  simp only [ho, resolve, invoke, builtin, Sem.run_bind, Sem.run_pure, Result.andThen_ok, List.map_toArray, List.map_cons, List.map_nil, hs, hx, hr]
/-- where the three appends of the last region stand: each world is one that is known ahead -/
def ApS (u0 u1 u2 u3 : World) (L : Nat → Bool) (w : World) : Prop := (L 11 = true → L 5 = true) ∧ (L 5 = true → L 3 = true) ∧ (L 3 = false → w = u0) ∧ (L 3 = true → L 5 = false → w = u1) ∧ (L 5 = true → L 11 = false → w = u2) ∧ (L 11 = true → w = u3)
def ApT (_ : Nat) (_ _ : World) : Prop := True
section
variable {u0 u1 u2 u3 w : World} {L : Nat → Bool} {i : Nat}
theorem ApS.next (h : ApS u0 u1 u2 u3 L w) (h3 : i ≠ 3) (h5 : i ≠ 5) (h11 : i ≠ 11) : ApS u0 u1 u2 u3 (Rq.up L i) w := by
  unfold ApS
  rw [show Rq.up L i 3 = L 3 by simp [Rq.up, h3], show Rq.up L i 5 = L 5 by simp [Rq.up, h5], show Rq.up L i 11 = L 11 by simp [Rq.up, h11]]
  exact h
theorem ApS.no5 (h : ApS u0 u1 u2 u3 L w) (h3 : L 3 = false) : L 5 = false ∧ L 11 = false := by
  obtain ⟨a, b, _⟩ := h
  have h5 : L 5 = false := by cases hh : L 5 with
    | false => rfl
    | true => rw [b hh] at h3; cases h3
  refine ⟨h5, ?_⟩
  cases hh : L 11 with
  | false => rfl
  | true => rw [a hh] at h5; cases h5
theorem ApS.no11 (h : ApS u0 u1 u2 u3 L w) (h5 : L 5 = false) : L 11 = false := by
  cases hh : L 11 with
  | false => rfl
  | true => rw [h.1 hh] at h5; cases h5
theorem ApS.at0 (h : ApS u0 u1 u2 u3 L w) (h3 : L 3 = false) : w = u0 := h.2.2.1 h3
theorem ApS.at1 (h : ApS u0 u1 u2 u3 L w) (h3 : L 3 = true) (h5 : L 5 = false) : w = u1 := h.2.2.2.1 h3 h5
theorem ApS.at2 (h : ApS u0 u1 u2 u3 L w) (h5 : L 5 = true) (h11 : L 11 = false) : w = u2 := h.2.2.2.2.1 h5 h11
theorem ApS.one (h : ApS u0 u1 u2 u3 L w) (h3 : L 3 = false) : ApS u0 u1 u2 u3 (Rq.up L 3) u1 := by
  obtain ⟨h5, h11⟩ := h.no5 h3
  unfold ApS
  rw [show Rq.up L 3 3 = true by simp [Rq.up], show Rq.up L 3 5 = false by simp [Rq.up, h5], show Rq.up L 3 11 = false by simp [Rq.up, h11]]
  exact ⟨(fun e => by cases e), (fun e => by cases e), (fun e => by cases e), fun _ _ => rfl, (fun e => by cases e), fun e => by cases e⟩
theorem ApS.two (h : ApS u0 u1 u2 u3 L w) (h3 : L 3 = true) (h5 : L 5 = false) : ApS u0 u1 u2 u3 (Rq.up L 5) u2 := by
  have h11 := h.no11 h5
  unfold ApS
  rw [show Rq.up L 5 3 = true by simp [Rq.up, h3], show Rq.up L 5 5 = true by simp [Rq.up], show Rq.up L 5 11 = false by simp [Rq.up, h11]]
  exact ⟨(fun e => by cases e), (fun _ => rfl), (fun e => by cases e), (fun _ e => by cases e), fun _ _ => rfl, fun e => by cases e⟩
theorem ApS.three (h : ApS u0 u1 u2 u3 L w) (h5 : L 5 = true) (_h11 : L 11 = false) : ApS u0 u1 u2 u3 (Rq.up L 11) u3 := by
  have h3 := h.2.1 h5
  unfold ApS
  rw [show Rq.up L 11 3 = true by simp [Rq.up, h3], show Rq.up L 11 5 = true by simp [Rq.up, h5], show Rq.up L 11 11 = true by simp [Rq.up]]
  exact ⟨(fun _ => rfl), (fun _ => rfl), (fun e => by cases e), (fun _ e => by cases e), (fun _ e => by cases e), fun _ => rfl⟩
theorem ApS.begin (u0 u1 u2 u3 : World) : ApS u0 u1 u2 u3 (fun _ => false) u0 := ⟨(fun e => by cases e), (fun e => by cases e), (fun _ => rfl), (fun e => by cases e), (fun e => by cases e), fun e => by cases e⟩
end
set_option maxRecDepth 100000 in
set_option maxHeartbeats 4000000 in
theorem walk (w : World) (A : Option Addr) (n c : Nat) (cs0 : List Int) (hA : Crs w w.heap.size A n c cs0) (a1 : Nat) (ha1 : a1 < 65536) (a2 : Nat) (ha2 : a2 < 65536) (A' : Option Addr) (n' c' : Nat) (ds0 : List Int) (hB : Crs w w.heap.size A' n' c' ds0) (x y : Int) (_hId : Pl.IdB x y) :
    Calls Try.prog 5 #[.slice A n c, .int .u16 (a1 : Int), .int .u16 (a2 : Int), .slice A' n' c', idval x y] w fun e w' => e = .returned (.bool true) ∧ Below w.heap.size w w' := by
  obtain ⟨K, hK⟩ : ∃ K, K = min n 300 := ⟨_, rfl⟩
  obtain ⟨Q, hQ⟩ : ∃ K, K = min n' 100 := ⟨_, rfl⟩
  have m1 : (if (300 : Int) < (n : Int) then (300 : Int) else (n : Int)) = (K : Int) := by split <;> omega
  have m2 : (if (100 : Int) < (n' : Int) then (100 : Int) else (n' : Int)) = (Q : Int) := by split <;> omega
  have s1 := slice_toC A n c K (by have := hA.le; omega)
  have s2 := slice_toC A' n' c' Q (by have := hB.le; omega)
  obtain ⟨cs, hcs⟩ : ∃ x, x = cs0.take K := ⟨_, rfl⟩
  obtain ⟨ds, hds⟩ : ∃ x, x = ds0.take Q := ⟨_, rfl⟩
  have hA1 : Crs w w.heap.size A K c cs := by rw [hcs]; exact hA.upto (by omega)
  have hB1 : Crs w w.heap.size A' Q c' ds := by rw [hds]; exact hB.upto (by omega)
  have hk1 : K ≤ 300 := by omega
  have hk2 : Q ≤ 100 := by omega
  have HLA := Lib.hid hA1.len
  have HLB := Lib.hid hB1.len
  obtain ⟨P, hP⟩ : ∃ P, P = a1 % (K + 1) := ⟨_, rfl⟩
  obtain ⟨M, hM⟩ : ∃ M, M = a2 % 100 := ⟨_, rfl⟩
  obtain ⟨N, hN⟩ : ∃ N, N = min M (K - P) := ⟨_, rfl⟩
  have hPK : P ≤ K := by have := Nat.mod_lt a1 (show 0 < K + 1 by omega); omega
  have hM1 : M < 100 := by have := Nat.mod_lt a2 (show 0 < 100 by omega); omega
  have hNK : P + N ≤ K := by omega
  have hN1 : N < 100 := by omega
  have r1 : (a1 : Int).tmod ((K : Int) + 1) = (P : Int) := by have := tmod_nat a1 (K + 1); rw [← hP] at this; exact this
  have r1b : (a1 : Int) % ((K : Int) + 1) = (P : Int) := by rw [hP]; exact (Int.natCast_emod a1 (K + 1)).symm
  have r2 : (a2 : Int).tmod 100 = (M : Int) := by have := tmod_nat a2 100; rw [← hM] at this; exact this
  have r2b : (a2 : Int) % 100 = (M : Int) := by rw [hM]; exact (Int.natCast_emod a2 100).symm
  have m3 : (if (K : Int) - (P : Int) < (M : Int) then (K : Int) - (P : Int) else (M : Int)) = (N : Int) := by split <;> omega
  have HPN := Lib.hid (And.intro hPK (And.intro hNK hN1))
  obtain ⟨w1, hw1⟩ : ∃ w1, w1 = w.alloc (.cells #[.int .u32 x, .int .u64 y] 26) := ⟨_, rfl⟩
  have HB1 := Lib.hid (show Below w.heap.size w w1 by rw [hw1]; exact below_box _ _)
  have T_0 := Lib.hid (hA1.then_ HB1.out)
  have D_0 := Lib.hid (hB1.then_ HB1.out)
  have I_0 := Lib.hid (show IdAt w1 w.heap.size x y by rw [hw1]; exact heap_new rfl)
  have HW1 := Lib.hid hw1
  unfold idval
  clear hA hB hK hQ hcs hds hA1 hB1 hw1 hP hM hN
  go_enter Try.func5, Try.ntmps5
  go_wp2_with fail
  go_quiet (fail)
  obtain ⟨w0, hw0⟩ : ∃ w0, w0 = (World.alloc w (.cells #[.int .u32 x, .int .u64 y] 26)).drewN nq := ⟨_, rfl⟩
  have hb : Below w1.heap.size w1 w0 := by rw [hw0, ← HW1.out]; exact below_drewN (Below.refl _ _) _
  have HW0 := Lib.hid hw0
  clear hw0 m1 m2 s1 s2
  have T_2 := Lib.hid (Crs.then_ T_0.out hb)
  have D_3 := Lib.hid (Crs.then_ D_0.out hb)
  have I_4 := Lib.hid (IdAt.then_ I_0.out hb)
  have HB_5 := Lib.hid (below_then' HB1.out hb HB1.out.size)
  clear T_0 D_0 I_0 HB1
  clear hb
  obtain ⟨i0, i1⟩ := I_4.out.cells
  rw [← HW0.out]
  go_wp2_with fail
  clear r1 r1b r2 r2b m3 hM1 ha1 ha2
  have HJD := Lib.hid (D_3.out.js)
  by_cases hm : ∀ u ∈ ds, Pl.May u
  · have HM := Lib.hid hm
    have hq := type_any (P : Int) A' Q c' ds x y w0 D_3.out
    rw [typeE_at P ds (by rw [HLB.out]; omega), if_pos hm] at hq
    refine hq.mono ?_
    intro e w_6 hret
    obtain ⟨hb, Ta, Tb, rfl, ho⟩ := hret.good rfl
    rw [Pl.len_type, HLB.out] at ho ⊢
    clear hret hq hm i0 i1
    have T_7 := Lib.hid (Crs.then_ T_2.out hb)
    have D_8 := Lib.hid (Crs.then_ D_3.out hb)
    have I_9 := Lib.hid (IdAt.then_ I_4.out hb)
    have HB_10 := Lib.hid (below_then' HB_5.out hb HB_5.out.size)
    clear T_2 D_3 I_4 HB_5
    obtain ⟨la, hla⟩ : ∃ l, l = Pl.typeL (P : Int) ds x y := ⟨_, rfl⟩
    rw [← hla] at ho
    have HLTY := Lib.hid hla
    have HJA := Lib.hid (show ∀ u ∈ la, Pl.J u.c by rw [hla]; exact type_J HJD.out)
    have HGA := Lib.hid (show Pl.growsL la = (Q : Int) by rw [hla, Pl.grows_type, HLB.out])
    have a_11 := Lib.hid (ho)
    clear hb ho hla
    obtain ⟨i0, i1⟩ := I_9.out.cells
    go_wp2_with fail
    have hq := erase_any (P : Int) (Q : Int) x y w_6
    rw [wrongE_at P Q (by omega)] at hq
    simp only [Int.toNat_natCast] at hq
    refine hq.mono ?_
    intro e w_12 hret
    obtain ⟨hb, Ea, Eb, rfl, ho⟩ := hret.good rfl
    rw [Pl.len_erase] at ho ⊢
    clear hret hq i0 i1
    have T_13 := Lib.hid (Crs.then_ T_7.out hb)
    have D_14 := Lib.hid (Crs.then_ D_8.out hb)
    have I_15 := Lib.hid (IdAt.then_ I_9.out hb)
    have a_16 := Lib.hid (OwnR.then_ a_11.out hb)
    have HB_17 := Lib.hid (below_then' HB_10.out hb HB_10.out.size)
    clear T_7 D_8 I_9 a_11 HB_10
    obtain ⟨lb, hlb⟩ : ∃ l, l = Pl.eraseL (P : Int) Q x y := ⟨_, rfl⟩
    rw [← hlb] at ho
    have HLER := Lib.hid hlb
    have HJB := Lib.hid (show ∀ u ∈ lb, Pl.J u.c by rw [hlb]; exact erase_J)
    have HGB := Lib.hid (show Pl.growsL lb = -(Q : Int) by rw [hlb, Pl.grows_erase])
    have b_18 := Lib.hid (ho)
    clear hb ho hlb
    go_wp2_with fail
    refine (growsL_any Ta Q Tb la w_12 (OwnU.uns a_16.out) (by omega)).mono ?_
    rintro e w_19 ⟨rfl, hb⟩
    have T_20 := Lib.hid (Crs.then_ T_13.out hb)
    have D_21 := Lib.hid (Crs.then_ D_14.out hb)
    have I_22 := Lib.hid (IdAt.then_ I_15.out hb)
    have a_23 := Lib.hid (OwnR.then_ a_16.out hb)
    have b_24 := Lib.hid (OwnR.then_ b_18.out hb)
    have HB_25 := Lib.hid (below_then' HB_17.out hb HB_17.out.size)
    clear T_13 D_14 I_15 a_16 b_18 HB_17
    clear hb
    rw [HGA.out]
    go_wp2_with fail
    refine (growsL_any Ea Q Eb lb w_19 (OwnU.uns b_24.out) (by omega)).mono ?_
    rintro e w_26 ⟨rfl, hb⟩
    have T_27 := Lib.hid (Crs.then_ T_20.out hb)
    have D_28 := Lib.hid (Crs.then_ D_21.out hb)
    have I_29 := Lib.hid (IdAt.then_ I_22.out hb)
    have a_30 := Lib.hid (OwnR.then_ a_23.out hb)
    have b_31 := Lib.hid (OwnR.then_ b_24.out hb)
    have HB_32 := Lib.hid (below_then' HB_25.out hb HB_25.out.size)
    clear T_20 D_21 I_22 a_23 b_24 HB_25
    clear hb
    rw [HGB.out]
    have hsz := Nat.le_refl w_26.heap.size
    have hnil : OwnU w_26 w_26.heap.size (.slice none 0 0) [] := OwnR.nil_ _ _ _ _ _
    have AX := Lib.hid (OwnU.uns a_30.out)
    go_wp2_with (at_builtin; refine wpList_append_rws encU_len encU_one Try.underlying27 infoUn (by decide) (by decide) w_26 rfl (.const (.slice none 0 0)) (.tmp 92) rfl w_26.heap.size none 0 0 [] (by rfl) hnil _ Ta Q Tb la (by rfl) AX.out (by unfold maxLen; omega) (by omega) hsz ?_)
    intro U1 e1 v1 hP1 hg1 _
    have b1 : Below w_26.heap.size w_26 v1 := OwnR.grownBelow hnil hg1 (Below.refl _ _) hsz
    clear hsz hnil AX hg1
    have hsz := b1.size
    have BX := Lib.hid (Rws.then_ (OwnU.uns b_31.out) b1)
    have HP1 := Lib.hid hP1
    have Hb1 := Lib.hid b1
    clear hP1 b1
    go_wp2_with (at_builtin; refine wpList_append_rws encU_len encU_one Try.underlying27 infoUn (by decide) (by decide) v1 rfl (.tmp 93) (.tmp 94) rfl w_26.heap.size U1 Q e1 la (by rfl) HP1.out _ Ea Q Eb lb (by rfl) BX.out (by unfold maxLen; omega) (by omega) hsz ?_)
    intro U2 e2 v2 hP2 hg2 _
    have b2 := OwnR.grownBelow HP1.out hg2 Hb1.out hsz
    clear hsz BX HP1 Hb1 hg2
    have T_33 := Lib.hid (Crs.then_ T_27.out b2)
    have D_34 := Lib.hid (Crs.then_ D_28.out b2)
    have I_35 := Lib.hid (IdAt.then_ I_29.out b2)
    have a_36 := Lib.hid (OwnR.then_ a_30.out b2)
    have b_37 := Lib.hid (OwnR.then_ b_31.out b2)
    have HB_38 := Lib.hid (below_then' HB_32.out b2 HB_32.out.size)
    clear T_27 D_28 I_29 a_30 b_31 HB_32
    have E_39 := Lib.hid (hP2)
    clear b2 hP2
    have HLB2 := Lib.hid (Pl.leave_both P ds cs x y (by rw [HLA.out]; exact HPN.out.1) (by rw [HLA.out, HLB.out]; omega) HM.out)
    rw [HLB.out, ← HLTY.out, ← HLER.out] at HLB2
    go_wp2_with fail
    refine (apply8_any U2 (Q + Q) e2 (la ++ lb) A K c cs v2 (OwnU.uns E_39.out) T_33.out (by omega) (fun u hu => (List.mem_append.1 hu).elim (HJA.out u) (HJB.out u))).mono ?_
    rintro e w_40 ⟨hb, ⟨hnf, rfl⟩ | ⟨_, Xa, Xm, Xc, rfl, hx⟩⟩
    · exact absurd HLB2.out.2 hnf
    · rw [HLB2.out.1] at hx
      have T_41 := Lib.hid (Crs.then_ T_33.out hb)
      have D_42 := Lib.hid (Crs.then_ D_34.out hb)
      have I_43 := Lib.hid (IdAt.then_ I_35.out hb)
      have a_44 := Lib.hid (OwnR.then_ a_36.out hb)
      have b_45 := Lib.hid (OwnR.then_ b_37.out hb)
      have E_46 := Lib.hid (OwnR.then_ E_39.out hb)
      have HB_47 := Lib.hid (below_then' HB_38.out hb HB_38.out.size)
      clear T_33 D_34 I_35 a_36 b_37 E_39 HB_38
      have X_48 := Lib.hid (hx)
      clear hb hx
      clear a_44
      clear b_45
      clear E_46
      have hq := same4_any _ _ _ _ _ _ cs cs w_40 X_48.out T_41.out
      rw [decide_eq_true rfl] at hq
      go_wp2_with fail
      refine (hq).mono ?_
      rintro e w_49 ⟨rfl, hb⟩
      have T_50 := Lib.hid (Crs.then_ T_41.out hb)
      have D_51 := Lib.hid (Crs.then_ D_42.out hb)
      have I_52 := Lib.hid (IdAt.then_ I_43.out hb)
      have X_53 := Lib.hid (Crs.then_ X_48.out hb)
      have HB_54 := Lib.hid (below_then' HB_47.out hb HB_47.out.size)
      clear T_41 D_42 I_43 X_48 HB_47
      clear hb hq
      clear X_53
      obtain ⟨i0, i1⟩ := I_52.out.cells
      go_wp2_with fail
      have hq := replace_any (P : Int) (N : Int) A' Q c' ds x y w_49 D_51.out
      rw [replE_at P N ds (by rw [HLB.out]; omega) HM.out] at hq
      refine hq.mono ?_
      intro e w_55 hret
      obtain ⟨hb, Ra, Rb, rfl, ho⟩ := hret.good rfl
      clear hret hq i0 i1
      have T_56 := Lib.hid (Crs.then_ T_50.out hb)
      have D_57 := Lib.hid (Crs.then_ D_51.out hb)
      have I_58 := Lib.hid (IdAt.then_ I_52.out hb)
      have HB_59 := Lib.hid (below_then' HB_54.out hb HB_54.out.size)
      clear T_50 D_51 I_52 HB_54
      obtain ⟨lr, hlr⟩ : ∃ l, l = Pl.replL (P : Int) (N : Int) ds x y := ⟨_, rfl⟩
      rw [← hlr] at ho ⊢
      obtain ⟨q, hq⟩ : ∃ q, q = lr.length := ⟨_, rfl⟩
      have hqn : q = N + Q := by rw [hq, hlr]; unfold Pl.replL; rw [List.length_append, Pl.len_erase, Pl.len_type, Int.toNat_natCast, HLB.out]
      rw [← hq] at ho ⊢
      have HJR := Lib.hid (show ∀ u ∈ lr, Pl.J u.c by rw [hlr]; exact fun u hu => (List.mem_append.1 hu).elim (erase_J u) (type_J HJD.out u))
      have HGR := Lib.hid (show Pl.growsL lr = (Q : Int) - (N : Int) by rw [hlr]; unfold Pl.replL; rw [Pl.grows_append, Pl.grows_erase, Pl.grows_type, HLB.out, Int.toNat_natCast]; omega)
      have HLV := Lib.hid (Pl.leave_replace P N ds cs x y (by rw [HLA.out]; exact HPN.out.2.1) (by rw [HLA.out, HLB.out]; omega) HM.out)
      rw [show Pl.eraseL (P : Int) N x y ++ Pl.typeL (P : Int) ds x y = lr by rw [hlr]; unfold Pl.replL; rw [Int.toNat_natCast]] at HLV
      have hq2 : q ≤ 200 := by omega
      clear hlr hq hqn
      have R_60 := Lib.hid (ho)
      clear hb ho
      go_wp2_with fail
      refine (growsL_any Ra q Rb lr w_55 (OwnU.uns R_60.out) (by omega)).mono ?_
      rintro e w_61 ⟨rfl, hb⟩
      have T_62 := Lib.hid (Crs.then_ T_56.out hb)
      have D_63 := Lib.hid (Crs.then_ D_57.out hb)
      have I_64 := Lib.hid (IdAt.then_ I_58.out hb)
      have R_65 := Lib.hid (OwnR.then_ R_60.out hb)
      have HB_66 := Lib.hid (below_then' HB_59.out hb HB_59.out.size)
      clear T_56 D_57 I_58 R_60 HB_59
      clear hb
      rw [HGR.out]
      go_wp2_with fail
      refine (apply8_any Ra q Rb lr A K c cs w_61 (OwnU.uns R_65.out) T_62.out (by omega) (HJR.out)).mono ?_
      rintro e w_67 ⟨hb, ⟨hnf, rfl⟩ | ⟨_, Ya, Ym, Yc, rfl, hx⟩⟩
      · exact absurd HLV.out.2 hnf
      · rw [HLV.out.1] at hx
        have T_68 := Lib.hid (Crs.then_ T_62.out hb)
        have D_69 := Lib.hid (Crs.then_ D_63.out hb)
        have I_70 := Lib.hid (IdAt.then_ I_64.out hb)
        have R_71 := Lib.hid (OwnR.then_ R_65.out hb)
        have HB_72 := Lib.hid (below_then' HB_66.out hb HB_66.out.size)
        clear T_62 D_63 I_64 R_65 HB_66
        have Y_73 := Lib.hid (hx)
        clear hb hx
        clear R_71
        clear I_70
        obtain ⟨S, hS⟩ : ∃ S, S = P + N := ⟨_, rfl⟩
        rw [← hS] at hNK
        have HSS := Lib.hid hS
        have HSI := Lib.hid (show IntKind.i64.wrap ((P : Int) + (N : Int)) = (S : Int) by rw [IntKind.wrap_i64]; omega)
        have HST := Lib.hid (slice_toC A K c P (by have := T_68.out.le; omega))
        obtain ⟨A9, hA9, hsf⟩ := tail_ T_68.out hNK (S : Int) rfl
        have HA9 := Lib.hid hA9
        obtain ⟨kt, hkt⟩ : ∃ k, k = K - S := ⟨_, rfl⟩
        obtain ⟨ct, hct⟩ : ∃ k, k = c - S := ⟨_, rfl⟩
        have hkt1 : kt ≤ 300 := by omega
        rw [← hkt, ← hct] at hsf HA9
        have HSF := Lib.hid hsf
        have HTP := Lib.hid (T_68.out.upto hPK)
        have hnil : OwnC w_67.drew w_67.heap.size (.slice none 0 0) [] := OwnC.nil_ _ _
        obtain ⟨V1, e5, u1, hr1, k1, g1, _⟩ := run_append_crs2 w_67.drew 22 w_67.heap.size none 0 0 [] hnil _ A P c (cs.take P) HTP.out (by omega) (Nat.le_refl _)
        have b1 : Below w_67.heap.size w_67 u1 := below_appendC hnil g1 (below_drawn (Below.refl _ _)) (Nat.le_refl _)
        rw [Nat.zero_add] at hr1 k1
        rw [List.nil_append] at k1
        obtain ⟨V2, e6, u2, hr2, k2, g2, _⟩ := run_append_crs2 u1 22 w_67.heap.size V1 P e5 (cs.take P) k1 _ A' Q c' ds (Crs.then_ D_69.out b1) (by omega) b1.size
        have b2 : Below w_67.heap.size w_67 u2 := below_appendC k1 g2 b1 b1.size
        obtain ⟨V3, e7, u3, hr3, k3, g3, _⟩ := run_append_crs2 u2 22 w_67.heap.size V2 (P + Q) e6 (cs.take P ++ ds) k2 _ A9 kt ct (cs.drop S) (Crs.then_ HA9.out b2) (by omega) b2.size
        have b3 : Below w_67.heap.size w_67 u3 := below_appendC k2 g3 b2 b2.size
        have HR1 := Lib.hid hr1
        have HR2 := Lib.hid hr2
        have HR3 := Lib.hid hr3
        have HK3 := Lib.hid k3
        have hb3 := Lib.hid b3
        clear hA9 hnil hkt hct hNK hPK hN1 hkt1 hS hq2 hsf hr1 hr2 hr3 k1 k2 k3 g1 g2 g3 b1 b2 b3
        go_wp2_with fail
        refine Rq.wp_region_inv (ApS w_67.drew u1 u2 u3) ApT (Rq.Wd.at [.is (.slice A K c), .is (.int .i64 (P : Int)), .is (.slice A P c), .is (.slice V1 P e5), .is (.slice A' Q c'), .is (.slice V2 (P + Q) e6), .is (.slice A K c), .is (.int .i64 (P : Int)), .is (.int .i64 (N : Int)), .is (.int .i64 (S : Int)), .is (.slice A9 kt ct), .is (.slice V3 (P + Q + kt) e7), .is (.slice V3 (P + Q + kt) e7)]) (by kernel_rfl) (by kernel_rfl) (Rq.Wd.stays _ _ (fun i q hi => (by rcases i with _ | _ | _ | _ | _ | _ | _ | _ | _ | _ | _ | _ | _ | i <;> simp at hi))) (ApS.begin _ _ _ _) ⟨?_, ?_, ?_, ?_, ?_, ?_, ?_, ?_, ?_, ?_, ?_, ?_, ?_, trivial⟩ ?_
        · intro L a w1 hL hS hb hd
          have e0 := hb 0 (Rq.nw (by decide))
          simp [Act.eval] at e0
          exact Rq.does_pure (Rq.wanted_none rfl) (by simp [execOp, e0, go_sem]) rfl (hS.next (by decide) (by decide) (by decide)) trivial
        · intro L a w1 hL hS hb hd
          have e11 := hb 11 (Rq.nw (by decide))
          simp [Act.eval] at e11
          exact Rq.does_pure (Rq.wanted_none rfl) (by simp [execOp, e11, go_sem]) rfl (hS.next (by decide) (by decide) (by decide)) trivial
        · intro L a w1 hL hS hb hd
          have p133 := (hd ⟨0, .data⟩ (by simp) rfl).2 _ _ rfl rfl
          have e133 : a.tmps[133]?.getD undef = (.slice A K c) := Rq.slot p133
          have p134 := (hd ⟨1, .data⟩ (by simp) rfl).2 _ _ rfl rfl
          have e134 : a.tmps[134]?.getD undef = (.int .i64 (P : Int)) := Rq.slot p134
          exact Rq.does_pure (Rq.wanted_none rfl) (by simp [execOp, e133, e134, HST.out, go_sem]) rfl (hS.next (by decide) (by decide) (by decide)) trivial
        · intro L a w1 hL hS hb hd
          have p135 := (hd ⟨2, .data⟩ (by simp) rfl).2 _ _ rfl rfl
          have e135 : a.tmps[135]?.getD undef = (.slice A P c) := Rq.slot p135
          exact Rq.does_run (Rq.wanted_none rfl) (by rw [hS.at0 hL]; exact exec_append (.const (.slice none 0 0)) (.tmp 135) rfl rfl p135 HR1.out) rfl (hS.one hL) trivial
        · intro L a w1 hL hS hb hd
          have e3 := hb 3 (Rq.nw (by decide))
          simp [Act.eval] at e3
          exact Rq.does_pure (Rq.wanted_none rfl) (by simp [execOp, e3, go_sem]) rfl (hS.next (by decide) (by decide) (by decide)) trivial
        · intro L a w1 hL hS hb hd
          have p136 := (hd ⟨3, .data⟩ (by simp) rfl).2 _ _ rfl rfl
          have e136 : a.tmps[136]?.getD undef = (.slice V1 P e5) := Rq.slot p136
          have p137 := (hd ⟨4, .data⟩ (by simp) rfl).2 _ _ rfl rfl
          have e137 : a.tmps[137]?.getD undef = (.slice A' Q c') := Rq.slot p137
          have h3 := (hd ⟨3, .data⟩ (by simp) rfl).1; exact Rq.does_run (Rq.wanted_none rfl) (by rw [hS.at1 h3 hL]; exact exec_append (.tmp 136) (.tmp 137) rfl p136 p137 HR2.out) rfl (hS.two h3 hL) trivial
        · intro L a w1 hL hS hb hd
          have e0 := hb 0 (Rq.nw (by decide))
          simp [Act.eval] at e0
          exact Rq.does_pure (Rq.wanted_none rfl) (by simp [execOp, e0, go_sem]) rfl (hS.next (by decide) (by decide) (by decide)) trivial
        · intro L a w1 hL hS hb hd
          have e11 := hb 11 (Rq.nw (by decide))
          simp [Act.eval] at e11
          exact Rq.does_pure (Rq.wanted_none rfl) (by simp [execOp, e11, go_sem]) rfl (hS.next (by decide) (by decide) (by decide)) trivial
        · intro L a w1 hL hS hb hd
          have e12 := hb 12 (Rq.nw (by decide))
          simp [Act.eval] at e12
          exact Rq.does_pure (Rq.wanted_none rfl) (by simp [execOp, e12, go_sem]) rfl (hS.next (by decide) (by decide) (by decide)) trivial
        · intro L a w1 hL hS hb hd
          have p140 := (hd ⟨7, .data⟩ (by simp) rfl).2 _ _ rfl rfl
          have e140 : a.tmps[140]?.getD undef = (.int .i64 (P : Int)) := Rq.slot p140
          have p141 := (hd ⟨8, .data⟩ (by simp) rfl).2 _ _ rfl rfl
          have e141 : a.tmps[141]?.getD undef = (.int .i64 (N : Int)) := Rq.slot p141
          exact Rq.does_pure (Rq.wanted_none rfl) (by simp [execOp, e140, e141, HSI.out, go_sem]) rfl (hS.next (by decide) (by decide) (by decide)) trivial
        · intro L a w1 hL hS hb hd
          have p139 := (hd ⟨6, .data⟩ (by simp) rfl).2 _ _ rfl rfl
          have e139 : a.tmps[139]?.getD undef = (.slice A K c) := Rq.slot p139
          have p142 := (hd ⟨9, .data⟩ (by simp) rfl).2 _ _ rfl rfl
          have e142 : a.tmps[142]?.getD undef = (.int .i64 (S : Int)) := Rq.slot p142
          exact Rq.does_pure (Rq.wanted_none rfl) (by simp [execOp, e139, e142, HSF.out, go_sem]) rfl (hS.next (by decide) (by decide) (by decide)) trivial
        · intro L a w1 hL hS hb hd
          have p138 := (hd ⟨5, .data⟩ (by simp) rfl).2 _ _ rfl rfl
          have e138 : a.tmps[138]?.getD undef = (.slice V2 (P + Q) e6) := Rq.slot p138
          have p143 := (hd ⟨10, .data⟩ (by simp) rfl).2 _ _ rfl rfl
          have e143 : a.tmps[143]?.getD undef = (.slice A9 kt ct) := Rq.slot p143
          have h5 := (hd ⟨5, .data⟩ (by simp) rfl).1; exact Rq.does_run (Rq.wanted_none rfl) (by rw [hS.at2 h5 hL]; exact exec_append (.tmp 138) (.tmp 143) rfl p138 p143 HR3.out) rfl (hS.three h5 hL) trivial
        · intro L a w1 hL hS hb hd
          have p144 := (hd ⟨11, .data⟩ (by simp) rfl).2 _ _ rfl rfl
          have e144 : a.tmps[144]?.getD undef = (.slice V3 (P + Q + kt) e7) := Rq.slot p144
          exact Rq.does_pure (Rq.wanted_none rfl) (by simp [execOp, e144, go_sem]) rfl (hS.next (by decide) (by decide) (by decide)) trivial
        · intro L v w5 hS hall hv
          have hw5 := hS.2.2.2.2.2 (hall 11 (by decide))
          have h12 := (hv 12 _ _ rfl rfl)
          replace h12 : v 12 = .slice V3 (P + Q + kt) e7 := h12
          subst hw5
          clear hS hall hv
          have T_74 := Lib.hid (Crs.then_ T_68.out hb3.out)
          have D_75 := Lib.hid (Crs.then_ D_69.out hb3.out)
          have Y_76 := Lib.hid (Crs.then_ Y_73.out hb3.out)
          have HB_77 := Lib.hid (below_then' HB_72.out hb3.out HB_72.out.size)
          clear T_68 D_69 Y_73 HB_72
          simp only [Rq.putAll, h12]
          simp only [Act.put, List.setIfInBounds_toArray, List.set_cons_succ, List.set_cons_zero]
          clear h12
          have hq := same4_any _ _ _ _ _ _ (cs.take P ++ ds ++ cs.drop S) (cs.take P ++ ds ++ cs.drop S) w5 (show Crs w5 w5.heap.size Ya Ym Yc (cs.take P ++ ds ++ cs.drop S) by rw [HSS.out]; exact Y_76.out) HK3.out.crs.2
          rw [decide_eq_true rfl] at hq
          go_wp2_with fail
          refine (hq).mono ?_
          rintro e w_78 ⟨rfl, hb⟩
          have T_79 := Lib.hid (Crs.then_ T_74.out hb)
          have D_80 := Lib.hid (Crs.then_ D_75.out hb)
          have Y_81 := Lib.hid (Crs.then_ Y_76.out hb)
          have HB_82 := Lib.hid (below_then' HB_77.out hb HB_77.out.size)
          clear T_74 D_75 Y_76 HB_77
          clear hb hq
          go_wp2_with fail
          refine (awake_any w_78).mono ?_
          rintro e w_83 ⟨rfl, hb⟩
          have T_84 := Lib.hid (Crs.then_ T_79.out hb)
          have D_85 := Lib.hid (Crs.then_ D_80.out hb)
          have Y_86 := Lib.hid (Crs.then_ Y_81.out hb)
          have HB_87 := Lib.hid (below_then' HB_82.out hb HB_82.out.size)
          clear T_79 D_80 Y_81 HB_82
          clear hb
          go_wp2_with fail
          go_ret
          exact ⟨rfl, HB_87.out⟩
  · have HM := Lib.hid hm
    have hq := type_any (P : Int) A' Q c' ds x y w0 D_3.out
    rw [typeE_at P ds (by rw [HLB.out]; omega), if_neg hm] at hq
    refine hq.mono ?_
    intro e w_6 hret
    obtain ⟨hb, rfl⟩ := hret.fail_ (by decide)
    clear hret hq hm i0 i1
    clear T_2
    clear D_3
    clear I_4
    have HB_7 := Lib.hid (below_then' HB_5.out hb HB_5.out.size)
    clear HB_5
    clear hb
    go_wp2_with fail
    refine (awake_any w_6).mono ?_
    rintro e w_8 ⟨rfl, hb⟩
    have HB_9 := Lib.hid (below_then' HB_7.out hb HB_7.out.size)
    clear HB_7
    clear hb
    go_wp2_with fail
    go_ret
    exact ⟨rfl, HB_9.out⟩
end editLeaves
end Go.Proofs.Ythnenmglmebljaa
