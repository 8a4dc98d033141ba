/-
  Contracts of piece: reach, follows, stretch, New; of slices.Clone at code points and at pieces. Conditions: the table is one, or none; the buffers have at most 2^30 code points.
-/
import Derived.Test.YtldmnkakpmplnaaGreatUd29
set_option maxRecDepth 100000
namespace Go.Proofs.YtldmnkakpmplnaaGreat.Tbl
open Go.RowKit
open Tp (Pc Plc Tab)
theorem ret_int {x y : Int} (h : x = y) : Ending.returned (.int .i64 x) = .returned (.int .i64 y) := by rw [h]
theorem ret_bool {x y : Bool} (h : x = y) : Ending.returned (.bool x) = .returned (.bool y) := by rw [h]
def Tp.I (x : Int) : Prop := -9223372036854775808 ≤ x ∧ x ≤ 9223372036854775807
theorem Tp.I.out {x : Int} (h : Tp.I x) : -9223372036854775808 ≤ x ∧ x ≤ 9223372036854775807 := h
theorem Tp.I.mk {x : Int} (h : -9223372036854775808 ≤ x ∧ x ≤ 9223372036854775807) : Tp.I x := h
def Tp.reachE (len : Nat) (pos n : Int) : Int := if pos < 0 ∨ n < 0 ∨ n > (len : Int) - pos then 30 else 0
set_option maxHeartbeats 400000 in
theorem reach_no {w : World} {A : Option Addr} (pos n : Int) (h : NoTb w A) :
    Calls Tryz.prog 229 #[.pointer A, .int .i64 pos, .int .i64 n] w fun e w' => e = .returned (.int .i64 2) ∧ w = w' := by
  have HN := Lib.hid (none_no h)
  clear h
  go_enter Tryz.func229, Tryz.ntmps229
  go_wp2_with fail
  refine HN.out.mono ?_
  rintro e w' ⟨rfl, rfl⟩
  go_wp2_with fail
  go_ret
  exact ⟨rfl, rfl⟩
set_option maxHeartbeats 400000 in
theorem reach_tb {w : World} {F : Nat → Prop} {p : Nat} {t : Tab} {m : Nat} (h : Tb w F p t m) (pos n : Int) (hp : Tp.I pos) :
    Calls Tryz.prog 229 #[.pointer (some ⟨p, 0, none⟩), .int .i64 pos, .int .i64 n] w fun e w' => e = .returned (.int .i64 (Tp.reachE t.L.length pos n)) ∧ Below w.heap.size w w' := by
  have HN := Lib.hid (none_tb h)
  have HL := Lib.hid (len_tb h)
  have hlen := h.ok.len
  have hmm := h.le
  have hp2 := hp.out
  obtain ⟨N, hN⟩ : ∃ N, N = t.L.length := ⟨_, rfl⟩
  rw [← hN] at HL hlen ⊢
  have hbd : N ≤ 1073741824 := by omega
  clear h hp hlen hmm hN
  go_enter Tryz.func229, Tryz.ntmps229
  go_wp2_with fail
  refine HN.out.mono ?_
  rintro e w' ⟨rfl, rfl⟩
  by_cases h1 : pos < 0
  · have HE := Lib.hid (show Tp.reachE N pos n = 30 by unfold Tp.reachE; rw [if_pos (by omega)])
    have b1 : decide (pos < 0) = true := decide_eq_true h1
    clear h1
    go_wp2_with fail
    go_ret
    exact ⟨ret_int HE.out.symm, Below.refl _ _⟩
  · have b1 : decide (pos < 0) = false := decide_eq_false h1
    by_cases h2 : n < 0
    · have HE := Lib.hid (show Tp.reachE N pos n = 30 by unfold Tp.reachE; rw [if_pos (by omega)])
      have b2 : decide (n < 0) = true := decide_eq_true h2
      clear h2
      go_wp2_with fail
      go_ret
      exact ⟨ret_int HE.out.symm, Below.refl _ _⟩
    · have b2 : decide (n < 0) = false := decide_eq_false h2
      have hp0 : 0 ≤ pos := by omega
      by_cases h3 : n > (N : Int) - pos
      · have HE := Lib.hid (show Tp.reachE N pos n = 30 by unfold Tp.reachE; rw [if_pos (by omega)])
        clear h1 h2
        go_wp2_with fail
        refine HL.out.mono ?_
        rintro e w1 ⟨rfl, hb⟩
        have HB := Lib.hid hb
        clear hb
        go_wp2_with fail
        go_ret
        exact ⟨ret_int HE.out.symm, HB.out⟩
      · have HE := Lib.hid (show Tp.reachE N pos n = 0 by unfold Tp.reachE; rw [if_neg (by omega)])
        clear h1 h2
        go_wp2_with fail
        refine HL.out.mono ?_
        rintro e w1 ⟨rfl, hb⟩
        have HB := Lib.hid hb
        clear hb
        go_wp2_with fail
        go_ret
        exact ⟨ret_int HE.out.symm, HB.out⟩
set_option maxHeartbeats 400000 in
theorem follows_any (a b : Pc) (w : World) (ha : a.at_ + a.len ≤ 1073741824) :
    Calls Tryz.prog 253 #[aggP a, aggP b] w fun e w' => e = .returned (.bool (decide (Tp.Fol a b))) ∧ Below w.heap.size w w' := by
  obtain ⟨s, k, l⟩ := a
  obtain ⟨s', k', l'⟩ := b
  unfold aggP
  simp only at ha ⊢
  obtain ⟨W, hW⟩ : ∃ W, W = (w.alloc (.cells #[.bool s, .int .i64 (k : Int), .int .i64 (l : Int)] 193)).alloc (.cells #[.bool s', .int .i64 (k' : Int), .int .i64 (l' : Int)] 193) := ⟨_, rfl⟩
  have HB := Lib.hid (show Below w.heap.size w W by rw [hW]; exact below_alloc ((Below.refl _ w).alloc (Nat.le_refl _) _) _)
  by_cases hs : s = s'
  · have b1 : (s == s') = true := by rw [hs]; exact beq_self_eq_true s'
    have HE := Lib.hid (show decide (Tp.Fol ⟨s, k, l⟩ ⟨s', k', l'⟩) = decide ((k : Int) + (l : Int) = (k' : Int)) from decide_eq_decide.2 ⟨fun h => by have := h.2; simp only at this; omega, fun h => ⟨hs, by simp only; omega⟩⟩)
    clear hs
    rw [HE.out]
    go_enter Tryz.func253, Tryz.ntmps253
    go_wp2_with fail
    rw [← hW]
    go_ret
    exact ⟨rfl, HB.out⟩
  · have b1 : (s == s') = false := beq_eq_false_iff_ne.2 hs
    have HE := Lib.hid (show decide (Tp.Fol ⟨s, k, l⟩ ⟨s', k', l'⟩) = false from decide_eq_false fun h => hs h.1)
    clear hs
    rw [HE.out]
    go_enter Tryz.func253, Tryz.ntmps253
    go_wp2_with fail
    rw [← hW]
    go_ret
    exact ⟨rfl, HB.out⟩
theorem _root_.Go.Proofs.YtldmnkakpmplnaaGreat.Crs.mid3 {w : World} {B n c k m : Nat} {A : Option Addr} {bs : List Int} (h : Crs w B A n c bs) (hk : k ≤ m) (hm : m ≤ n) :
    ∃ A2, Crs w B A2 (m - k) (m - k) ((bs.drop k).take (m - k)) ∧ (∀ ad2, A2 = some ad2 → ∃ ad, A = some ad ∧ ad2.block = ad.block) ∧
      ∀ w', (Instr.sliceAt 33 (.slice A n c) (some (.int .i64 (k : Int))) (some (.int .i64 (m : Int))) (some (.int .i64 (m : Int)))).run Tryz.prog w' = .ok (.slice A2 (m - k) (m - k)) w' := by
  have hle := h.le
  obtain ⟨i0, hi, _⟩ := info_parts infoChar
  have hu : Tryz.prog.underlying 33 = some (.slice (Tryz.prog.elem 33)) := by kernel_rfl
  have he : Tryz.prog.elem 33 = 41 := by kernel_rfl
  have hrun : ∀ w', (Instr.sliceAt 33 (.slice A n c) (some (.int .i64 (k : Int))) (some (.int .i64 (m : Int))) (some (.int .i64 (m : Int)))).run Tryz.prog w' = .ok (sliced A k m m 1) w' := by
    intro w'
    rw [run_sliceAt_slice w' _ _ _ _ _ hu, run_slice_lhm w' 33 A n c hu .i64 .i64 .i64 (k : Int) (m : Int) (m : Int) (by omega) (by omega) (by omega) (by omega), he, run_sizeOf w' hi]
    simp [Result.andThen, cellsChar]
  have hl := h.len
  have hc := h.cap
  by_cases hck : m = k
  · refine ⟨A, ?_, (fun ad2 e => ⟨ad2, e, rfl⟩), fun w' => by rw [hrun]; simp [sliced, hck]⟩
    have h0 : m - k = 0 := by omega
    rw [h0, List.take_zero]
    exact ⟨rfl, Nat.le_refl _, Nat.zero_le _, (fun _ => rfl), (fun x hx => by cases hx), fun h => absurd h (by omega)⟩
  · refine ⟨A.map (·.add k), ?_, fun ad2 e => ?_, fun w' => by rw [hrun]; simp [sliced, hck]⟩
    · refine ⟨by rw [List.length_take, List.length_drop, hl]; omega, Nat.le_refl _, by omega, (fun e => ?_), (fun x hx => h.js x (List.mem_of_mem_drop (List.mem_of_mem_take hx))), fun h0 => ?_⟩
      · cases A with
        | none => have := h.nil_ rfl; omega
        | some ad => cases e
      · obtain ⟨g, o, e, hg, hcell⟩ := h.at_ (i := k) (by omega)
        subst e
        refine ⟨g, o + k, by rw [← Addr.add_lit g o k]; rfl, hg, fun i hi => ?_⟩
        rw [Nat.add_assoc, hcell (k + i) (by omega), List.getD_eq_getElem?_getD, List.getD_eq_getElem?_getD, List.getElem?_take, if_pos hi, List.getElem?_drop]
    · cases A with
      | none => cases e
      | some ad => cases e; exact ⟨ad, rfl, by unfold Addr.add; split <;> rfl⟩
set_option maxHeartbeats 400000 in
theorem stretch_tb {w : World} {F : Nat → Prop} {p : Nat} {t : Tab} {m : Nat} (h : Tb w F p t m) (x : Pc) (hx : x.at_ + x.len ≤ (t.buf x.s).length) :
    Calls Tryz.prog 232 #[.pointer (some ⟨p, 0, none⟩), aggP x] w fun e w' => ∃ A, e = .returned (.slice A x.len x.len) ∧ Crs w' w.heap.size A x.len x.len (t.str x) ∧ Below w.heap.size w w' := by
  have hok := h.ok
  have hm := h.le
  have hlt := h.lt
  obtain ⟨_, _, _, hp, A1, c1, q, A2, c2, A3, c3, h1, h2, h3, h4, h5, h6, h7, h8, h9, h10⟩ := h
  have k0 := cell0 h1
  have k1 := cell1 h1
  have j0 := cell0 h2
  have r1 := h3.crs.2
  have r2 := h4.crs.2
  have hb1 := hok.2.2
  obtain ⟨s, k, l⟩ := x
  unfold aggP
  simp only at hx ⊢
  obtain ⟨W, hW⟩ : ∃ W, W = w.alloc (.cells #[.bool s, .int .i64 (k : Int), .int .i64 (l : Int)] 193) := ⟨_, rfl⟩
  have hb : Below w.heap.size w W := by rw [hW]; exact (Below.refl _ w).alloc (Nat.le_refl _) _
  have zp := hlt p hp
  have zq := hlt q h6
  have hm3 : ∃ A n c A', (if s = true then Value.slice A2 t.snd.length c2 else Value.slice A1 t.fst.length c1) = .slice A n c ∧ k + l ≤ 1073741824 ∧ Crs w w.heap.size A' l l (t.str ⟨s, k, l⟩) ∧
      ∀ w', (Instr.sliceAt 33 (.slice A n c) (some (.int .i64 (k : Int))) (some (.int .i64 ((k : Int) + (l : Int)))) (some (.int .i64 ((k : Int) + (l : Int))))).run Tryz.prog w' = .ok (.slice A' l l) w' := by
    cases s with
    | true =>
      obtain ⟨A', hA, _, hr⟩ := r2.mid3 (k := k) (m := k + l) (by omega) hx
      rw [Nat.add_sub_cancel_left] at hA hr
      exact ⟨A2, _, c2, A', rfl, by have : k + l ≤ t.snd.length := hx; omega, hA, fun w' => by have := hr w'; rwa [Int.natCast_add] at this⟩
    | false =>
      obtain ⟨A', hA, _, hr⟩ := r1.mid3 (k := k) (m := k + l) (by omega) hx
      rw [Nat.add_sub_cancel_left] at hA hr
      exact ⟨A1, _, c1, A', rfl, by have : k + l ≤ t.fst.length := hx; omega, hA, fun w' => by have := hr w'; rwa [Int.natCast_add] at this⟩
  obtain ⟨A, n, c, A', hv, hbd, hc, hr⟩ := hm3
  have HC := Lib.hid (And.intro (hc.below hb (Nat.le_refl _)) hb)
  clear h1 h2 h3 h4 h5 h6 h7 h8 h9 h10 r1 r2 hok hlt hp hc hb hx hb1 hm
  cases s with
  | true =>
    simp only [if_true] at hv
    injection hv with e1 e2 e3
    subst e1 e2 e3
    go_enter Tryz.func232, Tryz.ntmps232
    go_wp2_with fail
    rw [← hW]
    go_ret
    exact ⟨A', rfl, HC.out⟩
  | false =>
    simp only [Bool.false_eq_true, if_false] at hv
    injection hv with e1 e2 e3
    subst e1 e2 e3
    go_enter Tryz.func232, Tryz.ntmps232
    go_wp2_with fail
    rw [← hW]
    go_ret
    exact ⟨A', rfl, HC.out⟩
theorem eqlC_nil (A : Option Addr) (n c : Nat) (w : World) : (binOp .eql 33 (.slice A n c) (.slice none 0 0)).run Tryz.prog w = .ok (.bool A.isNone) w := Lib.run_eql_slice_nil w _ _ A n c 0 0 Tryz.underlying33
def RetC (w : World) (cs : List Int) (e : Ending) (w' : World) : Prop := ∃ A c, e = .returned (.slice A cs.length c) ∧ OwnC w' w.heap.size (.slice A cs.length c) cs ∧ Below w.heap.size w w'
set_option maxHeartbeats 400000 in
theorem cloneC_any (A : Option Addr) (n c : Nat) (cs : List Int) (w : World) (h1 : Crs w w.heap.size A n c cs) (hr : n * 4 ≤ 140737488355328) :
    Calls Tryz.prog 103 #[.slice A n c] w (RetC w cs) := by
  cases A with
  | none =>
    have hc : c = 0 := h1.nil_ rfl
    have hn : n = 0 := by have := h1.le; omega
    subst hc hn
    obtain rfl : cs = [] := List.eq_nil_of_length_eq_zero h1.len
    have q := eqlC_nil none 0 0
    go_enter Tryz.func103, Tryz.ntmps103
    go_wp2
    go_ret
    exact ⟨none, 0, rfl, OwnC.nil_ _ _, Below.refl _ _⟩
  | some ad =>
    have q := eqlC_nil (some ad) n c
    have hb1 : Below w.heap.size w (w.alloc (.cells #[] 41)) := (Below.refl _ _).alloc (Nat.le_refl _) _
    have HB := Lib.hid (h1.below hb1 (Nat.le_refl _))
    have HV := Lib.hid (show OwnC (w.alloc (.cells #[] 41)) w.heap.size (.slice (some ⟨w.heap.size, 0, none⟩) 0 0) [] from crs_lit w [] (fun x hx => by cases hx) (by simp))
    have HL := Lib.hid h1.len
    have HB1 := Lib.hid hb1
    clear h1 hb1
    go_enter Tryz.func103, Tryz.ntmps103
    go_wp2_with (at_builtin; refine wpList_append_crs (w.alloc (.cells #[] 41)) rfl (.tmp 5) (.tmp 6) rfl w.heap.size _ _ _ [] (by rfl) HV.out w.heap.size _ _ _ cs (by rfl) HB.out (by omega) (by simp) ?_)
    intro A2 c2 w2 hV2 hg2 hx2
    have hb2 := below_appendC HV.out hg2 HB1.out (by simp)
    clear hx2 hg2
    have hV2 : OwnC w2 w.heap.size (.slice A2 n c2) cs := by simpa using hV2
    have H2 := Lib.hid (And.intro hV2 hb2)
    clear hV2 hb2
    go_wp2
    go_ret
    refine ⟨A2, c2, ?_, ?_, H2.out.2⟩
    · rw [HL.out]; simp
    · rw [HL.out]; exact H2.out.1
end Go.Proofs.YtldmnkakpmplnaaGreat.Tbl
