/-
  weave.Write: a row as a record. Conditions: the units may be, their places are at most 2^31; at most sixty units.
-/
import Derived.Test.YtaboamkfpolpbaaWvK
import Derived.Test.YtaboamkfpolpbaaWireF
namespace Go.Proofs.Ytaboamkfpolpbaa
open Go.RowKit
open Pl (Un)

theorem tn_of_wi {T : Nat → Prop} {w w' : World} (h : Wi.Tn T w w') : Tn T w w' := ⟨h.os, h.tape, h.output, h.size, h.block⟩
theorem wi_of_tn {T : Nat → Prop} {w w' : World} (h : Tn T w w') : Wi.Tn T w w' := ⟨h.os, h.tape, h.output, h.size, h.block⟩
namespace Pl
/-- a unit that may be, with its place at most 2^31, in natural numbers -/
def Good (u : Un) : Prop := ∃ k p c x y : Nat, u = ⟨(k : Int), (p : Int), (c : Int), (x : Int), (y : Int)⟩ ∧ k ≤ 2 ∧ p ≤ 2147483648 ∧ c ≤ 1114111 ∧ x ≤ 4294967295 ∧ y ≤ 18446744073709551615
theorem good_of {u : Un} (h : Okay u) (hb : UnB u) (hp : u.p ≤ 2147483648) : Good u := by
  obtain ⟨k, p, c, x, y⟩ := u
  obtain ⟨_, _, _, h4, h5⟩ := hb
  simp only at h4 h5 hp
  have h0 : (0 ≤ k ∧ k ≤ 2) ∧ 0 ≤ p ∧ 0 ≤ c ∧ c ≤ 1114111 := by
    rcases h with ⟨h1, h2, h3⟩ | ⟨h1, h2, h3⟩
    · simp only at h1 h2 h3; omega
    · simp only at h1 h2 h3; unfold May at h3; omega
  refine ⟨k.toNat, p.toNat, c.toNat, x.toNat, y.toNat, ?_, ?_, ?_, ?_, ?_, ?_⟩
  · congr <;> omega
  all_goals omega
/-- a unit as a record -/
def urec (u : Un) : List Nat := Wi.Pl.enc u.k.toNat ++ (Wi.Pl.enc u.p.toNat ++ (Wi.Pl.enc u.c.toNat ++ (Wi.Pl.enc u.x.toNat ++ Wi.Pl.enc u.y.toNat)))
def flat (l : List Un) : List Nat := l.flatMap urec
/-- a row as a record -/
def recs (l : List Un) : List Nat := Wi.Pl.enc l.length ++ flat l
theorem flat_append (a b : List Un) : flat (a ++ b) = flat a ++ flat b := by simp [flat]
theorem flat_cons (u : Un) (l : List Un) : flat (u :: l) = urec u ++ flat l := by simp [flat]
theorem enc10 {n : Nat} (h : n ≤ 18446744073709551615) : (Wi.Pl.enc n).length ≤ 10 := by
  rw [Wi.Pl.len_enc]; exact Wi.Pl.sz_le10 (by omega)
theorem len_urec {u : Un} (h : Good u) : (urec u).length ≤ 50 := by
  obtain ⟨k, p, c, x, y, rfl, h1, h2, h3, h4, h5⟩ := h
  have a1 := enc10 (n := k) (by omega)
  have a2 := enc10 (n := p) (by omega)
  have a3 := enc10 (n := c) (by omega)
  have a4 := enc10 (n := x) (by omega)
  have a5 := enc10 (n := y) (by omega)
  simp only [urec, Int.toNat_natCast, List.length_append]
  omega
theorem len_flat {l : List Un} (h : ∀ u ∈ l, Good u) : (flat l).length ≤ 50 * l.length := by
  induction l with
  | nil => exact Nat.le_refl _
  | cons u l ih =>
    have h1 := len_urec (h u (List.mem_cons_self ..))
    have h2 := ih (fun v hv => h v (List.mem_cons_of_mem _ hv))
    rw [flat_cons, List.length_append, List.length_cons]
    omega
theorem flat_take {l : List Un} {j : Nat} (hj : j < l.length) : flat (l.take (j + 1)) = flat (l.take j) ++ urec (l.getD j default) := by
  rw [List.take_add_one, List.getElem?_eq_getElem hj, List.getD_eq_getElem?_getD, List.getElem?_eq_getElem hj, flat_append]
  simp [flat]
theorem flat_drop {l : List Un} {j : Nat} (hj : j < l.length) : flat (l.drop j) = urec (l.getD j default) ++ flat (l.drop (j + 1)) := by
  rw [List.drop_eq_getElem_cons hj, flat_cons, List.getD_eq_getElem?_getD, List.getElem?_eq_getElem hj]; rfl
end Pl
/-- a writer that has written bs since w, and a unit beside it -/
def WsU (w : World) (p : Nat) (F : Nat → Prop) (bs : List Nat) (ub : Nat) (k q c x y : Int) (w1 : World) : Prop :=
  ∃ F1, Wi.Wr w1 p F1 bs ∧ Wi.Tn F w w1 ∧ (∀ b, F1 b → F b ∨ w.heap.size ≤ b) ∧ (∀ b, F b → F1 b) ∧ ¬ F1 ub ∧ UAt w1 ub k q c x y
theorem WsU.start {w w1 : World} {p : Nat} {F : Nat → Prop} {bs : List Nat} (h : Wi.Wrote w p F bs w1) (k q c x y : Int) : WsU w p F bs w1.heap.size k q c x y (w1.alloc (.cells #[.int .i64 k, .int .i64 q, .int .i32 c, .int .u32 x, .int .u64 y] 36)) := by
  obtain ⟨F1, h1, h2, h3, h4⟩ := h
  exact ⟨F1, h1.below (below_box _ _), h2.trans (Wi.Tn.of F1 (below_box _ _)) (fun b hb hf => (h3 b hf).elim id (fun h => by omega)), h3, h4, fun hf => by have := h1.lt _ hf; omega, uat_new _ _ _ _ _ _⟩
theorem WsU.wrote {w w1 : World} {p ub : Nat} {F : Nat → Prop} {bs : List Nat} {k q c x y : Int} (h : WsU w p F bs ub k q c x y w1) : Wi.Wrote w p F bs w1 := by
  obtain ⟨F1, h1, h2, h3, h4, _⟩ := h
  exact ⟨F1, h1, h2, h3, h4⟩
theorem WsU.uat {w w1 : World} {p ub : Nat} {F : Nat → Prop} {bs : List Nat} {k q c x y : Int} (h : WsU w p F bs ub k q c x y w1) : UAt w1 ub k q c x y := by
  obtain ⟨F1, _, _, _, _, _, h⟩ := h
  exact h
theorem WsU.num {w w1 : World} {p ub : Nat} {F : Nat → Prop} {bs : List Nat} {k q c x y : Int} (h : WsU w p F bs ub k q c x y w1) (n : Nat) (hn : n ≤ 18446744073709551615) (hl : bs.length ≤ 100000) :
    Calls Try.prog 42 #[.pointer (some ⟨p, 0, none⟩), .int .u64 (n : Int)] w1 fun e w2 => e = .returned (.tuple #[]) ∧ WsU w p F (bs ++ Wi.Pl.enc n) ub k q c x y w2 := by
  obtain ⟨F1, h1, h2, h3, h4, h5, h6⟩ := h
  refine (Wi.wnum_any p F1 bs n w1 h1 (Wi.Pl.U.mk (by omega)) (by omega)).mono ?_
  rintro e w2 ⟨rfl, F2, g1, g2, g3, g4⟩
  refine ⟨rfl, F2, g1, h2.trans g2 (fun b hb hf => (h3 b hf).elim id (fun h => by omega)), fun b hb => ?_, fun b hb => g4 b (h4 b hb), fun hf => ?_, UAt.tn h6 (tn_of_wi g2) h5⟩
  · rcases g3 b hb with h | h
    · exact h3 b h
    · exact Or.inr (Nat.le_trans h2.size h)
  · rcases g3 ub hf with h | h
    · exact h5 h
    · have := h6.lt; omega
/-- between one unit and the next -/
def WrR (w : World) (p : Nat) (F : Nat → Prop) (l : List Un) (i : Value) (wr : World) : Prop := ∃ j : Nat, i = .int .i64 (j : Int) ∧ j ≤ l.length ∧ Wi.Wrote w p F (Wi.Pl.enc l.length ++ Pl.flat (l.take j)) wr
set_option maxRecDepth 100000 in
set_option maxHeartbeats 2000000 in
theorem write_any (p : Nat) (F : Nat → Prop) (w : World) (A : Option Addr) (n c : Nat) (l : List Un) (hW : Wi.Wr w p F []) (hU : Uns w w.heap.size A n c l) (hg : ∀ u ∈ l, Pl.Good u) (hn : n ≤ 60) (hA : Apart F A n) :
    Calls Try.prog 25 #[.pointer (some ⟨p, 0, none⟩), .slice A n c] w fun e w' => e = .returned (.tuple #[]) ∧ Wi.Wrote w p F (Pl.recs l) w' := by
  have HN := Lib.hid (Wi.wnum_any p F [] n w hW (Wi.Pl.U.mk (by omega)) (by simp))
  have HL := Lib.hid hU.len
  have HU := Lib.hid hU
  have HG := Lib.hid hg
  have HA := Lib.hid hA
  have hnw : IntKind.u64.wrap (n : Int) = (n : Int) := by rw [IntKind.wrap_u64]; omega
  clear hW hU hg hA
  go_enter Try.func25, Try.ntmps25
  go_wp2_with fail
  refine HN.out.mono ?_
  rintro e w1 ⟨rfl, hw⟩
  rw [List.nil_append] at hw
  have HR := Lib.hid (show WrR w p F l (.int .i64 ((0 : Nat) : Int)) w1 from ⟨0, rfl, Nat.zero_le _, by rw [HL.out, List.take_zero]; simpa [Pl.flat] using hw⟩)
  clear hw HN hnw
  go_wp2_with fail
  go_loopw [13] (fun i wr => WrR w p F l i wr) (fun i _ => n - (intOf i).toNat)
  case atStart => exact HR.out
  case round =>
    obtain ⟨j, rfl, hj, hw⟩ := hrel
    have HW := Lib.hid hw
    rw [HL.out] at hj
    clear HR
    by_cases hlt : j < n
    · have hjl : j < l.length := by rw [HL.out]; exact hlt
      obtain ⟨_, _, ht, _, _⟩ := hw
      obtain ⟨g1, o1, rfl, hg1, hc1⟩ := Uns.at_ (Rws.tn HU.out (tn_of_wi ht) HA.out) hlt
      obtain ⟨a0, a1, a2, a3, a4⟩ := hc1 j hlt
      have HFT := Lib.hid (Pl.flat_take hjl)
      have hgj := HG.out _ (mem_getD hjl)
      have hlen : (Wi.Pl.enc l.length ++ Pl.flat (l.take j)).length ≤ 3100 := by
        have h1 := Pl.enc10 (n := l.length) (by rw [HL.out]; omega)
        have h2 := Pl.len_flat (l := l.take j) (fun u hu => HG.out u (List.mem_of_mem_take hu))
        rw [List.length_append]
        rw [List.length_take] at h2
        omega
      obtain ⟨u, hu⟩ : ∃ u, u = l.getD j default := ⟨_, rfl⟩
      rw [← hu] at a0 a1 a2 a3 a4 hgj HFT
      obtain ⟨k, q, ch, x, y, rfl, h1, h2, h3, h4, h5⟩ := hgj
      simp only at a0 a1 a2 a3 a4
      have m1 : ¬ ((k : Int) < 0) := by omega
      have m2 : ¬ ((q : Int) < 0) := by omega
      have m3 : ¬ ((ch : Int) < 0) := by omega
      have e1 : IntKind.u64.wrap (k : Int) = (k : Int) := by rw [IntKind.wrap_u64]; omega
      have e2 : IntKind.u64.wrap (q : Int) = (q : Int) := by rw [IntKind.wrap_u64]; omega
      have e3 : IntKind.u64.wrap (ch : Int) = (ch : Int) := by rw [IntKind.wrap_u64]; omega
      have e4 : IntKind.u64.wrap (x : Int) = (x : Int) := by rw [IntKind.wrap_u64]; omega
      have z0 : (0 : Int) ≤ (j : Int) := Int.natCast_nonneg j
      have z1 : (j : Int) < (n : Int) := Int.ofNat_lt.2 hlt
      have HMS := Lib.hid (fi_meas hlt)
      have HJN := Lib.hid (show j + 1 ≤ l.length from hjl)
      have WS0 := Lib.hid (WsU.start HW.out (k : Int) (q : Int) (ch : Int) (x : Int) (y : Int))
      obtain ⟨B0, hB0⟩ : ∃ B0, B0 = Wi.Pl.enc l.length ++ Pl.flat (l.take j) := ⟨_, rfl⟩
      rw [← hB0] at WS0 hlen
      have HB0 := Lib.hid hB0
      have hen := fun (n : Nat) (h : n ≤ 18446744073709551615) => Pl.enc10 h
      clear hc1 ht hu hB0 HW
      go_wp2_with fail
      refine (WS0.out.num k (by omega) (by omega)).mono ?_
      rintro e v0 ⟨rfl, hs⟩
      have hlen0 : (B0 ++ Wi.Pl.enc k).length ≤ 3110 := by
        have := hen k (by omega)
        rw [List.length_append]
        omega
      have WS1 := Lib.hid hs
      obtain ⟨b00, b01, b02, b03, b04⟩ := hs.uat.cells
      clear hs
      go_wp2_with fail
      refine (WS1.out.num q (by omega) (by omega)).mono ?_
      rintro e v1 ⟨rfl, hs⟩
      have hlen1 : ((B0 ++ Wi.Pl.enc k) ++ Wi.Pl.enc q).length ≤ 3120 := by
        have := hen q (by omega)
        rw [List.length_append]
        omega
      have WS2 := Lib.hid hs
      obtain ⟨b10, b11, b12, b13, b14⟩ := hs.uat.cells
      clear hs
      go_wp2_with fail
      refine (WS2.out.num ch (by omega) (by omega)).mono ?_
      rintro e v2 ⟨rfl, hs⟩
      have hlen2 : (((B0 ++ Wi.Pl.enc k) ++ Wi.Pl.enc q) ++ Wi.Pl.enc ch).length ≤ 3130 := by
        have := hen ch (by omega)
        rw [List.length_append]
        omega
      have WS3 := Lib.hid hs
      obtain ⟨b20, b21, b22, b23, b24⟩ := hs.uat.cells
      clear hs
      go_wp2_with fail
      refine (WS3.out.num x (by omega) (by omega)).mono ?_
      rintro e v3 ⟨rfl, hs⟩
      have hlen3 : ((((B0 ++ Wi.Pl.enc k) ++ Wi.Pl.enc q) ++ Wi.Pl.enc ch) ++ Wi.Pl.enc x).length ≤ 3140 := by
        have := hen x (by omega)
        rw [List.length_append]
        omega
      have WS4 := Lib.hid hs
      obtain ⟨b30, b31, b32, b33, b34⟩ := hs.uat.cells
      clear hs
      go_wp2_with fail
      refine (WS4.out.num y (by omega) (by omega)).mono ?_
      rintro e v4 ⟨rfl, hs⟩
      have hlen4 : (((((B0 ++ Wi.Pl.enc k) ++ Wi.Pl.enc q) ++ Wi.Pl.enc ch) ++ Wi.Pl.enc x) ++ Wi.Pl.enc y).length ≤ 3150 := by
        have := hen y (by omega)
        rw [List.length_append]
        omega
      have WS5 := Lib.hid hs
      obtain ⟨b40, b41, b42, b43, b44⟩ := hs.uat.cells
      clear hs
      go_wp2_with fail
      go_roundw
      case rel =>
        refine ⟨j + 1, by go_num, HJN.out, ?_⟩
        have h := WS5.out.wrote
        rw [HFT.out]
        simp only [List.append_assoc] at h ⊢
        rw [HB0.out, List.append_assoc] at h
        simpa only [Pl.urec, Int.toNat_natCast, List.append_assoc] using h
      case measure => simp [intOf]; exact HMS.out
    · obtain rfl : j = n := by omega
      have HW2 := Lib.hid (show Wi.Wrote w p F (Pl.recs l) wr by have h := HW.out; rw [← HL.out, List.take_length] at h; exact h)
      clear hw HW
      go_wp2_with fail
      exact ⟨rfl, _, Wi.results_none (by kernel_rfl), rfl, HW2.out⟩
end Go.Proofs.Ytaboamkfpolpbaa
