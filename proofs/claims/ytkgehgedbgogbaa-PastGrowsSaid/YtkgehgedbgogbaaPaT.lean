/-
  past.Past's behind: the operations from a place on, in new memory. Conditions: those of a past.
-/
import Derived.Test.YtkgehgedbgogbaaPaS
namespace Go.Proofs.Ytkgehgedbgogbaa
open Go.RowKit
open Pl (Un)

/-- operations of the call's own, in plain words: the row and the units lie in new blocks -/
def RowO (w : World) (B : Nat) (v : Value) (P : List Pl.Op) : Prop := ∃ F L, OwnO 38 w B F v L ∧ (∀ b, F b → B ≤ b ∧ b < w.heap.size) ∧ L.map OpV.op = P
section
variable {w w' : World} {B n c : Nat} {A : Option Addr} {v : Value} {P : List Pl.Op}
theorem RowO.nil_ (w : World) (B : Nat) : RowO w B (.slice none 0 0) [] := ⟨fun _ => False, [], OwnO.nil_ _ _ _ _, fun _ h => h.elim, rfl⟩
theorem RowO.then_ (h : RowO w B v P) (hb : Below w.heap.size w w') : RowO w' B v P := by
  obtain ⟨F, L, h1, h2, h3⟩ := h
  exact ⟨F, L, h1.then_ hb, fun b hF => ⟨(h2 b hF).1, Nat.lt_of_lt_of_le (h2 b hF).2 hb.size⟩, h3⟩
theorem RowO.tn {T : Nat → Prop} (h : RowO w B v P) (ht : Tn T w w') (hT : ∀ b, T b → b < B) : RowO w' B v P := by
  obtain ⟨F, L, h1, h2, h3⟩ := h
  exact ⟨F, L, h1.tn ht (fun b hF hb => by have := (h2 b hF).1; have := hT b hb; omega) (fun g hg hb => by have := (h1.row.lt g hg).1; have := hT g hb; omega), fun b hF => ⟨(h2 b hF).1, Nat.lt_of_lt_of_le (h2 b hF).2 ht.size⟩, h3⟩
theorem RowO.lower {B' : Nat} (h : RowO w B v P) (hb : B' ≤ B) : RowO w B' v P := by
  obtain ⟨F, L, h1, h2, h3⟩ := h
  exact ⟨F, L, h1.lower hb, fun b hF => ⟨Nat.le_trans hb (h2 b hF).1, (h2 b hF).2⟩, h3⟩
theorem RowO.ops (h : RowO w B (.slice A n c) P) : n = P.length ∧ ∃ L, OpsF w (fun b => B ≤ b) A n c L ∧ L.map OpV.op = P := by
  obtain ⟨F, L, h1, h2, h3⟩ := h
  obtain ⟨hn, hr⟩ := h1.rws
  refine ⟨by rw [hn, ← h3, List.length_map], L, ⟨hr, fun h0 ad e => ?_, fun o ho => (h1.uns o ho).more fun b hb => (h2 b hb).1⟩, h3⟩
  subst e
  exact (h1.row.lt _ rfl).1
end
/-- a call's answer: operations in new memory -/
def RetO (w : World) (P : List Pl.Op) (e : Ending) (w' : World) : Prop := ∃ A c, e = .returned (.slice A P.length c) ∧ RowO w' w.heap.size (.slice A P.length c) P ∧ Below w.heap.size w w'
/-- between one operation and the next -/
def BeR (w : World) (k : Nat) (P : List Pl.Op) (s i : Value) (wr : World) : Prop := ∃ (j : Nat) (A : Option Addr) (c : Nat), i = .int .i64 (j : Int) ∧ s = .slice A j c ∧ k + j ≤ P.length ∧ RowO wr w.heap.size (.slice A j c) ((P.drop k).take j) ∧ Below w.heap.size w wr
theorem lit_op (w : World) (o : OpV) : Rws encO (w.alloc (.cells #[.int .u32 o.x, .int .u64 o.y, .slice o.A o.n o.c, .bool o.b] 38)) (w.heap.size + 1) (some ⟨w.heap.size, 0, none⟩) 1 1 [o] := by
  have h := (OwnR.rws encO_len (litO w [o] (by simp [maxLen]))).2
  simpa [cellsR, encO] using h
/-- one more operation behind those of one's own -/
theorem OwnO.with {tO : TypeId} {w : World} {base : Nat} {F : Nat → Prop} {v : Value} {L : List OpV} {A' : Option Addr} {B' : Nat} (h : OwnO tO w base F v L) (hB : ∀ g, v.ownBlock = some g → g < B') (hA : ∀ a, A' = some a → B' ≤ a.block) : OwnO tO w base (fun b => F b ∨ ∃ a, A' = some a ∧ a.block = b) v L :=
  h.more (fun _ hb => Or.inl hb) fun g hg e => by
    rcases e with e | ⟨a, e1, e2⟩
    · exact h.apart g hg e
    · have := hB g hg; have := hA a e1; omega
/-- as the run of the builtin: one operation more, its units in new memory -/
theorem run_append_op {w : World} {base : Nat} {A : Option Addr} {n c : Nat} {P : List Pl.Op} (ty : TypeId) (w1 : World) (h : RowO w1 base (.slice A n c) P) (x y : Int) (l : List Un) (b : Bool) (A' : Option Addr) (c' : Nat) (ho : OwnU w w1.heap.size (.slice A' l.length c') l) (hb : Below w1.heap.size w1 w) (hbase : base ≤ w1.heap.size) (hn : n < 1000) :
    ∃ A2 c2 w', (Builtin.append_ #[24, 24] ty #[.slice A n c, .slice (some ⟨w.heap.size, 0, none⟩) 1 1]).run Try.prog (w.alloc (.cells #[.int .u32 x, .int .u64 y, .slice A' l.length c', .bool b] 38)) = .ok (.slice A2 (n + 1) c2) w' ∧ RowO w' base (.slice A2 (n + 1) c2) (P ++ [⟨x, y, l, b⟩]) ∧ Below base (w.alloc (.cells #[.int .u32 x, .int .u64 y, .slice A' l.length c', .bool b] 38)) w' := by
  obtain ⟨F, L, h1, h2, h3⟩ := h
  obtain ⟨W, hW⟩ : ∃ W, W = w.alloc (.cells #[.int .u32 x, .int .u64 y, .slice A' l.length c', .bool b] 38) := ⟨_, rfl⟩
  have hbW : Below w.heap.size w W := by rw [hW]; exact below_box _ _
  have hs0 := hb.size
  have hs1 := hbW.size
  have hlt := h1.row.lt
  have hA : ∀ a, A' = some a → w1.heap.size ≤ a.block ∧ a.block < w.heap.size := fun a e => by
    subst e
    exact OwnR.lt ho _ rfl
  have hO : OwnO 38 W base (fun b => F b ∨ ∃ a, A' = some a ∧ a.block = b) (.slice A n c) L :=
    OwnO.with ((h1.then_ hb).then_ hbW) (B' := w1.heap.size) (fun g hg => (hlt g hg).2) (fun a e => (hA a e).1)
  have hsrc := lit_op w ⟨x, y, A', l.length, c', l, b⟩
  rw [← hW]
  simp only at hsrc
  rw [← hW] at hsrc
  have hU : UnsF W (fun b => F b ∨ ∃ a, A' = some a ∧ a.block = b) A' l.length c' l := ⟨Rws.then_ (OwnU.uns ho) hbW, fun _ ad e => Or.inr ⟨ad, e, rfl⟩⟩
  obtain ⟨A2, c2, w', hr, ho2, hg, hat⟩ := run_append_ops (tO := 38) (t := 24) (bytes := 48) Try.underlying24 infoO rfl ty hO (w.heap.size + 1) (some ⟨w.heap.size, 0, none⟩) 1 1 [⟨x, y, A', l.length, c', l, b⟩] hsrc (fun o ho => by rw [List.mem_singleton.1 ho]; exact hU) (fun b hb => by
      rcases hb with hb | ⟨a, e1, e2⟩
      · have := (h2 b hb).2; omega
      · have := (hA a e1).2; omega) (by unfold maxLen; omega) (by omega) (by omega)
  refine ⟨A2, c2, w', hr, ⟨_, _, ho2, fun b hb => ?_, by rw [List.map_append, h3]; rfl⟩, OwnR.grownBelow hO.row hg (Below.refl _ _) (by omega)⟩
  have hs2 := (grown_tn hg).size
  rcases hb with hb | ⟨a, e1, e2⟩
  · have := h2 b hb; omega
  · have := hA a e1; omega
set_option maxRecDepth 100000 in
set_option maxHeartbeats 400000 in
theorem behind_any {w : World} {p : Nat} {F : Nat → Prop} {fr : Nat} {N : Int} {P : List Pl.Op} (h : PastAt w p F fr N P) (k : Nat) (hk : k ≤ P.length) :
    Calls Try.prog 30 #[.pointer (some ⟨p, 0, none⟩), .int .i64 (k : Int)] w (RetO w (P.drop k)) := by
  have HLN := Lib.hid (len_past h)
  have hcnt := h.fine.cnt
  have hsml := h.fine.small
  obtain ⟨A, n, c, B, m, d, L, h⟩ := h
  have hn := h.n_len
  obtain ⟨M, hM⟩ : ∃ M, M = P.length := ⟨_, rfl⟩
  rw [← hM] at HLN hk hcnt hn
  subst hn
  have HH := Lib.hid h
  have HM := Lib.hid hM
  have HSM := Lib.hid hsml
  have hw1 : wrap64 ((n : Int) - (k : Int)) = ((n - k : Nat) : Int) := by unfold wrap64; omega
  clear h hM hsml
  go_enter Try.func30, Try.ntmps30
  go_wp2_with fail
  refine HLN.out.mono ?_
  rintro e w' ⟨rfl, rfl⟩
  obtain ⟨w, hw⟩ : ∃ z, z = w' := ⟨_, rfl⟩
  subst hw
  go_wp2_with fail
  go_loopw [5, 11] (fun s i wr => BeR w k P s i wr) (fun _ i _ => n - k - (intOf i).toNat)
  case atStart => exact ⟨0, none, 0, rfl, rfl, by rw [← HM.out]; exact hk, by rw [List.take_zero]; exact RowO.nil_ _ _, Below.refl _ _⟩
  case round =>
    obtain ⟨j, A1, c1, rfl, rfl, hj, hro, hb⟩ := hrel
    have HRO := Lib.hid hro
    have HB := Lib.hid hb
    rw [← HM.out] at hj
    clear hro
    by_cases hlt : j < n - k
    · have hkn : k + j < n := by omega
      have hw2 : wrap64 ((k : Int) + (j : Int)) = ((k + j : Nat) : Int) := by unfold wrap64; omega
      have z0 : (0 : Int) ≤ ((k + j : Nat) : Int) := by omega
      have z1 : ((k + j : Nat) : Int) < (n : Int) := by omega
      have HMS := Lib.hid (show n - k - (j + 1) < n - k - j by omega)
      have hj1 : j < 1000 := by omega
      have HJ := Lib.hid (show k + (j + 1) ≤ P.length by rw [← HM.out]; exact hkn)
      have hPW := HH.out.then_ hb
      obtain ⟨c0, c2, c3⟩ := hPW.cells
      obtain ⟨g1, o1, rfl, hg1, _, hc1⟩ := hPW.ops.at_ hkn
      obtain ⟨a0, a1, a2, a3⟩ := hc1 (k + j) hkn
      have hU := hPW.ops.getD_ hkn
      have hop := hPW.getD_ (show k + j < P.length by rw [← HM.out]; exact hkn)
      have hsm := HSM.out (P.getD (k + j) default) (by rw [List.getD_eq_getElem?_getD, List.getElem?_eq_getElem (by rw [← HM.out]; exact hkn)]; exact List.getElem_mem _)
      have HTK := Lib.hid (show (P.drop k).take (j + 1) = (P.drop k).take j ++ [P.getD (k + j) default] by
        rw [List.take_add_one, List.getElem?_drop, List.getD_eq_getElem?_getD, List.getElem?_eq_getElem (by rw [← HM.out]; exact hkn)]; rfl)
      obtain ⟨⟨x, y, A2, n2, c2', l, b⟩, ho⟩ : ∃ o, o = L.getD (k + j) default := ⟨_, rfl⟩
      rw [← ho] at a0 a1 a2 a3 hU hop
      simp only at a0 a1 a2 a3 hU
      have hop2 : (⟨x, y, l, b⟩ : Pl.Op) = P.getD (k + j) default := hop
      rw [← hop2] at HTK hsm
      have hl2 := hU.1.len
      have HOW := Lib.hid (ownOp_any x y A2 n2 c2' l b wr hU.1 (by rw [← hl2]; exact hsm))
      clear hPW hc1 hU hop hop2 hsm ho hl2 hg1 hb
      go_wp2_with fail
      refine HOW.out.mono ?_
      rintro e w2 ⟨A3, c3', rfl, ho3, hb3⟩
      obtain ⟨A4, c4, w4, hr, hro4, hb4⟩ := run_append_op 24 wr HRO.out x y l b A3 c3' ho3 hb3 HB.out.size hj1
      have HR := Lib.hid hr
      rw [← HTK.out] at hro4
      have HRO4 := Lib.hid hro4
      have HB4 := Lib.hid (show Below w.heap.size w w4 from (below_alloc (below_then HB.out hb3) _).trans hb4)
      clear ho3 hb3 hr hro4 hb4 a0 a1 a2 a3 c0 c2 c3
      go_wp2_with (at_builtin; refine Lib.wpList_append_run (w2.alloc (.cells #[.int .u32 x, .int .u64 y, .slice A3 l.length c3', .bool b] 38)) (by rfl) (.tmp 14) (.tmp 25) 24 24 (by rfl) (.slice A1 j c1) (.slice (some ⟨w2.heap.size, 0, none⟩) 1 1) (by rfl) (by rfl) _ _ HR.out ?_)
      go_wp2_with fail
      go_roundw
      case rel => exact ⟨j + 1, A4, c4, by go_num, rfl, HJ.out, HRO4.out, HB4.out⟩
      case measure => simp [intOf]; exact HMS.out
    · have hjn : j = n - k := by omega
      subst hjn
      have HE := Lib.hid (show (P.drop k).take (n - k) = P.drop k from List.take_of_length_le (by rw [List.length_drop, HM.out]; exact Nat.le_refl _))
      have HLE := Lib.hid (show (P.drop k).length = n - k by rw [List.length_drop, HM.out])
      clear hb
      go_wp2_with fail
      go_ret
      rw [← HLE.out]
      refine ⟨A1, c1, rfl, ?_, HB.out⟩
      have := HRO.out
      rw [HE.out] at this
      rw [HLE.out]
      exact this
end Go.Proofs.Ytkgehgedbgogbaa
