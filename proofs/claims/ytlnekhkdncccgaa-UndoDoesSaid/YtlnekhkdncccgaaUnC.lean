/-
  undo.turn: a row in new memory, each unit as a closure makes it; for any closure whose own contract is known, and whose state lies apart from the row. Conditions: rows of at most a thousand units.
-/
import Derived.Test.YtlnekhkdncccgaaUnB
namespace Go.Proofs.Ytlnekhkdncccgaa
open Go.RowKit
open Pl (Un)

/-- between one unit and the next: the state, the blocks it lives in, the row -/
def TuR (w : World) (V : Value) (l : List Un) (out : Nat → Un) (St : Nat → (Nat → Prop) → World → Prop) (X0 : Nat → Prop) (i : Value) (wr : World) : Prop :=
  ∃ j : Nat, i = .int .i64 (j : Int) ∧ j ≤ l.length ∧ OwnU wr w.heap.size V ((List.range j).map out ++ l.drop j) ∧ ∃ X, St j X wr ∧ Tn X0 w wr ∧ (∀ b, X b → X0 b ∨ w.heap.size ≤ b) ∧ ∀ g, V.ownBlock = some g → ¬ X g
theorem len_outs (out : Nat → Un) (j : Nat) : ((List.range j).map out).length = j := by simp
set_option maxRecDepth 100000 in
set_option maxHeartbeats 1000000 in
theorem turn_any (f : FuncId) (caps : Array Value) (hf : ∀ args w, (callFunc f args).run Try.prog w = .ok (.enter f args) w) (A : Option Addr) (n c : Nat) (l : List Un) (w : World) (h1 : Uns w w.heap.size A n c l) (hr : n ≤ 1000)
    (St : Nat → (Nat → Prop) → World → Prop) (out : Nat → Un) (X0 : Nat → Prop)
    (hS : ∀ j X wr, j < l.length → St j X wr → Calls Try.prog f (#[uval (l.getD j default)] ++ caps) wr fun e w' => e = .returned (uval (out j)) ∧ ∃ X', St (j + 1) X' w' ∧ Tn X wr w' ∧ ∀ b, X' b → X b ∨ wr.heap.size ≤ b)
    (hC : ∀ j X Y wr w', St j X wr → Tn Y wr w' → (∀ b, Y b → ¬ X b) → St j X w') (h0 : St 0 X0 w) (hX : ∀ b, X0 b → b < w.heap.size) :
    Calls Try.prog 36 #[.slice A n c, .func (.func f) #[] caps] w fun e w' => ∃ A' c', e = .returned (.slice A' l.length c') ∧ OwnU w' w.heap.size (.slice A' l.length c') ((List.range l.length).map out) ∧ (∃ X', St l.length X' w') ∧ Tn X0 w w' := by
  have HL := Lib.hid h1.len
  have HCL := Lib.hid (cloneU_any A n c l w h1 hr)
  have HS := Lib.hid hS
  have HC := Lib.hid hC
  have H0 := Lib.hid h0
  have HX := Lib.hid hX
  clear h1 hS hC h0 hX
  go_enter Try.func36, Try.ntmps36
  go_wp2_with fail
  refine HCL.out.mono ?_
  rintro e w1 ⟨A1, c1, rfl, hO, hb⟩
  obtain ⟨N, hN⟩ : ∃ N, N = l.length := ⟨_, rfl⟩
  rw [← hN] at hO ⊢
  have HN := Lib.hid hN
  have hNb : N ≤ 1000 := by have := HL.out; omega
  have HR := Lib.hid (show TuR w (.slice A1 N c1) l out St X0 (.int .i64 ((0 : Nat) : Int)) w1 from
    ⟨0, rfl, Nat.zero_le _, hO, X0, HC.out 0 X0 (fun _ => False) w w1 H0.out (Tn.of _ hb) (fun b h => h.elim), Tn.of _ hb, fun b h => Or.inl h, fun g hg hx => by have := (hO.lt g hg).1; have := HX.out g hx; omega⟩)
  clear hO hb hN HCL
  go_wp2_with fail
  go_loopw [12] (fun i wr => TuR w (.slice A1 N c1) l out St X0 i wr) (fun i _ => N - (intOf i).toNat)
  case atStart => exact HR.out
  case round =>
    obtain ⟨j, rfl, hj, ho, X, hst, ht, hxx, hxg⟩ := hrel
    have HO := Lib.hid ho
    have HT := Lib.hid ht
    have HST := Lib.hid hst
    have HXX := Lib.hid hxx
    have HXG := Lib.hid hxg
    rw [← HN.out] at hj
    by_cases hlt : j < N
    · obtain ⟨g, rfl, hbg, hgw⟩ := OwnR.pos_ ho (by omega)
      obtain ⟨k0, k1, k2, k3, k4, _⟩ := OwnU.cells ho hlt
      have hjl : j < l.length := by rw [← HN.out]; exact hlt
      rw [list_at (len_outs out j) j rfl] at k0 k1 k2 k3 k4
      obtain ⟨x, hx⟩ : ∃ x, x = l.getD j default := ⟨_, rfl⟩
      rw [← hx] at k0 k1 k2 k3 k4
      obtain ⟨W5, hW5⟩ : ∃ W5, W5 = wr.alloc (.cells #[.int .i64 x.k, .int .i64 x.p, .int .i32 x.c, .int .u32 x.x, .int .u64 x.y] 42) := ⟨_, rfl⟩
      have hb5 : Below wr.heap.size wr W5 := by rw [hW5]; exact below_box _ _
      have HCC := Lib.hid (HS.out j X W5 hjl (HC.out j X (fun _ => False) wr W5 hst (Tn.of _ hb5) (fun b h => h.elim)))
      have HW5 := Lib.hid hW5
      have HB5 := Lib.hid hb5
      have z0 : (0 : Int) ≤ (j : Int) := Int.natCast_nonneg j
      have z1 : (j : Int) < (N : Int) := Int.ofNat_lt.2 hlt
      obtain ⟨⟨ka, pa, ca, xa, ya⟩, ha⟩ : ∃ r, r = out j := ⟨_, rfl⟩
      rw [← ha, ← hx] at HCC
      have HNX := Lib.hid (show ((List.range j).map out ++ l.drop j).set j ⟨ka, pa, ca, xa, ya⟩ = (List.range (j + 1)).map out ++ l.drop (j + 1) from by
        rw [list_set (len_outs out j) hjl, List.range_succ, List.map_append, ha]; rfl)
      have HMS := Lib.hid (show N - (j + 1) < N - j by omega)
      have HJ1 := Lib.hid (show j + 1 ≤ l.length from hjl)
      unfold uval at HCC
      simp only at HCC
      have hgw5 : g < W5.heap.size := Nat.lt_of_lt_of_le hgw hb5.size
      have HGW := Lib.hid (And.intro hbg hgw)
      clear ho hst ht hxx hxg hx hW5 hb5 ha hbg hgw hgw5
      go_wp2_with fail
      rw [show wr.alloc (.cells #[.int .i64 x.k, .int .i64 x.p, .int .i32 x.c, .int .u32 x.x, .int .u64 x.y] 42) = W5 from HW5.out.symm]
      refine HCC.out.mono ?_
      rintro e w6 ⟨rfl, X', hst6, ht6, hx6⟩
      have hxg : ¬ X g := HXG.out g rfl
      have ho6 := OwnR.tn (OwnR.then_ HO.out HB5.out) ht6 (fun g1 h1 h2 => by cases h1; exact hxg h2)
      have HO6 := Lib.hid ho6
      obtain ⟨d0, d1, d2, d3, d4, f2⟩ := OwnU.cells ho6 hlt
      have HX6 := Lib.hid (show ¬ X' g from fun h => by
        rcases hx6 g h with h | h
        · exact hxg h
        · have := HB5.out.size; have := HGW.out.2; omega)
      have HT6 := Lib.hid (show Tn X0 w w6 from (HT.out.trans (T' := fun _ => False) (Tn.of _ HB5.out) (fun b _ h => h.elim)).trans ht6 (fun b hb hx => by
        rcases HXX.out b hx with h | h
        · exact h
        · omega))
      have HXX6 := Lib.hid (show ∀ b, X' b → X0 b ∨ w.heap.size ≤ b from fun b hb => by
        rcases hx6 b hb with h | h
        · exact HXX.out b h
        · refine Or.inr ?_
          have := HB5.out.size; have := HT.out.size; omega)
      have HST6 := Lib.hid hst6
      clear k0 k1 k2 k3 k4 ho6 ht6 hst6 hxg hx6 HCC
      go_wp2_with fail
      have HO7 := Lib.hid (OwnU.sets HO6.out hlt ⟨ka, pa, ca, xa, ya⟩)
      have HT7 := Lib.hid (tn_five (T := fun b => b = g) (i := j * 5) (Tn.refl _ w6) (Or.inr rfl) (.int .i64 ka) (.int .i64 pa) (.int .i32 ca) (.int .u32 xa) (.int .u64 ya))
      go_roundw
      case rel =>
        refine ⟨j + 1, by go_num, HJ1.out, ?_, X', HC.out _ _ _ _ _ HST6.out HT7.out (fun b hb h => by subst hb; exact HX6.out h), ?_, HXX6.out, fun g1 h1 h2 => by cases h1; exact HX6.out h2⟩
        · rw [← HNX.out]; exact HO7.out
        · exact HT6.out.trans HT7.out (fun b hb h => by subst h; have := HGW.out.1; omega)
      case measure => simp [intOf]; exact HMS.out
    · have hjm : j = l.length := by have := HN.out; omega
      subst hjm
      rw [List.drop_length, List.append_nil] at ho
      have HR2 := Lib.hid ho
      have hNN := HN.out
      subst hNN
      clear HO HR ho hst ht hxx hxg
      go_wp2_with fail
      go_ret
      exact ⟨A1, c1, rfl, HR2.out, ⟨X, HST.out⟩, HT.out⟩
end Go.Proofs.Ytlnekhkdncccgaa
