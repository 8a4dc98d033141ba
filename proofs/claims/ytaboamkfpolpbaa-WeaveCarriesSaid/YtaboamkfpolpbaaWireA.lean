/-
  Contracts of bytes.Clone and of the writer of wire (Out, write): what each leaves. Conditions: what is written has at most 2^47 bytes.
-/
import Derived.Test.YtaboamkfpolpbaaWireM
import Derived.Test.YtaboamkfpolpbaaBaseS
import Derived.Test.YtaboamkfpolpbaaBaseQ
import Derived.StillTailTactics
import Derived.Deep.RegionHeld3
import Derived.BigQuiet
import Derived.Deep.QuietTactic
import Derived.Lib.SliceRun
namespace Go.Proofs.Ytaboamkfpolpbaa.Wi
open Go.RowKit

set_option maxRecDepth 100000 in
theorem eql_nil (A : Option Addr) (n c : Nat) (w : World) : (binOp .eql 53 (.slice A n c) (.slice none 0 0)).run Try.prog w = .ok (.bool A.isNone) w := Lib.run_eql_slice_nil w _ _ A n c 0 0 Try.underlying53

set_option maxRecDepth 100000 in
set_option maxHeartbeats 400000 in
theorem clone_any (A : Option Addr) (n c : Nat) (bs : List Nat) (w : World) (h1 : Bys w w.heap.size A n c bs) (hr : n ≤ 140737488355328) :
    Calls Try.prog 43 #[.slice A n c] w (RetV w bs) := by
  cases A with
  | none =>
    have hc : c = 0 := h1.nil_ rfl
    have hn : n = 0 := by have := h1.le; omega
    subst hc hn
    obtain rfl : bs = [] := List.eq_nil_of_length_eq_zero h1.len
    have q := eql_nil none 0 0
    go_enter Try.func43, Try.ntmps43
    go_wp2
    go_ret
    exact ⟨none, 0, rfl, OwnV.nil_ _ _, Below.refl _ _⟩
  | some ad =>
    have q := eql_nil (some ad) n c
    have hb1 : Below w.heap.size w (w.alloc (.cells #[] 5)) := (Below.refl _ _).alloc (Nat.le_refl _) _
    have HB := Lib.hid (h1.below hb1 (Nat.le_refl _))
    have HV := Lib.hid (own_lit w [] (fun x hx => by cases hx) (by simp)).toV
    have HL := Lib.hid h1.len
    clear h1
    go_enter Try.func43, Try.ntmps43
    go_wp2_with (at_builtin; refine wpList_append_bys _ rfl (.tmp 5) (.tmp 6) rfl w.heap.size _ _ _ [] rfl HV.out w.heap.size _ _ _ bs rfl HB.out (by omega) (by simp) ?_)
    intro A2 c2 w2 hV2 hg2 hx2 hy2
    have hb2 := below_append HV.out hg2 hb1 (by simp)
    clear hx2 hg2 hy2
    have hV2 : OwnV w2 w.heap.size (.slice A2 n c2) bs := by simpa using hV2
    go_wp2
    go_ret
    refine ⟨A2, c2, ?_, ?_, hb2⟩
    · rw [HL.out]; rfl
    · rw [HL.out]; exact hV2

set_option maxRecDepth 100000 in
theorem results_none {P : Program} {fn : Func} {tmps : Array Value} {w : World} (h : fn.results = #[]) : (results fn tmps).run P w = .ok (.tuple #[]) w := by simp [results, h]
set_option maxRecDepth 100000 in
theorem cell0 {w : World} {p : Nat} {a : Value} {r : List Value} {t : TypeId} (h : w.heap[p]? = some (.cells (a :: r).toArray t (0, 0))) : w.cell? ⟨p, 0, none⟩ = some a := by
  rw [cell_of_row w p 0 _ _ _ h]; simp
set_option maxRecDepth 100000 in
theorem cell1 {w : World} {p : Nat} {a b : Value} {r : List Value} {t : TypeId} (h : w.heap[p]? = some (.cells (a :: b :: r).toArray t (0, 0))) : w.cell? ⟨p, 1, none⟩ = some b := by
  rw [cell_of_row w p 1 _ _ _ h]; simp

set_option maxRecDepth 100000 in
set_option maxHeartbeats 400000 in
theorem out_any (p : Nat) (F : Nat → Prop) (bs : List Nat) (w : World) (h : Wr w p F bs) (hr : bs.length ≤ 140737488355328) :
    Calls Try.prog 27 #[.pointer (some ⟨p, 0, none⟩)] w (RetV w bs) := by
  rcases h.2.2 with ⟨h1, rfl⟩ | ⟨s, A, n, c, h1, h2, h3, h4, h5, h6⟩
  · have c0 := cell0 h1
    clear h h1
    go_enter Try.func27, Try.ntmps27
    go_wp2
    go_ret
    exact ⟨none, 0, rfl, OwnV.nil_ _ _, Below.refl _ _⟩
  · have c0 := cell0 h1
    have c1 := cell1 h1
    have d0 := cell0 h2
    obtain ⟨hn, hb⟩ := h3.bys
    have hs := slice_to A n c n hb.le
    have HC := Lib.hid (fun w' hb => clone_any A n c bs w' hb (by omega))
    have HN := Lib.hid hn
    clear h h1 h2 hn h3 h6 hr
    go_enter Try.func27, Try.ntmps27
    go_wp2_with fail
    go_still_tail 12, (by kernel_rfl)
    change wpList _ _ _ _ _ w.drew
    go_wp2_with fail
    refine (HC.out w.drew hb).mono ?_
    rintro e w1 ⟨A1, c1, rfl, hV1, hb1⟩
    go_wp2_with fail
    go_ret
    exact ⟨A1, c1, rfl, hV1, below_drew hb1⟩

set_option maxRecDepth 100000 in
theorem out_nil (w : World) : Calls Try.prog 27 #[.pointer none] w fun e w' => e = .returned (.slice none 0 0) ∧ w = w' := by
  go_enter Try.func27, Try.ntmps27
  go_wp2
  go_ret
  exact ⟨rfl, rfl⟩
set_option maxRecDepth 100000 in
theorem write_nil (v : Value) (w : World) : Calls Try.prog 55 #[.pointer none, v] w fun e w' => e = .returned (.tuple #[]) ∧ w = w' := by
  go_enter Try.func55, Try.ntmps55
  go_wp2
  exact ⟨rfl, _, results_none (by kernel_rfl), rfl, rfl⟩

/-- what append leaves in its slot -/
def P45 (W : World) (F : Nat → Prop) (p s k : Nat) (X : List Nat) (v : Value) (w : World) : Prop :=
  ∃ A2 c2, v = .slice A2 k c2 ∧ OwnV w 0 (.slice A2 k c2) X ∧ ∀ g, Value.ownBlock (.slice A2 k c2) = some g → g ≠ s ∧ g ≠ p ∧ (F g ∨ W.heap.size ≤ g)
/-- what holds of memory in write's region, when the operations of L have come up -/
def WS (W : World) (F : Nat → Prop) (p s n k : Nat) (A : Option Addr) (c : Nat) (X : List Nat) (L : Nat → Bool) (w : World) : Prop :=
  w.heap[p]? = some (.cells #[.pointer (some ⟨s, 0, none⟩), .int .i64 (n : Int)] 57 (0, 0)) ∧ (L 15 = false → w.heap[s]? = some (.cells #[.slice A n c] 82 (0, 0))) ∧ (L 12 = false → w = W) ∧
    Tn F W w ∧ (L 15 = true → ∃ A2 c2, w.heap[s]? = some (.cells #[.slice A2 k c2] 82 (0, 0)) ∧ P45 W F p s k X (.slice A2 k c2) w) ∧ (L 12 = true → L 10 = true) ∧ (L 15 = true → L 12 = true)

set_option maxRecDepth 100000 in
theorem OwnV.lower {w : World} {base : Nat} {v : Value} {bs : List Nat} (h : OwnV w base v bs) {b2 : Nat} (hb : b2 ≤ base) : OwnV w b2 v bs := by
  rcases h.cases with ⟨rfl, rfl⟩ | ⟨g, cap, rfl, hO⟩
  · exact OwnV.nil_ _ _
  · exact hO.lower hb
/-- how one operation of write's region may turn memory -/
def WR (s : Nat) (k : Nat) (w w' : World) : Prop := k ≠ 12 → Tn (fun b => b = s) w w'
section
variable {W w : World} {G : Nat → Prop} {p s n k : Nat} {A : Option Addr} {c : Nat} {X : List Nat} {L : Nat → Bool}
set_option maxRecDepth 100000 in
theorem P45.keep {w' : World} {v : Value} (h : P45 W G p s k X v w) (ht : Tn (fun b => b = s) w w') : P45 W G p s k X v w' := by
  obtain ⟨A2, c2, e, hV, hg⟩ := h
  exact ⟨A2, c2, e, ht.ownV hV (fun g hg2 => (hg g hg2).1), hg⟩
set_option maxRecDepth 100000 in
theorem WS.early (h : WS W G p s n k A c X L w) (hL : L 10 = false) : L 15 = false := by
  obtain ⟨_, _, _, _, _, h6, h7⟩ := h
  cases h15 : L 15 with
  | false => rfl
  | true => rw [h6 (h7 h15)] at hL; cases hL
set_option maxRecDepth 100000 in
theorem ws_stays {l : List Rq.Wd} {X2 : List Nat} {k2 : Nat} (hl : ∀ i q, l[i]? = some (Rq.Wd.pred q) → i = 12 ∧ q = P45 W G p s k2 X2) : ∀ i q, l[i]? = some (Rq.Wd.pred q) → ∀ k v w w', i ≠ k → q v w → WR s k w w' → q v w' := by
  intro i q hi k v w w' hne hq hr
  obtain ⟨rfl, rfl⟩ := hl i q hi
  exact hq.keep (hr (Ne.symm hne))
set_option maxRecDepth 100000 in
theorem WS.next10 (h : WS W G p s n k A c X L w) : WS W G p s n k A c X (Rq.up L 10) w := by
  obtain ⟨h1, h2, h3, h4, h5, h6, h7⟩ := h
  exact ⟨h1, h2, h3, h4, h5, fun _ => rfl, h7⟩
end
section
variable {ops : Array Oper} {Q : Exit → Act → World → Prop} {Fw : Nat → Value → World → Prop} {W w w0 : World} {F G : Nat → Prop} {p s n m : Nat} {A A' : Option Addr} {c c' : Nat} {bs cs : List Nat} {L : Nat → Bool} {o : Oper} {a : Act}
set_option maxRecDepth 100000 in
theorem ws_append (hS : WS W.drew G p s n (n + m) A c (bs ++ cs) L w) (hL : L 12 = false) (h10 : L 10 = true) (hw : Region.wanted o (yielded ops a.tmps) = true)
    (ho : o.op = .call { callee := .builtin .append, args := #[.tmp 43, .tmp 44], argTypes := #[53, 53] }) (e43 : a.eval (.tmp 43) = .slice A n c) (e44 : a.eval (.tmp 44) = .slice A' m c')
    (hV : OwnV W 0 (.slice A n c) bs) (hB : Bys W W.heap.size A' m c' cs) (hr : n + m ≤ 140737488355328) (hG : ∀ g, Value.ownBlock (.slice A n c) = some g → g ≠ s ∧ g ≠ p ∧ G g)
    (hF : ∀ v w', P45 W.drew G p s (n + m) (bs ++ cs) v w' → Fw 12 v w') :
    Rq.Does Try.prog ops Q (WS W.drew G p s n (n + m) A c (bs ++ cs)) (WR s) Fw 12 o L a w := by
  obtain ⟨h1, h2, h3, h4, h5, h6, h7⟩ := hS
  have h15 : L 15 = false := by
    cases h : L 15 with
    | false => rfl
    | true => rw [h7 h] at hL; cases hL
  have h2 := h2 h15
  obtain rfl := h3 hL
  obtain ⟨A2, c2, w', hrun, hV2, hg, hat⟩ := run_append_bys W.drew o.type 0 A n c bs hV _ A' m c' cs hB hr (Nat.zero_le _)
  have lp := lt_of_block h1
  have ls := lt_of_block h2
  have bp : w'.heap[p]? = W.drew.heap[p]? := hg.block p lp (fun e => (hG p e.symm).2.1 rfl)
  have bs' : w'.heap[s]? = W.drew.heap[s]? := hg.block s ls (fun e => (hG s e.symm).1 rfl)
  have hP : P45 W.drew G p s (n + m) (bs ++ cs) (.slice A2 (n + m) c2) w' := by
    refine ⟨A2, c2, rfl, hV2, fun g hgo => ?_⟩
    rcases hat with e | e
    · have := hG g (by rw [← e]; exact hgo)
      exact ⟨this.1, this.2.1, Or.inl this.2.2⟩
    · have : g = W.drew.heap.size := by rw [hgo] at e; exact Option.some.inj e
      exact ⟨by omega, by omega, Or.inr (by omega)⟩
  refine .inl ⟨hw, ?_⟩
  unfold Oper.wp execOp
  simp only [ho, resolve, invoke, builtin, Sem.run_bind, Sem.run_pure, Result.andThen_ok, List.map_toArray, List.map_cons, List.map_nil, e43, e44, hrun]
  exact ⟨_, rfl, hF _ _ hP, ⟨bp.trans h1, fun _ => bs'.trans h2, (fun h => by cases h), h4.grown hg (fun g hg2 => Or.inr (hG g hg2).2.2), (fun h => by rw [show Rq.up L 12 15 = L 15 from rfl, h15] at h; cases h), (fun _ => h10), (fun _ => rfl)⟩, fun h => absurd rfl h⟩
set_option maxRecDepth 100000 in
theorem ws_store (hS : WS W.drew G p s n (n + m) A c (bs ++ cs) L w) (hL : L 15 = false) (h12 : L 12 = true) (hw : Region.wanted o (yielded ops a.tmps) = true) (hd : o.dst = none)
    {v : Value} (hP : P45 W.drew G p s (n + m) (bs ++ cs) v w) (hrun : ∀ A2 k c2, v = .slice A2 k c2 → (execOp a.eval o).run Try.prog w = .ok .skip (w.setCell ⟨s, 0, none⟩ v)) (hGs : G s) (hsp : s ≠ p) (hF : Fw 15 undef (w.setCell ⟨s, 0, none⟩ v)) :
    Rq.Does Try.prog ops Q (WS W.drew G p s n (n + m) A c (bs ++ cs)) (WR s) Fw 15 o L a w := by
  have hP0 := hP
  obtain ⟨A2, c2, rfl, hV, hg⟩ := hP
  obtain ⟨h1, h2, h3, h4, h5, h6, h7⟩ := hS
  have hT : Tn (fun b => b = s) w (w.setCell ⟨s, 0, none⟩ (.slice A2 (n + m) c2)) := (Tn.refl (fun b => b = s) w).set_ (p := ⟨s, 0, none⟩) (Or.inr rfl) _
  refine Rq.does_skip hd hw (hrun _ _ _ rfl) hF ⟨(blk_keep _ (Ne.symm hsp)).trans h1, (fun h => by cases h), (fun h => by rw [show Rq.up L 15 12 = L 12 from rfl, h12] at h; cases h), h4.set_ (Or.inr hGs) _, (fun _ => ⟨A2, c2, ?_, hP0.keep hT⟩), h6, (fun _ => h12)⟩ (fun _ => hT)
  rw [blk_set (h2 hL)]; rfl
set_option maxRecDepth 100000 in
theorem wrote_of {w7 : World} {A2 : Option Addr} {c2 : Nat} (hTn : Tn F w0 W) (hG1 : ∀ b, G b ↔ (F b ∨ w0.heap.size ≤ b)) (hFp : F p) (hFl : ∀ b, F b → b < w0.heap.size) (hsF : F s ∨ w0.heap.size ≤ s) (hsp : s ≠ p)
    (hp7 : w7.heap[p]? = some (.cells #[.pointer (some ⟨s, 0, none⟩), .int .i64 (n : Int)] 57 (0, 0))) (hs7 : w7.heap[s]? = some (.cells #[.slice A2 (n + m) c2] 82 (0, 0)))
    (hV7 : OwnV w7 0 (.slice A2 (n + m) c2) (bs ++ cs)) (hG7 : ∀ g, Value.ownBlock (.slice A2 (n + m) c2) = some g → g ≠ s ∧ g ≠ p ∧ (G g ∨ W.drew.heap.size ≤ g)) (hT7 : Tn G W.drew w7) :
    Wrote w0 p F (bs ++ cs) (w7.setCell ⟨p, 1, none⟩ (.int .i64 ((n + m : Nat) : Int))) := by
  have hz7 : W.heap.size ≤ w7.heap.size := hT7.size
  have hz := hTn.size
  have hT : Tn G w7 (w7.setCell ⟨p, 1, none⟩ (.int .i64 ((n + m : Nat) : Int))) := (Tn.refl _ w7).set_ (Or.inr ((hG1 p).2 (Or.inl hFp))) _
  have hT' : Tn F w0 w7 := hTn.trans (T' := G) hT7.drawn (fun b hb hg => ((hG1 b).1 hg).resolve_right (by omega))
  have hlt := hV7.lt
  have hsize : (w7.setCell ⟨p, 1, none⟩ (.int .i64 ((n + m : Nat) : Int))).heap.size = w7.heap.size := by simp [World.setCell]
  refine ⟨fun b => (F b ∨ w0.heap.size ≤ b) ∧ b < w7.heap.size, ⟨⟨Or.inl hFp, lt_of_block hp7⟩, (fun b hb => by rw [hsize]; exact hb.2), Or.inr ⟨s, A2, n + m, c2, ?_, ?_, ?_, ⟨hsF, lt_of_block hs7⟩, hsp, fun g hg => ?_⟩⟩, ?_, fun b hb => hb.1, fun b hb => ⟨Or.inl hb, by have := hFl b hb; omega⟩⟩
  · rw [blk_set hp7]; rfl
  · rw [blk_keep _ hsp]; exact hs7
  · exact ⟨ownsRow_setCell_other hV7.1 (fun e => (hG7 p e).2.1 rfl) _, hV7.2⟩
  · have h1 := hG7 g hg
    refine ⟨⟨?_, (hlt g hg).2⟩, h1.1, h1.2.1⟩
    rcases h1.2.2 with h2 | h2
    · exact (hG1 g).1 h2
    · exact Or.inr (by have : W.drew.heap.size = W.heap.size := rfl; omega)
  · exact hT'.trans (T' := G) hT (fun b hb hg => ((hG1 b).1 hg).resolve_right (by omega))
end
set_option maxRecDepth 100000 in
set_option maxHeartbeats 1000000 in
theorem write_any (p : Nat) (F : Nat → Prop) (bs : List Nat) (A' : Option Addr) (m c' : Nat) (cs : List Nat) (w : World) (h : Wr w p F bs) (hs : Bys w w.heap.size A' m c' cs) (hA : Apart F A' m) (hr : bs.length + m ≤ 140737488355328) :
    Calls Try.prog 55 #[.pointer (some ⟨p, 0, none⟩), .slice A' m c'] w fun e w' => e = .returned (.tuple #[]) ∧ Wrote w p F (bs ++ cs) w' := by
  have h0 := h
  obtain ⟨hFp, hFl, h⟩ := h
  rcases h with ⟨h1, rfl⟩ | ⟨s, A, n, c, h1, h2, h3, h4, h5, h6⟩
  · have c0 := cell0 h1
    have hf := frozen_of_row w p 0 _ _ h1
    have HO := Lib.hid (fun (w' : World) (hb : Below w.heap.size w w') => out_any p F [] w' (h0.below hb) (by simp))
    go_enter Try.func55, Try.ntmps55
    go_wp2_with fail
    go_quiet (fail)
    go_wp2_with fail
    refine (HO.out _ ?_).mono ?_
    · exact ⟨rfl, rfl, rfl, Nat.le_refl _, fun _ _ => rfl⟩
    rintro e w1 ⟨A, c, rfl, hV, hb1⟩
    have hb1 : Below w.heap.size w w1 := ⟨hb1.os, hb1.tape, hb1.output, hb1.size, hb1.block⟩
    have z1 := hb1.size
    have hlp := hFl p hFp
    have k0 : ∀ o, (w1.alloc o).heap[p]? = some (.cells #[.pointer none, .int .i64 0] 57 (0, 0)) := fun o => (Below.heap_alloc w1 o p (by omega)).trans ((hb1.block p hlp).trans h1)
    have k1 := fun o => cell0 (k0 o)
    have k2 := fun o => frozen_of_row _ p 0 _ _ (k0 o)
    have K0 := Lib.hid k0
    clear k0
    go_wp2_with fail
    clear k1 k2 c0 hf HO
    obtain ⟨s, hs0⟩ : ∃ s, s = w1.heap.size := ⟨_, rfl⟩
    obtain ⟨n, hn0⟩ : ∃ n : Nat, n = 0 := ⟨_, rfl⟩
    obtain ⟨bs, hbs⟩ : ∃ bs : List Nat, bs = [] := ⟨_, rfl⟩
    rw [← hs0]
    have hTn : Tn F w ((w1.alloc (.cells #[.slice A 0 c] 82)).setCell ⟨p, 0, none⟩ (.pointer (some ⟨s, 0, none⟩))) := ((Tn.of F hb1).alloc _).set_ (Or.inr hFp) _
    have hp : ((w1.alloc (.cells #[.slice A 0 c] 82)).setCell ⟨p, 0, none⟩ (.pointer (some ⟨s, 0, none⟩))).heap[p]? = some (.cells #[.pointer (some ⟨s, 0, none⟩), .int .i64 (n : Int)] 57 (0, 0)) := by
      rw [blk_set (K0.out _), hn0]; rfl
    have hsh : ((w1.alloc (.cells #[.slice A 0 c] 82)).setCell ⟨p, 0, none⟩ (.pointer (some ⟨s, 0, none⟩))).heap[s]? = some (.cells #[.slice A n c] 82 (0, 0)) := by
      rw [blk_keep _ (show s ≠ p by omega), hs0, heap_alloc_new, hn0]
    have hlt := hV.lt
    have hV2 : OwnV ((w1.alloc (.cells #[.slice A 0 c] 82)).setCell ⟨p, 0, none⟩ (.pointer (some ⟨s, 0, none⟩))) 0 (.slice A n c) bs := by
      have h1 := (hV.alloc (.cells #[.slice A 0 c] 82))
      have h2 := ownsRow_setCell_other h1.1 (a := ⟨p, 0, none⟩) (fun e => by have := hlt p e; simp at this; omega) (.pointer (some ⟨s, 0, none⟩))
      have h3 := OwnV.lower (bs := []) ⟨h2, h1.2⟩ (Nat.zero_le _)
      rw [hn0, hbs]; exact h3
    have hsz : s < ((w1.alloc (.cells #[.slice A 0 c] 82)).setCell ⟨p, 0, none⟩ (.pointer (some ⟨s, 0, none⟩))).heap.size := by simp [World.setCell]; omega
    generalize (w1.alloc (.cells #[.slice A 0 c] 82)).setCell ⟨p, 0, none⟩ (.pointer (some ⟨s, 0, none⟩)) = W at hTn hp hsh hV2 hsz ⊢
    have hBs : Bys W W.heap.size A' m c' cs := hTn.bys hs hA
    have hG : ∀ g, Value.ownBlock (.slice A n c) = some g → g ≠ s ∧ g ≠ p ∧ (F g ∨ w.heap.size ≤ g) := fun g hg => by
      have := hlt g (by rw [hn0] at hg; exact hg)
      simp at this
      exact ⟨by omega, by omega, Or.inr (by omega)⟩
    have hsF : F s ∨ w.heap.size ≤ s := Or.inr (by omega)
    have hsp : s ≠ p := by omega
    have hr2 : n + m ≤ 140737488355328 := by rw [hn0]; simpa using hr
    have hnb : n = bs.length := by rw [hn0, hbs]; rfl
    have HFIN : ∀ W', Wrote w p F (bs ++ cs) W' → Wrote w p F cs W' := fun W' h => by rw [hbs] at h; exact h
    clear hV hb1 K0 hs0 hlt h1 h0 z1 hr hn0 hbs
    obtain ⟨G, hGd⟩ : ∃ G : Nat → Prop, G = fun b => F b ∨ w.heap.size ≤ b := ⟨_, rfl⟩
    have hG1 : ∀ b, G b ↔ (F b ∨ w.heap.size ≤ b) := fun b => by rw [hGd]
    have hG2 : ∀ g, Value.ownBlock (.slice A n c) = some g → g ≠ s ∧ g ≠ p ∧ G g := fun g hg => ⟨(hG g hg).1, (hG g hg).2.1, (hG1 g).2 (hG g hg).2.2⟩
    have hGs : G s := (hG1 s).2 hsF
    clear hGd hG hnb
    have hS0 : WS W.drew G p s n (n + m) A c (bs ++ cs) (fun _ => false) W.drew := ⟨hp, fun _ => hsh, fun _ => rfl, Tn.refl _ _, (fun h => by cases h), (fun h => by cases h), (fun h => by cases h)⟩
    have rR : ∀ k w', WR s k w' w' := fun k w' _ => Tn.refl _ _
    refine Rq.wp_region_inv (WS W.drew G p s n (n + m) A c (bs ++ cs)) (WR s) (Rq.Wd.at [.is (Value.pointer (some ⟨p, 0, none⟩)), .is (Value.pointer (some ⟨p, 0, none⟩)), .is (Value.pointer (some ⟨p, 0, none⟩)), .is (Value.pointer (some ⟨s, 0, none⟩)), .is (Value.pointer (some ⟨p, 0, none⟩)), .is (Value.pointer (some ⟨p, 0, none⟩)), .is (Value.pointer (some ⟨p, 0, none⟩)), .is (Value.pointer (some ⟨s, 0, none⟩)), .is (Value.pointer (some ⟨s, 0, none⟩)), .is (Value.pointer (some ⟨s, 0, none⟩)), .is (Value.slice A n c), .is (Value.slice A' m c'), .pred (P45 W.drew G p s (n + m) (bs ++ cs)), .is (Value.pointer (some ⟨s, 0, none⟩)), .is (Value.pointer (some ⟨s, 0, none⟩)), .any]) (by kernel_rfl) (by kernel_rfl) (Rq.Wd.stays _ _ (ws_stays (W := W.drew) (G := G) (p := p) (X2 := bs ++ cs) (k2 := n + m) (fun i q hi => by
      rcases i with _ | _ | _ | _ | _ | _ | _ | _ | _ | _ | _ | _ | _ | _ | _ | _ | i <;> simp at hi
      exact ⟨rfl, hi.symm⟩))) hS0 ⟨?_, ?_, ?_, ?_, ?_, ?_, ?_, ?_, ?_, ?_, ?_, ?_, ?_, ?_, ?_, ?_, trivial⟩ ?_
    · intro L a w1 hL hS hb hd
      have e0 := hb 0 (Rq.nw (by decide))
      simp [Act.eval] at e0
      exact Rq.does_pure (Rq.wanted_none rfl) (by simp [execOp, e0, go_sem]) rfl hS (rR _ _)
    · intro L a w1 hL hS hb hd
      have p33 := (hd ⟨0, .data⟩ (by simp) rfl).2 _ _ rfl rfl
      have e33 : a.tmps[33]?.getD undef = Value.pointer (some ⟨p, 0, none⟩) := Rq.slot p33
      exact Rq.does_pure (Rq.wanted_none rfl) (by simp [execOp, e33, go_sem]) rfl hS (rR _ _)
    · intro L a w1 hL hS hb hd
      have p34 := (hd ⟨1, .data⟩ (by simp) rfl).2 _ _ rfl rfl
      have e34 : a.tmps[34]?.getD undef = Value.pointer (some ⟨p, 0, none⟩) := Rq.slot p34
      exact Rq.does_pure (Rq.wanted_none rfl) (by simp [execOp, e34, go_sem]) rfl hS (rR _ _)
    · intro L a w1 hL hS hb hd
      have p35 := (hd ⟨2, .data⟩ (by simp) rfl).2 _ _ rfl rfl
      have e35 : a.tmps[35]?.getD undef = Value.pointer (some ⟨p, 0, none⟩) := Rq.slot p35
      exact Rq.does_pure (Rq.wanted_none rfl) (by simp [execOp, e35, cell0 hS.1, go_sem]) rfl hS (rR _ _)
    · intro L a w1 hL hS hb hd
      have e0 := hb 0 (Rq.nw (by decide))
      simp [Act.eval] at e0
      exact Rq.does_pure (Rq.wanted_none rfl) (by simp [execOp, e0, go_sem]) rfl hS (rR _ _)
    · intro L a w1 hL hS hb hd
      have p37 := (hd ⟨4, .data⟩ (by simp) rfl).2 _ _ rfl rfl
      have e37 : a.tmps[37]?.getD undef = Value.pointer (some ⟨p, 0, none⟩) := Rq.slot p37
      exact Rq.does_pure (Rq.wanted_none rfl) (by simp [execOp, e37, go_sem]) rfl hS (rR _ _)
    · intro L a w1 hL hS hb hd
      have p38 := (hd ⟨5, .data⟩ (by simp) rfl).2 _ _ rfl rfl
      have e38 : a.tmps[38]?.getD undef = Value.pointer (some ⟨p, 0, none⟩) := Rq.slot p38
      exact Rq.does_pure (Rq.wanted_none rfl) (by simp [execOp, e38, go_sem]) rfl hS (rR _ _)
    · intro L a w1 hL hS hb hd
      have p39 := (hd ⟨6, .data⟩ (by simp) rfl).2 _ _ rfl rfl
      have e39 : a.tmps[39]?.getD undef = Value.pointer (some ⟨p, 0, none⟩) := Rq.slot p39
      exact Rq.does_pure (Rq.wanted_none rfl) (by simp [execOp, e39, cell0 hS.1, go_sem]) rfl hS (rR _ _)
    · intro L a w1 hL hS hb hd
      have p40 := (hd ⟨7, .data⟩ (by simp) rfl).2 _ _ rfl rfl
      have e40 : a.tmps[40]?.getD undef = Value.pointer (some ⟨s, 0, none⟩) := Rq.slot p40
      exact Rq.does_pure (Rq.wanted_none rfl) (by simp [execOp, e40, go_sem]) rfl hS (rR _ _)
    · intro L a w1 hL hS hb hd
      have p41 := (hd ⟨8, .data⟩ (by simp) rfl).2 _ _ rfl rfl
      have e41 : a.tmps[41]?.getD undef = Value.pointer (some ⟨s, 0, none⟩) := Rq.slot p41
      exact Rq.does_pure (Rq.wanted_none rfl) (by simp [execOp, e41, go_sem]) rfl hS (rR _ _)
    · intro L a w1 hL hS hb hd
      have p42 := (hd ⟨9, .data⟩ (by simp) rfl).2 _ _ rfl rfl
      have e42 : a.tmps[42]?.getD undef = Value.pointer (some ⟨s, 0, none⟩) := Rq.slot p42
      exact Rq.does_pure (Rq.wanted_none rfl) (by simp [execOp, e42, cell0 (hS.2.1 (WS.early hS hL)), go_sem]) rfl (WS.next10 hS) (rR _ _)
    · intro L a w1 hL hS hb hd
      have e1 := hb 1 (Rq.nw (by decide))
      simp [Act.eval] at e1
      exact Rq.does_pure (Rq.wanted_none rfl) (by simp [execOp, e1, go_sem]) rfl hS (rR _ _)
    · intro L a w1 hL hS hb hd
      have p43 := (hd ⟨10, .data⟩ (by simp) rfl).2 _ _ rfl rfl
      have e43 : a.tmps[43]?.getD undef = Value.slice A n c := Rq.slot p43
      have p44 := (hd ⟨11, .data⟩ (by simp) rfl).2 _ _ rfl rfl
      have e44 : a.tmps[44]?.getD undef = Value.slice A' m c' := Rq.slot p44
      exact ws_append hS hL (hd ⟨10, .data⟩ (by simp) rfl).1 (Rq.wanted_none rfl) rfl p43 p44 hV2 hBs hr2 hG2 (fun _ _ h => h)
    · intro L a w1 hL hS hb hd
      have p36 := (hd ⟨3, .data⟩ (by simp) rfl).2 _ _ rfl rfl
      have e36 : a.tmps[36]?.getD undef = Value.pointer (some ⟨s, 0, none⟩) := Rq.slot p36
      exact Rq.does_pure (Rq.wanted_none rfl) (by simp [execOp, e36, go_sem]) rfl hS (rR _ _)
    · intro L a w1 hL hS hb hd
      have p46 := (hd ⟨13, .data⟩ (by simp) rfl).2 _ _ rfl rfl
      have e46 : a.tmps[46]?.getD undef = Value.pointer (some ⟨s, 0, none⟩) := Rq.slot p46
      exact Rq.does_pure (Rq.wanted_none rfl) (by simp [execOp, e46, go_sem]) rfl hS (rR _ _)
    · intro L a w1 hL hS hb hd
      have p47 := (hd ⟨14, .data⟩ (by simp) rfl).2 _ _ rfl rfl
      have e47 : a.tmps[47]?.getD undef = Value.pointer (some ⟨s, 0, none⟩) := Rq.slot p47
      have p45 := (hd ⟨12, .data⟩ (by simp) rfl).2 _ _ rfl rfl
      exact ws_store hS hL (hd ⟨12, .data⟩ (by simp) rfl).1 (Rq.wanted_none rfl) rfl p45 (fun A2 k c2 hx => by
        have e45 := Rq.slot hx
        rw [hx]
        simp [execOp, e47, e45, go_sem, cell0 (hS.2.1 hL), frozen_of_row _ s 0 _ _ (hS.2.1 hL)]) hGs hsp trivial
    · intro L v w7 hS hL hF
      obtain ⟨hp7, _, _, hT7, hfin, _, _⟩ := hS
      obtain ⟨A2, c2, hs7, A3, c3, e3, hV7, hG7⟩ := hfin (hL 15 (by simp))
      injection e3 with e31 e32 e33
      subst e31 e33
      have q0 := cell0 hp7
      have q1 := cell1 hp7
      have q2 := frozen_of_row _ p 1 _ _ hp7
      have q3 := cell0 hs7
      simp only [Rq.putAll]
      simp only [Act.put, List.setIfInBounds_toArray, List.set_cons_succ, List.set_cons_zero]
      have FACTS := Lib.hid (And.intro hp7 (And.intro hs7 (And.intro hV7 (And.intro hG7 hT7))))
      clear hp7 hs7 hV7 hG7 hT7 hF hL hfin
      go_wp2_with fail
      refine ⟨rfl, _, results_none (by kernel_rfl), rfl, HFIN _ ?_⟩
      obtain ⟨hp7, hs7, hV7, hG7, hT7⟩ := FACTS.out
      exact wrote_of hTn hG1 hFp hFl hsF hsp hp7 hs7 hV7 hG7 hT7
  · have c0 := cell0 h1
    have c1 := cell1 h1
    have d0 := cell0 h2
    have hn := h3.bys.1
    have hr2 : n + m ≤ 140737488355328 := by omega
    have hn9 : n ≤ 9223372036854775807 := by omega
    have HN := Lib.hid hn
    clear hn hr
    go_enter Try.func55, Try.ntmps55
    go_wp2_with fail
    go_quiet (fail)
    go_wp2_with fail
    have hTn : Tn F w (w.drewN nq) := ⟨rfl, rfl, rfl, Nat.le_refl _, fun _ _ _ => rfl⟩
    have hp : (w.drewN nq).heap[p]? = some (.cells #[.pointer (some ⟨s, 0, none⟩), .int .i64 (n : Int)] 57 (0, 0)) := h1
    have hsh : (w.drewN nq).heap[s]? = some (.cells #[.slice A n c] 82 (0, 0)) := h2
    have hV2 : OwnV (w.drewN nq) 0 (.slice A n c) bs := h3
    have hsz : s < (w.drewN nq).heap.size := hFl s h4
    have hBs : Bys (w.drewN nq) (w.drewN nq).heap.size A' m c' cs := hs
    generalize w.drewN nq = W at hTn hp hsh hV2 hsz hBs ⊢
    have hG : ∀ g, Value.ownBlock (.slice A n c) = some g → g ≠ s ∧ g ≠ p ∧ (F g ∨ w.heap.size ≤ g) := fun g hg => ⟨(h6 g hg).2.1, (h6 g hg).2.2, Or.inl (h6 g hg).1⟩
    have hsF : F s ∨ w.heap.size ≤ s := Or.inl h4
    have hsp : s ≠ p := h5
    have hnb : n = bs.length := HN.out
    have HFIN : ∀ W', Wrote w p F (bs ++ cs) W' → Wrote w p F (bs ++ cs) W' := fun W' h => h
    clear h0 h1 h2 h3 h4 h5 h6 c0 c1 d0 HN
    obtain ⟨G, hGd⟩ : ∃ G : Nat → Prop, G = fun b => F b ∨ w.heap.size ≤ b := ⟨_, rfl⟩
    have hG1 : ∀ b, G b ↔ (F b ∨ w.heap.size ≤ b) := fun b => by rw [hGd]
    have hG2 : ∀ g, Value.ownBlock (.slice A n c) = some g → g ≠ s ∧ g ≠ p ∧ G g := fun g hg => ⟨(hG g hg).1, (hG g hg).2.1, (hG1 g).2 (hG g hg).2.2⟩
    have hGs : G s := (hG1 s).2 hsF
    clear hGd hG hnb
    have hS0 : WS W.drew G p s n (n + m) A c (bs ++ cs) (fun _ => false) W.drew := ⟨hp, fun _ => hsh, fun _ => rfl, Tn.refl _ _, (fun h => by cases h), (fun h => by cases h), (fun h => by cases h)⟩
    have rR : ∀ k w', WR s k w' w' := fun k w' _ => Tn.refl _ _
    refine Rq.wp_region_inv (WS W.drew G p s n (n + m) A c (bs ++ cs)) (WR s) (Rq.Wd.at [.is (Value.pointer (some ⟨p, 0, none⟩)), .is (Value.pointer (some ⟨p, 0, none⟩)), .is (Value.pointer (some ⟨p, 0, none⟩)), .is (Value.pointer (some ⟨s, 0, none⟩)), .is (Value.pointer (some ⟨p, 0, none⟩)), .is (Value.pointer (some ⟨p, 0, none⟩)), .is (Value.pointer (some ⟨p, 0, none⟩)), .is (Value.pointer (some ⟨s, 0, none⟩)), .is (Value.pointer (some ⟨s, 0, none⟩)), .is (Value.pointer (some ⟨s, 0, none⟩)), .is (Value.slice A n c), .is (Value.slice A' m c'), .pred (P45 W.drew G p s (n + m) (bs ++ cs)), .is (Value.pointer (some ⟨s, 0, none⟩)), .is (Value.pointer (some ⟨s, 0, none⟩)), .any]) (by kernel_rfl) (by kernel_rfl) (Rq.Wd.stays _ _ (ws_stays (W := W.drew) (G := G) (p := p) (X2 := bs ++ cs) (k2 := n + m) (fun i q hi => by
      rcases i with _ | _ | _ | _ | _ | _ | _ | _ | _ | _ | _ | _ | _ | _ | _ | _ | i <;> simp at hi
      exact ⟨rfl, hi.symm⟩))) hS0 ⟨?_, ?_, ?_, ?_, ?_, ?_, ?_, ?_, ?_, ?_, ?_, ?_, ?_, ?_, ?_, ?_, trivial⟩ ?_
    · intro L a w1 hL hS hb hd
      have e0 := hb 0 (Rq.nw (by decide))
      simp [Act.eval] at e0
      exact Rq.does_pure (Rq.wanted_none rfl) (by simp [execOp, e0, go_sem]) rfl hS (rR _ _)
    · intro L a w1 hL hS hb hd
      have p33 := (hd ⟨0, .data⟩ (by simp) rfl).2 _ _ rfl rfl
      have e33 : a.tmps[33]?.getD undef = Value.pointer (some ⟨p, 0, none⟩) := Rq.slot p33
      exact Rq.does_pure (Rq.wanted_none rfl) (by simp [execOp, e33, go_sem]) rfl hS (rR _ _)
    · intro L a w1 hL hS hb hd
      have p34 := (hd ⟨1, .data⟩ (by simp) rfl).2 _ _ rfl rfl
      have e34 : a.tmps[34]?.getD undef = Value.pointer (some ⟨p, 0, none⟩) := Rq.slot p34
      exact Rq.does_pure (Rq.wanted_none rfl) (by simp [execOp, e34, go_sem]) rfl hS (rR _ _)
    · intro L a w1 hL hS hb hd
      have p35 := (hd ⟨2, .data⟩ (by simp) rfl).2 _ _ rfl rfl
      have e35 : a.tmps[35]?.getD undef = Value.pointer (some ⟨p, 0, none⟩) := Rq.slot p35
      exact Rq.does_pure (Rq.wanted_none rfl) (by simp [execOp, e35, cell0 hS.1, go_sem]) rfl hS (rR _ _)
    · intro L a w1 hL hS hb hd
      have e0 := hb 0 (Rq.nw (by decide))
      simp [Act.eval] at e0
      exact Rq.does_pure (Rq.wanted_none rfl) (by simp [execOp, e0, go_sem]) rfl hS (rR _ _)
    · intro L a w1 hL hS hb hd
      have p37 := (hd ⟨4, .data⟩ (by simp) rfl).2 _ _ rfl rfl
      have e37 : a.tmps[37]?.getD undef = Value.pointer (some ⟨p, 0, none⟩) := Rq.slot p37
      exact Rq.does_pure (Rq.wanted_none rfl) (by simp [execOp, e37, go_sem]) rfl hS (rR _ _)
    · intro L a w1 hL hS hb hd
      have p38 := (hd ⟨5, .data⟩ (by simp) rfl).2 _ _ rfl rfl
      have e38 : a.tmps[38]?.getD undef = Value.pointer (some ⟨p, 0, none⟩) := Rq.slot p38
      exact Rq.does_pure (Rq.wanted_none rfl) (by simp [execOp, e38, go_sem]) rfl hS (rR _ _)
    · intro L a w1 hL hS hb hd
      have p39 := (hd ⟨6, .data⟩ (by simp) rfl).2 _ _ rfl rfl
      have e39 : a.tmps[39]?.getD undef = Value.pointer (some ⟨p, 0, none⟩) := Rq.slot p39
      exact Rq.does_pure (Rq.wanted_none rfl) (by simp [execOp, e39, cell0 hS.1, go_sem]) rfl hS (rR _ _)
    · intro L a w1 hL hS hb hd
      have p40 := (hd ⟨7, .data⟩ (by simp) rfl).2 _ _ rfl rfl
      have e40 : a.tmps[40]?.getD undef = Value.pointer (some ⟨s, 0, none⟩) := Rq.slot p40
      exact Rq.does_pure (Rq.wanted_none rfl) (by simp [execOp, e40, go_sem]) rfl hS (rR _ _)
    · intro L a w1 hL hS hb hd
      have p41 := (hd ⟨8, .data⟩ (by simp) rfl).2 _ _ rfl rfl
      have e41 : a.tmps[41]?.getD undef = Value.pointer (some ⟨s, 0, none⟩) := Rq.slot p41
      exact Rq.does_pure (Rq.wanted_none rfl) (by simp [execOp, e41, go_sem]) rfl hS (rR _ _)
    · intro L a w1 hL hS hb hd
      have p42 := (hd ⟨9, .data⟩ (by simp) rfl).2 _ _ rfl rfl
      have e42 : a.tmps[42]?.getD undef = Value.pointer (some ⟨s, 0, none⟩) := Rq.slot p42
      exact Rq.does_pure (Rq.wanted_none rfl) (by simp [execOp, e42, cell0 (hS.2.1 (WS.early hS hL)), go_sem]) rfl (WS.next10 hS) (rR _ _)
    · intro L a w1 hL hS hb hd
      have e1 := hb 1 (Rq.nw (by decide))
      simp [Act.eval] at e1
      exact Rq.does_pure (Rq.wanted_none rfl) (by simp [execOp, e1, go_sem]) rfl hS (rR _ _)
    · intro L a w1 hL hS hb hd
      have p43 := (hd ⟨10, .data⟩ (by simp) rfl).2 _ _ rfl rfl
      have e43 : a.tmps[43]?.getD undef = Value.slice A n c := Rq.slot p43
      have p44 := (hd ⟨11, .data⟩ (by simp) rfl).2 _ _ rfl rfl
      have e44 : a.tmps[44]?.getD undef = Value.slice A' m c' := Rq.slot p44
      exact ws_append hS hL (hd ⟨10, .data⟩ (by simp) rfl).1 (Rq.wanted_none rfl) rfl p43 p44 hV2 hBs hr2 hG2 (fun _ _ h => h)
    · intro L a w1 hL hS hb hd
      have p36 := (hd ⟨3, .data⟩ (by simp) rfl).2 _ _ rfl rfl
      have e36 : a.tmps[36]?.getD undef = Value.pointer (some ⟨s, 0, none⟩) := Rq.slot p36
      exact Rq.does_pure (Rq.wanted_none rfl) (by simp [execOp, e36, go_sem]) rfl hS (rR _ _)
    · intro L a w1 hL hS hb hd
      have p46 := (hd ⟨13, .data⟩ (by simp) rfl).2 _ _ rfl rfl
      have e46 : a.tmps[46]?.getD undef = Value.pointer (some ⟨s, 0, none⟩) := Rq.slot p46
      exact Rq.does_pure (Rq.wanted_none rfl) (by simp [execOp, e46, go_sem]) rfl hS (rR _ _)
    · intro L a w1 hL hS hb hd
      have p47 := (hd ⟨14, .data⟩ (by simp) rfl).2 _ _ rfl rfl
      have e47 : a.tmps[47]?.getD undef = Value.pointer (some ⟨s, 0, none⟩) := Rq.slot p47
      have p45 := (hd ⟨12, .data⟩ (by simp) rfl).2 _ _ rfl rfl
      exact ws_store hS hL (hd ⟨12, .data⟩ (by simp) rfl).1 (Rq.wanted_none rfl) rfl p45 (fun A2 k c2 hx => by
        have e45 := Rq.slot hx
        rw [hx]
        simp [execOp, e47, e45, go_sem, cell0 (hS.2.1 hL), frozen_of_row _ s 0 _ _ (hS.2.1 hL)]) hGs hsp trivial
    · intro L v w7 hS hL hF
      obtain ⟨hp7, _, _, hT7, hfin, _, _⟩ := hS
      obtain ⟨A2, c2, hs7, A3, c3, e3, hV7, hG7⟩ := hfin (hL 15 (by simp))
      injection e3 with e31 e32 e33
      subst e31 e33
      have q0 := cell0 hp7
      have q1 := cell1 hp7
      have q2 := frozen_of_row _ p 1 _ _ hp7
      have q3 := cell0 hs7
      simp only [Rq.putAll]
      simp only [Act.put, List.setIfInBounds_toArray, List.set_cons_succ, List.set_cons_zero]
      have FACTS := Lib.hid (And.intro hp7 (And.intro hs7 (And.intro hV7 (And.intro hG7 hT7))))
      clear hp7 hs7 hV7 hG7 hT7 hF hL hfin
      go_wp2_with fail
      refine ⟨rfl, _, results_none (by kernel_rfl), rfl, HFIN _ ?_⟩
      obtain ⟨hp7, hs7, hV7, hG7, hT7⟩ := FACTS.out
      exact wrote_of hTn hG1 hFp hFl hsF hsp hp7 hs7 hV7 hG7 hT7
end Go.Proofs.Ytaboamkfpolpbaa.Wi
