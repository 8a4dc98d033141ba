/-
  Contracts of utf.reader's closure, of utf.each (for any closure that is handed in whose own contract is known), of utf.Whole and utf.Decode. Conditions: the tables stand; Decode: what comes out is within the model's reach.
-/
import Derived.Test.YtillndchojaniaaDoorUtfF
import Derived.Test.YtillndchojaniaaDoorBaseT
namespace Go.Proofs.YtillndchojaniaaDoor
open Go.RowKit

theorem below_size {B : Nat} {w w' : World} (h : Below B w w') : w.heap.size ≤ w'.heap.size := h.size
/-- the reader's variable at block p, as the closure finds it: bs is left; T: blocks that bs does not lie in -/
def RdrT (w : World) (p : Nat) (T : Nat → Prop) (bs : List Nat) : Prop :=
  ∃ A n c, w.heap[p]? = some (.cells #[.slice A n c] 23 (0, 0)) ∧ Bys w w.heap.size A n c bs ∧ Apart (fun b => b = p ∨ T b) A n
theorem RdrT.keep {w w' : World} {p : Nat} {bs : List Nat} {T : Nat → Prop} (h : RdrT w p T bs) (ht : Tn T w w') (hp : ¬ T p) : RdrT w' p T bs := by
  obtain ⟨A, n, c, h1, h2, h3⟩ := h
  exact ⟨A, n, c, (ht.block p (lt_of_block h1) hp).trans h1, ht.bys h2 (fun hn ad e h => h3 hn ad e (Or.inr h)), h3⟩
theorem Tab.tn {w w' : World} {T : Nat → Prop} (h : Tab w) (ht : Tn T w w') (h0 : ¬ T 0) (h1 : ¬ T 1) : Tab w' :=
  ⟨Nat.lt_of_lt_of_le h.1 ht.size, fun i hi => (ht.cell (p := ⟨1, i, none⟩) h.1 h1).trans (h.sz hi), fun i hi => (ht.cell (p := ⟨0, i, none⟩) (Nat.lt_trans (by decide : 0 < 1) h.1) h0).trans (h.mk hi)⟩

set_option maxRecDepth 100000 in
set_option maxHeartbeats 400000 in
theorem reader_next (p : Nat) (bs : List Nat) (w : World) (hT : Tab w) (T : Nat → Prop) (hR : RdrT w p T bs) :
    Calls Tryd.prog 29 #[.pointer (some ⟨p, 0, none⟩)] w fun e w' => e = .returned (.tuple #[.int .i32 (((Pl.fst bs).1 : Nat) : Int), .int .i64 (((Pl.fst bs).2 : Nat) : Int)]) ∧
      RdrT w' p T (bs.drop (Pl.fst bs).2) ∧ Tn (fun b => b = p) w w' := by
  obtain ⟨A, n, c, h1, h2, h3⟩ := hR
  have hk := (Pl.fst_le bs).1
  rw [h2.len] at hk
  obtain ⟨k, hk0⟩ : ∃ k, k = (Pl.fst bs).2 := ⟨_, rfl⟩
  obtain ⟨x, hx0⟩ : ∃ x, x = (Pl.fst bs).1 := ⟨_, rfl⟩
  have HC := Lib.hid (show Calls Tryd.prog 30 #[.slice A n c] w fun e w' => e = .returned (.tuple #[.int .i32 (x : Int), .int .i64 (k : Int)]) ∧ Below w.heap.size w w' by
    rw [hk0, hx0]; exact first_any A n c bs w hT h2)
  rw [← hk0] at hk ⊢
  rw [← hx0]
  have HK := Lib.hid hk0
  have HX := Lib.hid hx0
  clear hk0 hx0
  have q0 : w.cell? ⟨p, 0, none⟩ = some (.slice A n c) := cell0 h1
  have HH := Lib.hid (And.intro h1 (And.intro h2 h3))
  have HPS := Lib.hid (lt_of_block h1)
  clear h1 h2 h3 hT
  go_enter Tryd.func29, Tryd.ntmps29
  go_wp2_with fail
  refine HC.out.mono ?_
  rintro e w1 ⟨rfl, hb⟩
  obtain ⟨h1, h2, h3⟩ := HH.out
  have p1 : w1.heap[p]? = some (.cells #[.slice A n c] 23 (0, 0)) := (hb.block p HPS.out).trans h1
  have hB1 := h2.then_ hb
  obtain ⟨A2, hB2, hA2, hcut⟩ := hB1.cut hk
  have q1 : w1.cell? ⟨p, 0, none⟩ = some (.slice A n c) := cell0 p1
  have f1 := frozen_of_row w1 p 0 _ _ p1
  have HB2 := Lib.hid hB2
  have HA2 := Lib.hid hA2
  have HB := Lib.hid hb
  have HP1 := Lib.hid p1
  clear hB1 hB2 hA2 hb h1 h2 q0 p1
  go_wp2_with fail
  go_ret2
  have ht : Tn (fun b => b = p) w (w1.setCell ⟨p, 0, none⟩ (.slice A2 (n - k) (c - k))) := (Tn.of (fun b => b = p) HB.out).set_ (T := fun b => b = p) (p := ⟨p, 0, none⟩) (Or.inr rfl) _
  have ht1 : Tn (fun b => b = p) w1 (w1.setCell ⟨p, 0, none⟩ (.slice A2 (n - k) (c - k))) := (Tn.refl (fun b => b = p) w1).set_ (T := fun b => b = p) (p := ⟨p, 0, none⟩) (Or.inr rfl) _
  have hap : Apart (fun b => b = p ∨ T b) A2 (n - k) := fun hn ad e => by
    obtain ⟨ad0, e0, e1⟩ := HA2.out ad e
    show ¬ (ad.block = p ∨ T ad.block)
    rw [e1]
    exact h3 (by omega) ad0 e0
  refine ⟨rfl, ⟨A2, n - k, c - k, ?_, ht1.bys HB2.out (fun hn ad e h => hap hn ad e (Or.inl h)), hap⟩, ht⟩
  rw [blk_set HP1.out]; rfl

set_option maxRecDepth 100000 in
set_option maxHeartbeats 400000 in
theorem reader_any (A : Option Addr) (n c : Nat) (w : World) :
    Calls Tryd.prog 28 #[.slice A n c] w fun e w' => e = .returned (.func (.func 29) #[] #[.pointer (some ⟨w.heap.size, 0, none⟩)]) ∧ w' = w.alloc (.cells #[.slice A n c] 23) := by
  go_enter Tryd.func28, Tryd.ntmps28
  go_wp2_with fail
  go_ret
  exact ⟨rfl, rfl⟩
theorem callNext (args : Array Value) (w : World) : (callFunc 29 args).run Tryd.prog w = .ok (.enter 29 args) w := by simp [go_sem]

/-- each's loop: 'at' bytes are handed on as cs; the next code point is x, of k bytes -/
def LRel (w : World) (bs : List Nat) (G : Nat → Prop) (J : List Int → World → Prop) (read c size : Value) (wr : World) : Prop :=
  ∃ (at_ : Nat) (cs : List Int) (x k : Nat), read = .int .i64 (at_ : Int) ∧ c = .int .i32 (x : Int) ∧ size = .int .i64 (k : Int) ∧ Pl.fst (bs.drop at_) = (x, k) ∧ at_ + k ≤ bs.length ∧
    Pl.dec bs = cs ++ Pl.dec (bs.drop at_) ∧ Pl.whole bs = at_ + Pl.whole (bs.drop at_) ∧ RdrT wr w.heap.size G (bs.drop (at_ + k)) ∧ J cs wr ∧ Tn (fun b => b = w.heap.size ∨ G b) w wr ∧ Tab wr
theorem lrel_next {w wr : World} {bs : List Nat} {G : Nat → Prop} {J : List Int → World → Prop} {at_ : Nat} {cs : List Int} (h1 : at_ ≤ bs.length) (h2 : Pl.dec bs = cs ++ Pl.dec (bs.drop at_)) (h3 : Pl.whole bs = at_ + Pl.whole (bs.drop at_))
    (h4 : RdrT wr w.heap.size G ((bs.drop at_).drop (Pl.fst (bs.drop at_)).2)) (h5 : J cs wr) (h6 : Tn (fun b => b = w.heap.size ∨ G b) w wr) (h7 : Tab wr) :
    LRel w bs G J (.int .i64 (at_ : Int)) (.int .i32 (((Pl.fst (bs.drop at_)).1 : Nat) : Int)) (.int .i64 (((Pl.fst (bs.drop at_)).2 : Nat) : Int)) wr := by
  refine ⟨at_, cs, _, _, rfl, rfl, rfl, rfl, ?_, h2, h3, by rw [← List.drop_drop]; exact h4, h5, h6, h7⟩
  have := (Pl.fst_le (bs.drop at_)).1
  rw [List.length_drop] at this
  omega

set_option maxRecDepth 100000 in
set_option maxHeartbeats 1000000 in
theorem each_any (A : Option Addr) (n c : Nat) (bs : List Nat) (w : World) (hT : Tab w) (hB : Bys w w.heap.size A n c bs) (f : FuncId) (caps : Array Value) (G : Nat → Prop) (J : List Int → World → Prop)
    (hf : ∀ args w, (callFunc f args).run Tryd.prog w = .ok (.enter f args) w) (hG0 : ¬ G 0) (hG1 : ¬ G 1) (hGN : ¬ G w.heap.size) (hA : Apart G A n)
    (hJ0 : J [] (w.alloc (.cells #[.slice A n c] 23)))
    (hJr : ∀ cs w1 w2, J cs w1 → Tn (fun b => b = w.heap.size) w1 w2 → J cs w2)
    (hH : ∀ cs (x : Int) w1, J cs w1 → Pl.May x → cs.length < n → Calls Tryd.prog f (#[.int .i32 x] ++ caps) w1 fun e w2 => e = .returned (.tuple #[]) ∧ J (cs ++ [x]) w2 ∧ Tn G w1 w2) :
    Calls Tryd.prog 24 #[.slice A n c, .func (.func f) #[] caps] w fun e w' => e = .returned (.int .i64 ((Pl.whole bs : Nat) : Int)) ∧ J (Pl.dec bs) w' ∧ Tn (fun b => b = w.heap.size ∨ G b) w w' := by
  have hle := hB.le
  have hcap := hB.cap
  unfold maxLen at hcap
  have HL := Lib.hid hB.len
  have HT := Lib.hid hT
  have HB := Lib.hid hB
  have HJ0 := Lib.hid hJ0
  have HJR := Lib.hid hJr
  have HH := Lib.hid hH
  have HG := Lib.hid (And.intro hG0 (And.intro hG1 (And.intro hGN hA)))
  have HR := Lib.hid (reader_any A n c w)
  obtain ⟨N, hN⟩ : ∃ N, N = w.heap.size := ⟨_, rfl⟩
  rw [← hN] at HR
  have HN := Lib.hid hN
  clear hB hT hJ0 hJr hH hG0 hG1 hGN hA hN
  go_enter Tryd.func24, Tryd.ntmps24
  go_wp2_with fail
  refine HR.out.mono ?_
  rintro e w1 ⟨rfl, hw1⟩
  have HW1 := Lib.hid hw1
  clear hw1
  go_wp2_with fail
  have hb1 : Below w.heap.size w w1 := by rw [HW1.out]; exact (Below.refl _ w).alloc (Nat.le_refl _) _
  have hT1 := HT.out.then_ hb1
  have hR1 : RdrT w1 w.heap.size G bs := by
    refine ⟨A, n, c, ?_, HB.out.then_ hb1, fun hn ad e h => ?_⟩
    · rw [HW1.out]; exact heap_alloc_new w _
    · rcases h with h | h
      · obtain ⟨g, o, e2, hg, _⟩ := HB.out.at_ hn
        rw [e] at e2
        cases e2
        have h' : g = w.heap.size := h
        omega
      · exact HG.out.2.2.2 hn ad e h
  refine (reader_next N bs w1 hT1 G (by rw [HN.out]; exact hR1)).mono ?_
  rintro e w2 ⟨rfl, hR2, ht2⟩
  rw [HN.out] at hR2 ht2
  have hT2 := hT1.tn ht2 (by have := HT.out.pos; omega) (by have := HT.out.pos; omega)
  have ht02 : Tn (fun b => b = w.heap.size ∨ G b) w w2 := (Tn.of _ hb1).trans ht2 (fun b _ h => Or.inl h)
  have hJ2 : J [] w2 := HJR.out [] w1 w2 (by rw [HW1.out]; exact HJ0.out) ht2
  have hst := lrel_next (w := w) (bs := bs) (G := G) (J := J) (at_ := 0) (cs := []) (Nat.zero_le _) (by simp) (by simp) (by simpa using hR2) hJ2 ht02 hT2
  have HST := Lib.hid hst
  have HW2 := Lib.hid ht02
  rw [List.drop_zero] at HST
  obtain ⟨k, hk0⟩ : ∃ k, k = (Pl.fst bs).2 := ⟨_, rfl⟩
  obtain ⟨x, hx0⟩ : ∃ x, x = (Pl.fst bs).1 := ⟨_, rfl⟩
  rw [← hk0, ← hx0] at HST
  rw [← hk0, ← hx0]
  clear hb1 hT1 hR1 hR2 ht2 hT2 ht02 hJ2 hst hk0 hx0 HR HW1 HJ0
  go_wp2_with fail
  go_loopw [6, 7, 8] (fun r c k wr => LRel w bs G J r c k wr) (fun r _ _ _ => n - (intOf r).toNat)
  case atStart => exact HST.out
  case round =>
    obtain ⟨at_, cs, x, k, rfl, rfl, rfl, hf1, hle1, hd, hw, hRd, hJ, ht, hTr⟩ := hrel
    have HALL := Lib.hid (And.intro hf1 (And.intro hle1 (And.intro hd (And.intro hw (And.intro hRd (And.intro hJ (And.intro ht hTr)))))))
    clear hf1 hle1 hd hw hRd hJ ht hTr
    by_cases hk : k = 0
    · subst hk
      clear hf
      go_wp2_with fail
      go_ret
      obtain ⟨hf1, hle1, hd, hw, hRd, hJ, ht, hTr⟩ := HALL.out
      have h0 : (Pl.fst (bs.drop at_)).2 = 0 := by rw [hf1]
      rw [Pl.dec_stop h0, List.append_nil] at hd
      rw [Pl.whole_stop h0] at hw
      exact ⟨ret_int (by omega), by rw [hd]; exact hJ, ht⟩
    · have hk1 : 1 ≤ k := by omega
      obtain ⟨hf1, hle1, hd, hw, hRd, hJ, ht, hTr⟩ := HALL.out
      have hne : (Pl.fst (bs.drop at_)).2 ≠ 0 := by rw [hf1]; exact hk
      have hmay : Pl.May (x : Int) := by have := (Pl.fst_ok hne).1; rwa [hf1] at this
      have hd2 : Pl.dec bs = (cs ++ [(x : Int)]) ++ Pl.dec (bs.drop (at_ + k)) := by
        have := Pl.snoc_dec bs cs at_ hd hne
        rwa [hf1] at this
      have hw2 : Pl.whole bs = (at_ + k) + Pl.whole (bs.drop (at_ + k)) := by
        have e2 : (Pl.fst (bs.drop at_)).2 = k := by rw [hf1]
        rw [hw, Pl.whole_go hne, e2, List.drop_drop]; omega
      have hcl : cs.length < n := by
        have h1 := congrArg List.length hd2
        have h2 := Pl.dec_le bs
        have h3 := Pl.whole_le bs
        have h4 := HL.out
        simp only [List.length_append, List.length_cons, List.length_nil] at h1
        omega
      have HC := Lib.hid (HH.out cs (x : Int) wr hJ hmay hcl)
      have HN2 := Lib.hid (And.intro hd2 hw2)
      have hatn : at_ + k ≤ n := by have := HL.out; omega
      clear hk hne hmay hd2 hw2 hcl hf1 hle1 hd hw hRd hJ ht hTr
      go_wp2_with fail
      refine HC.out.mono ?_
      rintro e w3 ⟨rfl, hJ3, ht3⟩
      obtain ⟨hf1, hle1, hd, hw, hRd, hJ, ht, hTr⟩ := HALL.out
      obtain ⟨hG0, hG1, hGN, hA⟩ := HG.out
      have hR3 := hRd.keep ht3 hGN
      have hT3 := hTr.tn ht3 hG0 hG1
      have HJ3 := Lib.hid hJ3
      have HT3 := Lib.hid (ht.trans ht3 (fun b _ h => Or.inr h))
      have HNX := Lib.hid (reader_next N (bs.drop (at_ + k)) w3 hT3 G (by rw [HN.out]; exact hR3))
      have HTT := Lib.hid hT3
      clear hf1 hle1 hd hw hRd hJ ht hTr hG0 hG1 hGN hA hR3 hT3 hJ3 ht3 HALL HC
      go_wp2_with fail
      refine HNX.out.mono ?_
      rintro e w4 ⟨rfl, hR4, ht4⟩
      rw [HN.out] at hR4 ht4
      have hT4 := HTT.out.tn ht4 (by have := HT.out.pos; omega) (by have := HT.out.pos; omega)
      have HNXT := Lib.hid (lrel_next (w := w) (bs := bs) (G := G) (J := J) (at_ := at_ + k) (cs := cs ++ [(x : Int)]) (by have := HL.out; omega) HN2.out.1 HN2.out.2 hR4 (HJR.out _ w3 w4 HJ3.out ht4) (HT3.out.trans ht4 (fun b _ h => Or.inl h)) hT4)
      obtain ⟨k2, hk2⟩ : ∃ k2, k2 = (Pl.fst (bs.drop (at_ + k))).2 := ⟨_, rfl⟩
      obtain ⟨x2, hx2⟩ : ∃ x2, x2 = (Pl.fst (bs.drop (at_ + k))).1 := ⟨_, rfl⟩
      rw [← hk2, ← hx2] at HNXT
      rw [← hk2, ← hx2]
      clear hk2 hx2 hR4 ht4 hT4 HNX HJ3 HT3 HTT
      go_wp2_with fail
      go_roundw
      case rel => exact HNXT.out
      case measure => simp [intOf]; omega
end Go.Proofs.YtillndchojaniaaDoor
