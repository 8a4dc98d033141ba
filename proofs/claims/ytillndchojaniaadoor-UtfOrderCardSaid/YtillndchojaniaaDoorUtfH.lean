/-
  Contracts of utf.Whole and utf.Decode. Conditions: the tables stand; Decode: four bytes for each byte read are within the model's reach.
-/
import Derived.Test.YtillndchojaniaaDoorUtfG
namespace Go.Proofs.YtillndchojaniaaDoor
open Go.RowKit

theorem callWhole1 (args : Array Value) (w : World) : (callFunc 27 args).run Tryd.prog w = .ok (.enter 27 args) w := by simp [go_sem]
theorem callDecode1 (args : Array Value) (w : World) : (callFunc 25 args).run Tryd.prog w = .ok (.enter 25 args) w := by simp [go_sem]
theorem below_of_tn {B : Nat} {w w' : World} {T : Nat → Prop} (h : Tn T w w') (hB : B ≤ w.heap.size) (hT : ∀ b, T b → B ≤ b) : Below B w w' := h.below (Below.refl B w) hB hT

set_option maxRecDepth 100000 in
set_option maxHeartbeats 400000 in
theorem whole1_any (x : Value) (w : World) : Calls Tryd.prog 27 #[x] w fun e w' => e = .returned (.tuple #[]) ∧ w' = w := by
  go_enter Tryd.func27, Tryd.ntmps27
  go_wp2_with fail
  exact ⟨rfl, _, results_none (by kernel_rfl) _ _ _, rfl, rfl⟩
set_option maxRecDepth 100000 in
set_option maxHeartbeats 400000 in
theorem whole_any (A : Option Addr) (n c : Nat) (bs : List Nat) (w : World) (hT : Tab w) (hB : Bys w w.heap.size A n c bs) :
    Calls Tryd.prog 14 #[.slice A n c] w fun e w' => e = .returned (.int .i64 ((Pl.whole bs : Nat) : Int)) ∧ Below w.heap.size w w' := by
  have HE := Lib.hid (each_any A n c bs w hT hB 27 #[] (fun _ => False) (fun _ _ => True) callWhole1 id id id (fun _ _ _ h => h) trivial (fun _ _ _ _ _ => trivial)
    (fun cs x w1 _ _ _ => (whole1_any _ w1).mono fun e w2 ⟨h1, h2⟩ => ⟨h1, trivial, h2 ▸ Tn.refl _ _⟩))
  clear hT hB
  go_enter Tryd.func14, Tryd.ntmps14
  go_wp2_with fail
  refine HE.out.mono ?_
  rintro e w1 ⟨rfl, _, ht⟩
  go_wp2_with fail
  go_ret
  exact ⟨rfl, below_of_tn ht (Nat.le_refl _) (fun b hb => by rcases hb with hb | hb; exact Nat.le_of_eq hb.symm; exact hb.elim)⟩

/-- what Decode's closure has laid: cs, in the variable at block q; block N is none of it -/
def DJ (base q N : Nat) (cs : List Int) (w : World) : Prop :=
  ∃ A m c, w.heap[q]? = some (.cells #[.slice A m c] 22 (0, 0)) ∧ OwnC w base (.slice A m c) cs ∧ (∀ g, Value.ownBlock (.slice A m c) = some g → N < g) ∧ N < w.heap.size
theorem DJ.reader {base q N : Nat} {cs : List Int} {w1 w2 : World} (h : DJ base q N cs w1) (hq : q ≠ N) (ht : Tn (fun b => b = N) w1 w2) : DJ base q N cs w2 := by
  obtain ⟨A, m, c, h1, h2, h3, h4⟩ := h
  exact ⟨A, m, c, (ht.block q (lt_of_block h1) hq).trans h1, h2.same (fun g _ hg he => ht.block g hg (fun e => by have := h3 g he; omega)), h3, Nat.lt_of_lt_of_le h4 ht.size⟩

set_option maxRecDepth 100000 in
set_option maxHeartbeats 400000 in
theorem dec1_any (base q N : Nat) (cs : List Int) (x : Int) (w : World) (h : DJ base q N cs w) (hx : Pl.J x) (hq : q < N) (hb : base ≤ q) (hr : (cs.length + 1) * 4 ≤ 140737488355328) :
    Calls Tryd.prog 25 #[.int .i32 x, .pointer (some ⟨q, 0, none⟩)] w fun e w' => e = .returned (.tuple #[]) ∧ DJ base q N (cs ++ [x]) w' ∧ Tn (fun b => b = q ∨ N < b) w w' := by
  obtain ⟨A, m, c, h1, h2, h3, h4⟩ := h
  have q0 : w.cell? ⟨q, 0, none⟩ = some (.slice A m c) := cell0 h1
  obtain ⟨hm, _⟩ := h2.crs
  have HM := Lib.hid hm
  have hlt := lt_of_block h1
  have hA1 : (w.alloc (.cells #[.int .i32 x] 24)).heap[q]? = some (.cells #[.slice A m c] 22 (0, 0)) := (Below.heap_alloc w _ q hlt).trans h1
  have hO1 := h2.alloc (.cells #[.int .i32 x] 24)
  have hS1 : Crs (w.alloc (.cells #[.int .i32 x] 24)) (w.alloc (.cells #[.int .i32 x] 24)).heap.size (some ⟨w.heap.size, 0, none⟩) 1 1 [x] :=
    (crs_lit w [x] (fun y hy => by simp at hy; rw [hy]; exact hx) (by unfold maxLen; simp)).crs.2
  have hsz : (w.alloc (.cells #[.int .i32 x] 24)).heap.size = w.heap.size + 1 := by simp
  have HH := Lib.hid (And.intro hA1 (And.intro hO1 (And.intro hS1 (And.intro h3 (And.intro h4 (And.intro hlt (And.intro hr hsz)))))))
  have hT1 := Lib.hid ((Tn.refl (fun b => b = q ∨ N < b) w).alloc (.cells #[.int .i32 x] 24))
  clear hx hm hA1 hO1 hS1 h1 h2 h3 h4 hr hsz hlt
  go_enter Tryd.func25, Tryd.ntmps25
  go_wp2_with (at_builtin; refine wpList_append_crs (w.alloc (.cells #[.int .i32 x] 24)) rfl (.tmp 3) (.tmp 5) rfl base A m c cs (by rfl) HH.out.2.1 _ (some ⟨w.heap.size, 0, none⟩) 1 1 [x] (by rfl) HH.out.2.2.1 (by have := HH.out.2.2.2.2.2.2.1; have := HM.out; omega) (by have := HH.out.2.2.2.2.2.1; have := HH.out.2.2.2.2.2.2.2; omega) ?_)
  intro A2 c2 w2 hO2 hg2 hat
  obtain ⟨hA1, hO1, hS1, h3, h4, hlt, hr, hsz⟩ := HH.out
  have hqo : some q ≠ Value.ownBlock (.slice A m c) := fun e => by have := h3 q e.symm; omega
  have p2 : w2.heap[q]? = some (.cells #[.slice A m c] 22 (0, 0)) := (hg2.block q (by omega) hqo).trans hA1
  have q2 : w2.cell? ⟨q, 0, none⟩ = some (.slice A m c) := cell0 p2
  have f2 := frozen_of_row w2 q 0 _ _ p2
  have hN2 : ∀ g, Value.ownBlock (.slice A2 (m + 1) c2) = some g → N < g := fun g e => by
    rcases hat with h | h
    · exact h3 g (h ▸ e)
    · rw [h] at e
      cases e
      omega
  have ht2 : Tn (fun b => b = q ∨ N < b) w w2 := hT1.out.grown hg2 (fun k e => Or.inr (Or.inr (h3 k e)))
  have HF := Lib.hid (And.intro p2 (And.intro hO2 (And.intro hN2 (And.intro ht2 h4))))
  clear hA1 hO1 hS1 h3 h4 hlt hr hsz hqo p2 hN2 ht2 hO2 hg2 hat HH q0
  go_wp2_with fail
  obtain ⟨p2, hO2, hN2, ht2, h4⟩ := HF.out
  have ht3 : Tn (fun b => b = q) w2 (w2.setCell ⟨q, 0, none⟩ (.slice A2 (m + 1) c2)) := (Tn.refl (fun b => b = q) w2).set_ (T := fun b => b = q) (p := ⟨q, 0, none⟩) (Or.inr rfl) _
  refine ⟨rfl, _, results_none (by kernel_rfl) _ _ _, rfl, ⟨A2, m + 1, c2, ?_, ?_, hN2, ?_⟩, ht2.trans ht3 (fun b _ h => Or.inl h)⟩
  · rw [blk_set p2]; rfl
  · exact hO2.same (fun g _ hg he => ht3.block g hg (fun e => by have := hN2 g he; omega))
  · exact Nat.lt_of_lt_of_le h4 (Nat.le_trans ht2.size ht3.size)

/-- what a Decode tells -/
def Pl.decT (bs : List Nat) : List Int := if Pl.whole bs = bs.length then Pl.dec bs else []
def Pl.decE (bs : List Nat) : Int := if Pl.whole bs = bs.length then 0 else 21
theorem Pl.dec_yes {bs : List Nat} (h : Pl.whole bs = bs.length) : Pl.decT bs = Pl.dec bs ∧ Pl.decE bs = 0 := by simp [Pl.decT, Pl.decE, h]
theorem Pl.dec_no {bs : List Nat} (h : Pl.whole bs ≠ bs.length) : Pl.decT bs = [] ∧ Pl.decE bs = 21 := by simp [Pl.decT, Pl.decE, h]
def DecRet (w : World) (bs : List Nat) (e : Ending) (w' : World) : Prop :=
  ∃ A n c, e = .returned (.tuple #[.slice A n c, .int .i64 (Pl.decE bs)]) ∧ OwnC w' w.heap.size (.slice A n c) (Pl.decT bs) ∧ Below w.heap.size w w'
theorem decRet_yes {w w' : World} {bs : List Nat} {A : Option Addr} {m c : Nat} (h : Pl.whole bs = bs.length) (hO : OwnC w' w.heap.size (.slice A m c) (Pl.dec bs)) (hb : Below w.heap.size w w') : DecRet w bs (.returned (.tuple #[.slice A m c, .int .i64 0])) w' :=
  ⟨A, m, c, by rw [(Pl.dec_yes h).2], by rw [(Pl.dec_yes h).1]; exact hO, hb⟩
theorem decRet_no {w w' : World} {bs : List Nat} (h : Pl.whole bs ≠ bs.length) (hb : Below w.heap.size w w') : DecRet w bs (.returned (.tuple #[.slice none 0 0, .int .i64 21])) w' :=
  ⟨none, 0, 0, by rw [(Pl.dec_no h).2], by rw [(Pl.dec_no h).1]; exact OwnC.nil_ _ _, hb⟩

set_option maxRecDepth 100000 in
set_option maxHeartbeats 400000 in
theorem dec_any (A : Option Addr) (n c : Nat) (bs : List Nat) (w : World) (hT : Tab w) (hB : Bys w w.heap.size A n c bs) (hr : n * 4 ≤ 140737488355328) :
    Calls Tryd.prog 11 #[.slice A n c] w (DecRet w bs) := by
  have hle := hB.le
  have hcap := hB.cap
  unfold maxLen at hcap
  have HL := Lib.hid hB.len
  have hb1 : Below w.heap.size w (w.alloc (.cells #[.slice none 0 0] 22)) := (Below.refl _ w).alloc (Nat.le_refl _) _
  have hsz : (w.alloc (.cells #[.slice none 0 0] 22)).heap.size = w.heap.size + 1 := by simp
  have HE := Lib.hid (each_any A n c bs (w.alloc (.cells #[.slice none 0 0] 22)) (hT.then_ hb1) (hB.then_ hb1) 25 #[.pointer (some ⟨w.heap.size, 0, none⟩)] (fun b => b = w.heap.size ∨ w.heap.size + 1 < b) (DJ w.heap.size w.heap.size (w.heap.size + 1)) callDecode1
    (by have := hT.pos; omega) (by have := hT.pos; omega) (by rw [hsz]; omega)
    (fun hn ad e h => by
      obtain ⟨g, o, e2, hg, _⟩ := hB.at_ hn
      rw [e] at e2
      cases e2
      have h' : g = w.heap.size ∨ w.heap.size + 1 < g := h
      omega)
    ⟨none, 0, 0, (Below.heap_alloc _ _ _ (by rw [hsz]; omega)).trans (heap_alloc_new w _), OwnC.nil_ _ _, (fun g e => by cases e), by simp⟩
    (fun cs w1 w2 hj ht => hj.reader (by omega) (by rw [hsz] at ht; exact ht))
    (fun cs x w1 hj hm hl => dec1_any w.heap.size w.heap.size (w.heap.size + 1) cs x w1 hj hm.J (by omega) (Nat.le_refl _) (by omega)))
  have HB1 := Lib.hid (And.intro hb1 hsz)
  clear hT hB hb1 hsz
  go_enter Tryd.func11, Tryd.ntmps11
  go_wp2_with fail
  refine HE.out.mono ?_
  rintro e w1 ⟨rfl, hJ, ht⟩
  obtain ⟨hb1, hsz⟩ := HB1.out
  have hb2 := Lib.hid (ht.below (B := w.heap.size) hb1 (by rw [hsz]; omega) (fun b h => by
    rcases h with h | h | h
    · rw [hsz] at h; omega
    · exact Nat.le_of_eq h.symm
    · omega))
  obtain ⟨A2, m, c2, h1, h2, h3, h4⟩ := hJ
  have q0 : w1.cell? ⟨w.heap.size, 0, none⟩ = some (.slice A2 m c2) := cell0 h1
  have HO := Lib.hid h2
  have hwl := Pl.whole_le bs
  rw [HL.out] at hwl
  have HBS := Lib.hid (show Pl.whole bs = n → Pl.whole bs = bs.length from fun h => h.trans HL.out.symm)
  have HBN := Lib.hid (show Pl.whole bs < n → Pl.whole bs ≠ bs.length from fun h e => by rw [e, HL.out] at h; omega)
  obtain ⟨k, hk⟩ : ∃ k, k = Pl.whole bs := ⟨_, rfl⟩
  have HK := Lib.hid hk
  rw [← hk] at hwl HBN HBS ⊢
  clear hk ht hb1 hsz h1 h2 h3 h4 HE HB1
  by_cases hlt : k < n
  · have HN := Lib.hid (HBN.out hlt)
    rw [HK.out] at HN
    go_wp2_with fail
    go_ret2
    exact decRet_no HN.out hb2.out
  · have hkn : k = n := by omega
    have HY := Lib.hid (HBS.out hkn)
    rw [HK.out] at HY
    clear hkn
    go_wp2_with fail
    go_ret2
    exact decRet_yes HY.out HO.out hb2.out
end Go.Proofs.YtillndchojaniaaDoor
