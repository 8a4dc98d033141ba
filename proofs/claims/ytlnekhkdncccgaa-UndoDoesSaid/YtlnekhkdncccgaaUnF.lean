/-
  undo.Fill's closure, which keeps a text of its own. Conditions: the text is at most a hundred thousand code points; the unit fits it.
-/
import Derived.Test.YtlnekhkdncccgaaUnE
namespace Go.Proofs.Ytlnekhkdncccgaa
open Go.RowKit
open Pl (Un)

/-- a cell that holds a text -/
def InC (w : World) (pb : Nat) (v : Value) : Prop := w.heap[pb]? = some (.cells #[v] 22 (0, 0))
theorem InC.cell {w : World} {pb : Nat} {v : Value} (h : InC w pb v) : w.cell? ⟨pb, 0, none⟩ = some v := cell0 (r := []) h
theorem InC.lt {w : World} {pb : Nat} {v : Value} (h : InC w pb v) : pb < w.heap.size := lt_of_block h
theorem InC.tn {T : Nat → Prop} {w w' : World} {pb : Nat} {v : Value} (h : InC w pb v) (ht : Tn T w w') (hT : ¬ T pb) : InC w' pb v := ht.old h hT
theorem InC.frozen {w : World} {pb : Nat} {v : Value} (h : InC w pb v) : w.frozen? ⟨pb, 0, none⟩ = false := frozen_of_row w pb 0 _ _ h
theorem InC.set_ {w : World} {pb : Nat} {v : Value} (h : InC w pb v) (v' : Value) : InC (w.setCell ⟨pb, 0, none⟩ v') pb v' := blk_set (i := 0) h v'
/-- the closure's state: the cell, and the text that it holds, of its own -/
structure FiT (w : World) (base pb : Nat) (V : Value) (cs : List Int) : Prop where
  cell : InC w pb V
  own : ∃ A c, V = .slice A cs.length c ∧ OwnC w base (.slice A cs.length c) cs
  ne : V.ownBlock ≠ some pb
  le : base ≤ w.heap.size
theorem FiT.tn {T : Nat → Prop} {w w' : World} {base pb : Nat} {V : Value} {cs : List Int} (h : FiT w base pb V cs) (ht : Tn T w w') (hp : ¬ T pb) (hv : ∀ g, V.ownBlock = some g → ¬ T g) : FiT w' base pb V cs := by
  obtain ⟨A, c, e, ho⟩ := h.own
  subst e
  exact ⟨h.cell.tn ht hp, ⟨A, c, rfl, ho.tn ht hv⟩, h.ne, Nat.le_trans h.le ht.size⟩
/-- what a call of the closure leaves -/
def RetFi (w : World) (base pb : Nat) (V : Value) (u : Un) (cs : List Int) (e : Ending) (w' : World) : Prop :=
  e = .returned (uval (Pl.fillU u cs)) ∧ ∃ V', FiT w' base pb V' (Pl.behind u cs) ∧ Tn (fun b => b = pb ∨ V.ownBlock = some b) w w' ∧ ∀ g, V'.ownBlock = some g → V.ownBlock = some g ∨ w.heap.size ≤ g
theorem getD_fill (x y : Int) (p : Nat) (c : Int) (cs : List Int) : Pl.fillU ⟨2, (p : Int), c, x, y⟩ cs = ⟨2, (p : Int), cs.getD p 0, x, y⟩ := by
  unfold Pl.fillU; rw [if_pos rfl, Int.toNat_natCast]
set_option maxRecDepth 100000 in
set_option maxHeartbeats 1000000 in
theorem fillC_any (u : Un) (cs : List Int) (V : Value) (base pb : Nat) (w : World) (hS : FiT w base pb V cs) (hf : Pl.Fit u cs.length) (hn : cs.length ≤ 100000) :
    Calls Try.prog 33 #[uval u, .pointer (some ⟨pb, 0, none⟩)] w (RetFi w base pb V u cs) := by
  obtain ⟨A, c, rfl, ho⟩ := hS.own
  obtain ⟨N, hN⟩ : ∃ N, N = cs.length := ⟨_, rfl⟩
  rw [← hN] at ho hS hn hf ⊢
  have HN := Lib.hid hN
  have hpl := hS.cell.lt
  have hble := hS.le
  have HNE := Lib.hid (show ∀ g, Value.ownBlock (.slice A N c) = some g → g ≠ pb from fun g h e => hS.ne (by rw [h, e]))
  rcases Pl.fit_cases hf with ⟨x, y, rfl⟩ | ⟨p, ch, x, y, rfl, hp, hmay⟩ | ⟨p, ch, x, y, rfl, hp, hmay⟩
  · -- a Nop
    have hb2 : Below w.heap.size w ((w.alloc (.cells #[.int .i64 0, .int .i64 0, .int .i32 0, .int .u32 x, .int .u64 y] 42)).alloc (.cells #[.int .i64 0, .int .i64 0, .int .i32 0, .int .u32 x, .int .u64 y] 42)) := below_alloc (below_box _ _) _
    have HS := Lib.hid (hS.tn (Tn.of (fun _ => False) hb2) (fun h => h) (fun g _ h => h))
    have HB := Lib.hid hb2
    unfold uval
    simp only
    clear hS ho hb2 hf
    go_enter Try.func33, Try.ntmps33
    go_wp2_with fail
    refine bodyPost_ret (results_unit rfl (by rfl) (show UAt _ (w.heap.size + 1) 0 0 0 x y from heap_new (by simp))) rfl ⟨rfl, _, ?_, Tn.of _ HB.out, fun g hg => Or.inl hg⟩
    rw [Pl.behind_nop]; exact HS.out
  · -- an Ins
    obtain ⟨W2, hW2⟩ : ∃ W2, W2 = (w.alloc (.cells #[.int .i64 1, .int .i64 (p : Int), .int .i32 ch, .int .u32 x, .int .u64 y] 42)).alloc (.cells #[.int .i64 0, .int .i64 0, .int .i32 0, .int .u32 0, .int .u64 0] 42) := ⟨_, rfl⟩
    have hb2 : Below w.heap.size w W2 := by rw [hW2]; exact below_alloc (below_box _ _) _
    have hs2 : W2.heap.size = w.heap.size + 2 := by rw [hW2]; simp
    have hu : UAt W2 w.heap.size 1 (p : Int) ch x y := by rw [hW2]; exact (uat_new w 1 (p : Int) ch x y).alloc _
    have hr : UAt W2 (w.heap.size + 1) 0 0 0 0 0 := by rw [hW2]; exact heap_new (by simp)
    obtain ⟨W3, hW3⟩ : ∃ W3, W3 = W2.alloc (.cells #[.int .i32 ch] 40) := ⟨_, rfl⟩
    have hb3 : Below W2.heap.size W2 W3 := by rw [hW3]; exact below_box _ _
    have hs3 : W3.heap.size = w.heap.size + 3 := by rw [hW3]; simp [hs2]
    have hV : Crs W3 W3.heap.size (some ⟨W2.heap.size, 0, none⟩) 1 1 [ch] := by
      rw [hW3]
      exact (crs_lit W2 [ch] (fun y hy => by simp at hy; rw [hy]; exact may_j hmay) (by simp [maxLen])).crs.2
    have hS3 : FiT W3 base pb (.slice A N c) cs := (hS.tn (Tn.of (fun _ => False) hb2) (fun h => h) (fun g _ h => h)).tn (Tn.of (fun _ => False) hb3) (fun h => h) (fun g _ h => h)
    have ho3 : OwnC W3 base (.slice A N c) cs := OwnC.then_ (OwnC.then_ ho hb2) hb3
    have HI := Lib.hid (insC_any W3 base A N c cs ho3 hS3.le p (by omega) _ 1 1 [ch] hV (fun _ g hg ad had e => by cases had; have := (ho.lt g hg).2; simp only at e; omega) (by omega))
    have hcp2 := hS3.cell.cell
    have hcp1 : (W2).cell? ⟨pb, 0, none⟩ = some (.slice A N c) := (hS.cell.tn (Tn.of (fun _ => False) hb2) (fun h => h)).cell
    have hcp0 : (w.alloc (.cells #[.int .i64 1, .int .i64 (p : Int), .int .i32 ch, .int .u32 x, .int .u64 y] 42)).cell? ⟨pb, 0, none⟩ = some (.slice A N c) := (hS.cell.tn (Tn.of (fun _ => False) (below_box _ _)) (fun h => h)).cell
    have HU3 := Lib.hid (hu.then_ hb3)
    have HR3 := Lib.hid (hr.then_ hb3)
    have HS3 := Lib.hid hS3
    have HT3 := Lib.hid (Tn.trans (Tn.of (fun b => b = pb ∨ Value.ownBlock (.slice A N c) = some b) hb2) (Tn.of (fun _ => False) hb3) (fun b _ h => h.elim))
    have HS := Lib.hid hS
    have HOW := Lib.hid ho.lt
    have HSZ := Lib.hid hs3
    have hinl : cs.take p ++ [ch] ++ cs.drop p = Pl.behind ⟨1, (p : Int), ch, x, y⟩ cs := by rw [Pl.behind_ins]; unfold Pl.insL; simp
    have hl2 : (Pl.behind ⟨1, (p : Int), ch, x, y⟩ cs).length = N + 1 := by rw [Pl.behind_ins, Pl.len_insL (by omega)]; omega
    rw [hinl, show W2.heap.size = w.heap.size + 1 + 1 from hs2] at HI
    obtain ⟨T2, hT2⟩ : ∃ T2, T2 = Pl.behind ⟨1, (p : Int), ch, x, y⟩ cs := ⟨_, rfl⟩
    rw [← hT2] at HI hl2
    have HT2 := Lib.hid hT2
    have HL2 := Lib.hid hl2
    have HW := Lib.hid (hW3.trans (by rw [hW2]))
    have z2 : (0 : Int) ≤ (p : Int) := Int.natCast_nonneg p
    rw [hW2] at hcp1
    unfold uval
    simp only
    clear hS ho hS3 ho3 hu hr hb2 hb3 hV hs2 hs3 hW3 hinl hT2 hl2 hf hW2 hN
    go_enter Try.func33, Try.ntmps33
    go_wp2_with fail
    rw [← HW.out]
    refine HI.out.mono ?_
    rintro e w7 ⟨A7, c7, rfl, ho7, ht7, hg7⟩
    have hlt := fun g hg => (HOW.out g hg).2
    have hsz := HSZ.out
    have hin7 : InC w7 pb (.slice A N c) := HS3.out.cell.tn ht7 (fun h => HNE.out pb h rfl)
    have hu7 : UAt w7 w.heap.size 1 (p : Int) ch x y := UAt.tn HU3.out ht7 (fun h => by have := hlt _ h; omega)
    have hr7 : UAt w7 (w.heap.size + 1) 0 0 0 0 0 := UAt.tn HR3.out ht7 (fun h => by have := hlt _ h; omega)
    have hne7 : ∀ g, Value.ownBlock (.slice A7 (N + 1) c7) = some g → g ≠ pb := fun g hg e => by
      rcases hg7 g hg with h | h
      · exact HNE.out g h e
      · omega
    have hf7 := hin7.frozen
    have hc7 := hin7.cell
    have HIN := Lib.hid hin7
    have HU7 := Lib.hid hu7
    have HO7 := Lib.hid ho7
    have HN7 := Lib.hid hne7
    have HG7 := Lib.hid hg7
    have HT7 := Lib.hid (HT3.out.trans ht7 (fun b _ h => Or.inr h))
    have hr8 : UAt (w7.setCell ⟨pb, 0, none⟩ (.slice A7 (N + 1) c7)) (w.heap.size + 1) 0 0 0 0 0 := hr7.far (q := ⟨pb, 0, none⟩) (by simp only; omega) _
    have hu8 : UAt (w7.setCell ⟨pb, 0, none⟩ (.slice A7 (N + 1) c7)) w.heap.size 1 (p : Int) ch x y := hu7.far (q := ⟨pb, 0, none⟩) (by simp only; omega) _
    obtain ⟨a0, a1, a2, a3, a4⟩ := hu8.cells
    obtain ⟨r0, r1, r2, r3, r4⟩ := hr8.cells
    have rf := fun j => hr8.frozen j
    have HR8 := Lib.hid hr8
    clear hin7 hu7 hr7 ho7 hne7 hu8 hr8 ht7 hg7 HI hcp0 hcp1 hcp2 hsz
    go_wp2_with fail
    refine bodyPost_ret (results_unit rfl (by rfl) (HR8.out.sets 1 (p : Int) ch x y)) rfl ⟨rfl, .slice A7 (N + 1) c7, ⟨?_, ⟨A7, c7, ?_, ?_⟩, ?_, ?_⟩, tn_five (i := 0) (HT7.out.set_ (p := ⟨pb, 0, none⟩) (Or.inr (Or.inl rfl)) _) (Or.inl (by omega)) _ _ _ _ _, ?_⟩
    · exact (HIN.out.set_ (.slice A7 (N + 1) c7)).tn (T := fun b => b = w.heap.size + 1) (tn_five (T := fun b => b = w.heap.size + 1) (i := 0) (Tn.refl _ _) (Or.inr rfl) _ _ _ _ _) (by omega)
    · rw [← HT2.out, HL2.out]
    · rw [← HT2.out, HL2.out]
      refine (HO7.out.tn (T := fun b => b = pb) ((Tn.refl (fun b => b = pb) w7).set_ (p := ⟨pb, 0, none⟩) (Or.inr rfl) _) (fun g hg e => HN7.out g hg e)).tn (T := fun b => b = w.heap.size + 1) (tn_five (T := fun b => b = w.heap.size + 1) (i := 0) (Tn.refl _ _) (Or.inr rfl) _ _ _ _ _) (fun g hg e => ?_)
      rcases HG7.out g hg with h | h
      · have := hlt g h; omega
      · have := HSZ.out; omega
    · exact fun h => HN7.out pb h rfl
    · exact Nat.le_trans HS.out.le (tn_five (i := 0) (HT7.out.set_ (p := ⟨pb, 0, none⟩) (Or.inr (Or.inl rfl)) _) (Or.inl (by omega)) _ _ _ _ _).size
    · exact fun g hg => (HG7.out g hg).imp id (fun h => by have := HSZ.out; omega)
  · -- a Del
    have hp0 : p < N := by omega
    obtain ⟨g0, rfl, _⟩ := OwnC.pos_ ho (by omega)
    obtain ⟨z, hz⟩ : ∃ z, z = cs.getD p 0 := ⟨_, rfl⟩
    have HZ := Lib.hid hz
    obtain ⟨W2, hW2⟩ : ∃ W2, W2 = (w.alloc (.cells #[.int .i64 2, .int .i64 (p : Int), .int .i32 ch, .int .u32 x, .int .u64 y] 42)).alloc (.cells #[.int .i64 0, .int .i64 0, .int .i32 0, .int .u32 0, .int .u64 0] 42) := ⟨_, rfl⟩
    have hb2 : Below w.heap.size w W2 := by rw [hW2]; exact below_alloc (below_box _ _) _
    have hu2 : UAt W2 w.heap.size 2 (p : Int) ch x y := by rw [hW2]; exact (uat_new w 2 (p : Int) ch x y).alloc _
    have ho2 : OwnC W2 base (.slice (some ⟨g0, 0, none⟩) N c) cs := OwnC.then_ ho hb2
    have hzc : W2.cell? ⟨g0, p, none⟩ = some (.int .i32 z) := by
      obtain ⟨g', o', e, _, hc⟩ := (ho2.crs.2).at_ hp0
      cases e
      have := hc p hp0
      rw [Nat.zero_add] at this
      rw [hz]; exact this
    have hcp2 : W2.cell? ⟨pb, 0, none⟩ = some (.slice (some ⟨g0, 0, none⟩) N c) := (hS.cell.tn (Tn.of (fun _ => False) hb2) (fun h => h)).cell
    obtain ⟨u0, u1, u2, u3, u4⟩ := hu2.cells
    have uf := fun j => hu2.frozen j
    rw [hW2] at hzc hcp2 u0 u1 u2 u3 u4
    simp only [hW2] at uf
    obtain ⟨W3, hW3⟩ : ∃ W3, W3 = (w.alloc (.cells #[.int .i64 2, .int .i64 (p : Int), .int .i32 z, .int .u32 x, .int .u64 y] 42)).alloc (.cells #[.int .i64 0, .int .i64 0, .int .i32 0, .int .u32 0, .int .u64 0] 42) := ⟨_, rfl⟩
    have hb3 : Below w.heap.size w W3 := by rw [hW3]; exact below_alloc (below_box _ _) _
    have hs3 : W3.heap.size = w.heap.size + 2 := by rw [hW3]; simp
    have hu : UAt W3 w.heap.size 2 (p : Int) z x y := by rw [hW3]; exact (uat_new w 2 (p : Int) z x y).alloc _
    have hr : UAt W3 (w.heap.size + 1) 0 0 0 0 0 := by rw [hW3]; exact heap_new (by simp)
    have hS3 : FiT W3 base pb (.slice (some ⟨g0, 0, none⟩) N c) cs := hS.tn (Tn.of (fun _ => False) hb3) (fun h => h) (fun g _ h => h)
    have ho3 : OwnC W3 base (.slice (some ⟨g0, 0, none⟩) N c) cs := OwnC.then_ ho hb3
    have HI := Lib.hid (delC_any W3 base (some ⟨g0, 0, none⟩) N c cs ho3 p 1 (by omega))
    have hcp3 := hS3.cell.cell
    obtain ⟨v0, v1, v2, v3, v4⟩ := hu.cells
    have HU3 := Lib.hid hu
    have HR3 := Lib.hid hr
    have HS3 := Lib.hid hS3
    have HT3 := Lib.hid (Tn.of (fun b => b = pb ∨ Value.ownBlock (.slice (some ⟨g0, 0, none⟩) N c) = some b) hb3)
    have HS := Lib.hid hS
    have HOW := Lib.hid ho.lt
    have HSZ := Lib.hid hs3
    have hdel : cs.take p ++ cs.drop (p + 1) = Pl.behind ⟨2, (p : Int), ch, x, y⟩ cs := by rw [Pl.behind_del]; unfold Pl.delL; simp
    have hl2 : (Pl.behind ⟨2, (p : Int), ch, x, y⟩ cs).length = N - 1 := by
      have := Pl.len_delL (p := p) (l := cs) (by omega)
      rw [Pl.behind_del]; omega
    rw [hdel] at HI
    obtain ⟨T2, hT2⟩ : ∃ T2, T2 = Pl.behind ⟨2, (p : Int), ch, x, y⟩ cs := ⟨_, rfl⟩
    rw [← hT2] at HI hl2
    have HT2 := Lib.hid hT2
    have HL2 := Lib.hid hl2
    have HW := Lib.hid hW3
    have HF := Lib.hid (getD_fill x y p ch cs)
    rw [← hz] at HF
    unfold uval
    simp only
    have z2 : (0 : Int) ≤ (p : Int) := Int.natCast_nonneg p
    have z3 : (p : Int) < (N : Int) := Int.ofNat_lt.2 hp0
    have hw1 : wrap64 ((p : Int) + 1) = ((p + 1 : Nat) : Int) := by unfold wrap64; omega
    rw [hW3] at hcp3 v0 v1 v2 v3 v4
    clear hN hz hW2 hW3 hS hS3 ho ho2 ho3 hu hu2 hr hb2 hb3 hs3 hdel hT2 hl2 hf
    go_enter Try.func33, Try.ntmps33
    go_wp2_with fail
    rw [← HW.out]
    try rw [hw1]
    refine HI.out.mono ?_
    rintro e w7 ⟨A7, c7, rfl, ho7, ht7, hg7⟩
    have hlt := fun g hg => (HOW.out g hg).2
    have hsz := HSZ.out
    have hin7 : InC w7 pb (.slice (some ⟨g0, 0, none⟩) N c) := HS3.out.cell.tn ht7 (fun h => HNE.out pb h rfl)
    have hu7 : UAt w7 w.heap.size 2 (p : Int) z x y := UAt.tn HU3.out ht7 (fun h => by have := hlt _ h; omega)
    have hr7 : UAt w7 (w.heap.size + 1) 0 0 0 0 0 := UAt.tn HR3.out ht7 (fun h => by have := hlt _ h; omega)
    have hne7 : ∀ g, Value.ownBlock (.slice A7 (N - 1) c7) = some g → g ≠ pb := fun g hg e => by
      rcases hg7 g hg with h | h
      · exact HNE.out g h e
      · omega
    have hf7 := hin7.frozen
    have hc7 := hin7.cell
    have HIN := Lib.hid hin7
    have HO7 := Lib.hid ho7
    have HN7 := Lib.hid hne7
    have HG7 := Lib.hid hg7
    have HT7 := Lib.hid (HT3.out.trans ht7 (fun b _ h => Or.inr h))
    have hr8 : UAt (w7.setCell ⟨pb, 0, none⟩ (.slice A7 (N - 1) c7)) (w.heap.size + 1) 0 0 0 0 0 := hr7.far (q := ⟨pb, 0, none⟩) (by simp only; omega) _
    have hu8 : UAt (w7.setCell ⟨pb, 0, none⟩ (.slice A7 (N - 1) c7)) w.heap.size 2 (p : Int) z x y := hu7.far (q := ⟨pb, 0, none⟩) (by simp only; omega) _
    obtain ⟨a0, a1, a2, a3, a4⟩ := hu8.cells
    obtain ⟨r0, r1, r2, r3, r4⟩ := hr8.cells
    have rf := fun j => hr8.frozen j
    have HR8 := Lib.hid hr8
    clear hin7 hu7 hr7 ho7 hne7 hu8 hr8 ht7 hg7 HI hcp2 hcp3 hzc u0 u1 u2 u3 u4 uf v0 v1 v2 v3 v4 hsz
    go_wp2_with fail
    refine bodyPost_ret (results_unit rfl (by rfl) (HR8.out.sets 2 (p : Int) z x y)) rfl ⟨?_, .slice A7 (N - 1) c7, ⟨?_, ⟨A7, c7, ?_, ?_⟩, ?_, ?_⟩, tn_five (i := 0) (HT7.out.set_ (p := ⟨pb, 0, none⟩) (Or.inr (Or.inl rfl)) _) (Or.inl (by omega)) _ _ _ _ _, ?_⟩
    · rw [HF.out]
    · exact (HIN.out.set_ (.slice A7 (N - 1) c7)).tn (T := fun b => b = w.heap.size + 1) (tn_five (T := fun b => b = w.heap.size + 1) (i := 0) (Tn.refl _ _) (Or.inr rfl) _ _ _ _ _) (by omega)
    · rw [← HT2.out, HL2.out]
    · rw [← HT2.out, HL2.out]
      refine (HO7.out.tn (T := fun b => b = pb) ((Tn.refl (fun b => b = pb) w7).set_ (p := ⟨pb, 0, none⟩) (Or.inr rfl) _) (fun g hg e => HN7.out g hg e)).tn (T := fun b => b = w.heap.size + 1) (tn_five (T := fun b => b = w.heap.size + 1) (i := 0) (Tn.refl _ _) (Or.inr rfl) _ _ _ _ _) (fun g hg e => ?_)
      rcases HG7.out g hg with h | h
      · have := hlt g h; omega
      · have := HSZ.out; omega
    · exact fun h => HN7.out pb h rfl
    · exact Nat.le_trans HS.out.le (tn_five (i := 0) (HT7.out.set_ (p := ⟨pb, 0, none⟩) (Or.inr (Or.inl rfl)) _) (Or.inl (by omega)) _ _ _ _ _).size
    · exact fun g hg => (HG7.out g hg).imp id (fun h => by have := HSZ.out; omega)
end Go.Proofs.Ytlnekhkdncccgaa
