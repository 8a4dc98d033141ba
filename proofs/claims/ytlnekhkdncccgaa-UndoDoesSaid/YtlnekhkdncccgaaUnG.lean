/-
  undo.Fill, undo.Back. Conditions: rows of at most a thousand units; texts of at most ninety thousand code points.
-/
import Derived.Test.YtlnekhkdncccgaaUnF
namespace Go.Proofs.Ytlnekhkdncccgaa
open Go.RowKit
open Pl (Un)

theorem callFil (args : Array Value) (w : World) : (callFunc 33 args).run Try.prog w = .ok (.enter 33 args) w := by simp [go_sem]
theorem fill_outs (l : List Un) (cs : List Int) : (List.range l.length).map (fun j => Pl.fillU (l.getD j default) (Pl.leave (l.take j) cs)) = Pl.fillL l cs := by
  induction l generalizing cs with
  | nil => rfl
  | cons u l ih =>
    rw [List.length_cons, List.range_succ_eq_map, List.map_cons, List.map_map]
    show Pl.fillU u cs :: _ = Pl.fillU u cs :: Pl.fillL l (Pl.behind u cs)
    rw [← ih (Pl.behind u cs)]
    rfl
/-- the closure's state between one unit and the next -/
def FiSt (base pb : Nat) (l : List Un) (cs : List Int) (j : Nat) (X : Nat → Prop) (w : World) : Prop :=
  ∃ V : Value, (X = fun b => b = pb ∨ V.ownBlock = some b) ∧ FiT w base pb V (Pl.leave (l.take j) cs)
set_option maxRecDepth 100000 in
set_option maxHeartbeats 400000 in
theorem fill_any (B : Option Addr) (m d : Nat) (l : List Un) (A : Option Addr) (n c : Nat) (cs : List Int) (w : World) (h2 : Uns w w.heap.size B m d l) (h1 : Crs w w.heap.size A n c cs) (hm : m ≤ 1000) (hn : n ≤ 90000) (hf : Pl.FitR l cs) :
    Calls Try.prog 10 #[.slice B m d, .slice A n c] w fun e w' => ∃ A' c', e = .returned (.tuple #[.slice A' l.length c', .int .i64 0]) ∧ OwnU w' w.heap.size (.slice A' l.length c') (Pl.fillL l cs) ∧ Below w.heap.size w w' := by
  obtain ⟨W1, hW1⟩ : ∃ W1, W1 = w.alloc (.cells #[.slice A n c] 22) := ⟨_, rfl⟩
  have hb1 : Below w.heap.size w W1 := by rw [hW1]; exact below_box _ _
  have hs1 : W1.heap.size = w.heap.size + 1 := by rw [hW1]; simp
  have hin : InC W1 w.heap.size (.slice A n c) := by rw [hW1]; exact heap_new rfl
  have hlong := long_any B m d l (n : Int) W1 (Rws.then_ h2 hb1) hm (by omega)
  rw [show Pl.longL l (n : Int) = (((Pl.leave l cs).length : Int), 0) by rw [← h1.len]; exact Pl.longL_fit hf] at hlong
  simp only at hlong
  have HL := Lib.hid hlong
  have HC := Lib.hid (h1.then_ hb1)
  have HU := Lib.hid h2
  have HF := Lib.hid hf
  have HNL := Lib.hid h1.len
  have HML := Lib.hid h2.len
  have HB1 := Lib.hid hb1
  have HIN := Lib.hid hin
  have HSZ := Lib.hid hs1
  have HW1 := Lib.hid hW1
  clear h1 h2 hf hlong hb1 hin hs1 hW1
  go_enter Try.func10, Try.ntmps10
  go_wp2_with fail
  rw [show w.alloc (.cells #[.slice A n c] 22) = W1 from HW1.out.symm]
  refine HL.out.mono ?_
  rintro e w2 ⟨rfl, hb⟩
  have hi2 := HIN.out.tn (Tn.of (fun _ => False) hb) (fun h => h)
  have HI2 := Lib.hid hi2
  have hc2 := hi2.cell
  have HB2 := Lib.hid (below_then' HB1.out hb HB1.out.size)
  have HS2 := Lib.hid hb.size
  have HCL := Lib.hid (cloneC_any A n c cs w2 (HC.out.then_ hb) (by omega))
  clear hb hi2
  go_wp2_with fail
  refine HCL.out.mono ?_
  rintro e w3 ⟨A3, c3, rfl, ho, hb⟩
  have hi3 := HI2.out.tn (Tn.of (fun _ => False) hb) (fun h => h)
  have hc3 := hi3.cell
  have hf3 := hi3.frozen
  have hs3 := HSZ.out
  have hs2 := HS2.out
  have hpn : Value.ownBlock (.slice A3 cs.length c3) ≠ some w.heap.size := fun h => by have := (ho.lt _ h).1; omega
  have hb4 := (below_then' HB2.out hb HB2.out.size).setCell (p := ⟨w.heap.size, 0, none⟩) (Nat.le_refl _) (.slice A3 cs.length c3)
  obtain ⟨W4, hW4⟩ : ∃ W4, W4 = w3.setCell ⟨w.heap.size, 0, none⟩ (.slice A3 cs.length c3) := ⟨_, rfl⟩
  rw [← hW4] at hb4
  have ho4 : OwnC W4 w.heap.size (.slice A3 cs.length c3) cs := by
    rw [hW4]
    exact (ho.tn (T := fun b => b = w.heap.size) ((Tn.refl (fun b => b = w.heap.size) w3).set_ (p := ⟨w.heap.size, 0, none⟩) (Or.inr rfl) _) (fun g hg e => hpn (by rw [hg, e]))).lower (by omega)
  have hi4 : InC W4 w.heap.size (.slice A3 cs.length c3) := by rw [hW4]; exact hi3.set_ _
  have hst : FiT W4 w.heap.size w.heap.size (.slice A3 cs.length c3) cs := ⟨hi4, ⟨A3, c3, rfl, ho4⟩, hpn, hb4.size⟩
  have HT := Lib.hid (turn_any 33 #[.pointer (some ⟨w.heap.size, 0, none⟩)] callFil B m d l W4 (Rws.then_ HU.out hb4) hm (FiSt w.heap.size w.heap.size l cs) (fun j => Pl.fillU (l.getD j default) (Pl.leave (l.take j) cs)) (fun b => b = w.heap.size ∨ Value.ownBlock (.slice A3 cs.length c3) = some b)
    (fun j X wr hj ⟨V, hX, hS⟩ => by
      have hlen := fitR_len HF.out j
      have := HNL.out
      have := HML.out
      refine (fillC_any (l.getD j default) (Pl.leave (l.take j) cs) V w.heap.size w.heap.size wr hS (Pl.fit_take l cs HF.out j _ (getD_of_get hj)) (by omega)).mono ?_
      rintro e w' ⟨rfl, V', hS', ht', hg'⟩
      refine ⟨rfl, _, ⟨V', rfl, by rw [Pl.leave_take l cs j _ (getD_of_get hj)]; exact hS'⟩, by rw [hX]; exact ht', ?_⟩
      rw [hX]
      rintro b (h | h)
      · exact Or.inl (Or.inl h)
      · exact (hg' b h).imp Or.inr id)
    (fun j X Y wr w' ⟨V, hX, hS⟩ ht hd => ⟨V, hX, hS.tn ht (fun h => hd _ h (by rw [hX]; exact Or.inl rfl)) (fun g hg h => hd _ h (by rw [hX]; exact Or.inr hg))⟩)
    ⟨_, rfl, hst⟩ (fun b hb => by
      rcases hb with rfl | h
      · exact hi4.lt
      · exact (ho4.lt b h).2))
  have HB4 := Lib.hid hb4
  have HO4 := Lib.hid ho4.lt
  have HW4 := Lib.hid hW4
  clear ho hb hi3 hpn hb4 hW4 ho4 hi4 hst hs2 hs3 HCL
  go_wp2_with fail
  rw [← HW4.out]
  refine HT.out.mono ?_
  rintro e w5 ⟨A5, c5, rfl, ho5, _, ht5⟩
  rw [fill_outs] at ho5
  have HO := Lib.hid (OwnR.lower ho5 HB4.out.size)
  have HB5 := Lib.hid (show Below w.heap.size w w5 from ht5.below HB4.out HB4.out.size (fun b hb => by
    rcases hb with h | h
    · omega
    · exact (HO4.out b h).1))
  clear ho5 ht5 HT hc3 hf3
  go_wp2_with fail
  go_returns
  exact ⟨A5, c5, rfl, HO.out, HB5.out⟩
set_option maxRecDepth 100000 in
set_option maxHeartbeats 400000 in
theorem fill_bad (B : Option Addr) (m d : Nat) (l : List Un) (A : Option Addr) (n c : Nat) (w : World) (h2 : Uns w w.heap.size B m d l) (hm : m ≤ 1000) (hn : n ≤ 90000) (E N : Int) (hf : Pl.longL l (n : Int) = (N, E)) (hE : E ≠ 0) :
    Calls Try.prog 10 #[.slice B m d, .slice A n c] w fun e w' => e = .returned (.tuple #[.slice none 0 0, .int .i64 E]) ∧ Below w.heap.size w w' := by
  obtain ⟨W1, hW1⟩ : ∃ W1, W1 = w.alloc (.cells #[.slice A n c] 22) := ⟨_, rfl⟩
  have hb1 : Below w.heap.size w W1 := by rw [hW1]; exact below_box _ _
  have hlong := long_any B m d l (n : Int) W1 (Rws.then_ h2 hb1) hm (by omega)
  rw [hf] at hlong
  simp only at hlong
  have HL := Lib.hid hlong
  have HB1 := Lib.hid hb1
  have HW1 := Lib.hid hW1
  have hEb : (E != 0) = true := by simpa using hE
  clear h2 hf hlong hb1 hW1
  go_enter Try.func10, Try.ntmps10
  go_wp2_with fail
  rw [show w.alloc (.cells #[.slice A n c] 22) = W1 from HW1.out.symm]
  refine HL.out.mono ?_
  rintro e w2 ⟨rfl, hb⟩
  have HB2 := Lib.hid (below_then' HB1.out hb HB1.out.size)
  clear hb
  go_wp2_with fail
  go_returns
  exact ⟨rfl, HB2.out⟩
set_option maxRecDepth 100000 in
set_option maxHeartbeats 400000 in
theorem back_any (A : Option Addr) (n c : Nat) (l : List Un) (x y : Int) (B : Option Addr) (d : Nat) (R : List RowV) (w : World) (h1 : Uns w w.heap.size A n c l) (h2 : RowsV w B R) (hn : n ≤ 1000) (hR : R.length ≤ 1000) :
    Calls Try.prog 15 #[.slice A n c, .agg #[.int .u32 x, .int .u64 y], .slice B R.length d] w (RetU w (Pl.cleanL (Pl.pastR (Pl.invR x y l) (R.map RowV.l)))) := by
  obtain ⟨W1, hW1⟩ : ∃ W1, W1 = w.alloc (.cells #[.int .u32 x, .int .u64 y] 34) := ⟨_, rfl⟩
  have hb1 : Below w.heap.size w W1 := by rw [hW1]; exact below_box _ _
  have HL := Lib.hid h1.len
  have HI := Lib.hid (inverse_any A n c l x y W1 (Rws.then_ h1 hb1) hn)
  have HR1 := Lib.hid (RowsV.then_ h2 hb1)
  have HB1 := Lib.hid hb1
  have HW1 := Lib.hid hW1
  clear h1 h2 hb1 hW1
  go_enter Try.func15, Try.ntmps15
  go_wp2_with fail
  rw [show w.alloc (.cells #[.int .u32 x, .int .u64 y] 34) = W1 from HW1.out.symm]
  refine HI.out.mono ?_
  rintro e w2 ⟨A2, c2, rfl, ho, hb⟩
  have hil : (Pl.invR x y l).length = n := by rw [Pl.inv_len]; exact HL.out
  have HB2 := Lib.hid (below_then' HB1.out hb HB1.out.size)
  have HP := Lib.hid (past_any A2 _ c2 (Pl.invR x y l) B d R w2 (OwnU.uns ho) (RowsV.then_ HR1.out hb) (by omega) hR)
  have HIL := Lib.hid hil
  clear ho hb hil HI
  go_wp2_with fail
  refine HP.out.mono ?_
  rintro e w3 ⟨A3, c3, rfl, ho, hb⟩
  have HB3 := Lib.hid (below_then' HB2.out hb HB2.out.size)
  have hpl : (Pl.pastR (Pl.invR x y l) (R.map RowV.l)).length ≤ 1000 := by rw [len_pastR, HIL.out]; exact hn
  have HC := Lib.hid (clean_any A3 _ c3 (Pl.pastR (Pl.invR x y l) (R.map RowV.l)) w3 (OwnU.uns ho) hpl)
  clear ho hb hpl HP
  go_wp2_with fail
  refine HC.out.mono ?_
  rintro e w4 ⟨A4, c4, rfl, ho, hb⟩
  have HO := Lib.hid (OwnR.lower ho HB3.out.size)
  have HB4 := Lib.hid (below_then' HB3.out hb HB3.out.size)
  clear ho hb HC
  go_wp2_with fail
  go_ret
  exact ⟨A4, c4, rfl, HO.out, HB4.out⟩
end Go.Proofs.Ytlnekhkdncccgaa
