/-
  Contracts of the document's own Text, Delete, Insert. Conditions: at most a million code points.
-/
import Derived.Test.YtogmddneimhpeaaRefB
namespace Go.Proofs.Ytogmddneimhpeaa
open Go.RowKit
open Pl (Pc Plc Tab On)

theorem cellsOn : Try.prog.cellsOf 83 = 3 := by kernel_rfl
theorem slice_toO (A : Option Addr) (n c k : Nat) (hk : k ≤ c) : ∀ w', (Instr.sliceAt 46 (.slice A n c) none (some (.int .i64 (k : Int))) none).run Try.prog w' = .ok (.slice A k c) w' := by
  intro w'
  obtain ⟨i0, hi, _⟩ := info_parts infoOn
  have hu : Try.prog.underlying 46 = some (.slice (Try.prog.elem 46)) := by kernel_rfl
  have he : Try.prog.elem 46 = 83 := by kernel_rfl
  rw [run_sliceAt_slice w' _ _ _ _ _ hu, run_slice_h w' 46 A n c hu .i64 (k : Int) (by omega) (by omega), he, run_sizeOf w' hi]
  simp only [Result.andThen, sliced, Int.toNat_natCast, Nat.zero_mul, Nat.sub_zero]
  congr 2
  split
  · rfl
  · cases A <;> rfl
theorem slice_fromO (A : Option Addr) (n c k : Nat) (hk : k ≤ n) : ∀ w', (Instr.sliceAt 46 (.slice A n c) (some (.int .i64 (k : Int))) none none).run Try.prog w' = .ok (.slice (if c = k then A else A.map (·.add (k * 3))) (n - k) (c - k)) w' := by
  intro w'
  obtain ⟨i0, hi, _⟩ := info_parts infoOn
  have hu : Try.prog.underlying 46 = some (.slice (Try.prog.elem 46)) := by kernel_rfl
  have he : Try.prog.elem 46 = 83 := by kernel_rfl
  rw [run_sliceAt_slice w' _ _ _ _ _ hu, run_slice_l w' 46 A n c hu .i64 (k : Int) (by omega) (by omega), he, run_sizeOf w' hi]
  simp only [Result.andThen, sliced, Int.toNat_natCast, cellsOn]
theorem Rws.upto {α : Type} {enc : α → List Value} {k : Nat} (hk : ∀ x, (enc x).length = k) {w : World} {B n c i : Nat} {A : Option Addr} {l : List α} (h : Rws enc w B A n c l) (hi : i ≤ n) : Rws enc w B A i c (l.take i) := by
  have hl := h.len
  have hle := h.le
  refine ⟨by rw [List.length_take]; omega, by omega, h.cap, h.nil_, fun h0 => ?_⟩
  obtain ⟨g, o, e, hg, hc⟩ := h.2.2.2.2 (by omega)
  refine ⟨g, o, e, hg, fun j u hj => hc j u ?_⟩
  rw [← cellsR_take hk, List.getElem?_take] at hj
  split at hj
  · exact hj
  · cases hj
theorem Rws.from_ {α : Type} {enc : α → List Value} {k : Nat} (hk : ∀ x, (enc x).length = k) {w : World} {B n c i : Nat} {A : Option Addr} {l : List α} (h : Rws enc w B A n c l) (hi : i ≤ n) : Rws enc w B (if c = i then A else A.map (·.add (i * k))) (n - i) (c - i) (l.drop i) := by
  have := h.part hk hi (Nat.le_refl n)
  rwa [List.take_of_length_le (by rw [List.length_drop, h.len]; omega)] at this

set_option maxRecDepth 100000 in
set_option maxHeartbeats 400000 in
theorem text_ref {w : World} {base r : Nat} {A : Option Addr} {n c : Nat} {l : List On} {ad : Nat} (h : Rf w base r A n c l ad) (hl : ∀ x ∈ l, Pl.J x.c) (hn : n ≤ 1000000) :
    Calls Try.prog 21 #[.pointer (some ⟨r, 0, none⟩)] w (RetC w (l.map (·.c))) := by
  have hnl := h.rows.1
  have HR := Lib.hid (rread_any h hl 0 (n : Int) hn)
  unfold RetRead at HR
  have e0 : Pl.reachE l.length 0 (n : Int) = 0 := Pl.reach0 (by omega) (by omega) (by omega)
  rw [show Pl.rdT l 0 (n : Int) = l.map (·.c) from by unfold Pl.rdT; rw [if_pos e0, Int.toNat_natCast, Int.toNat_zero, List.drop_zero, List.take_of_length_le (by simp [hnl])], e0] at HR
  have HL := Lib.hid (show (l.map (·.c)).length = n by simp [hnl])
  unfold RetC
  have x0 := h.c0
  rw [HL.out] at HR ⊢
  obtain ⟨T, hT⟩ : ∃ T, T = l.map (·.c) := ⟨_, rfl⟩
  rw [← hT] at HR ⊢
  clear h e0 hnl hT HL
  go_enter Try.func21, Try.ntmps21
  go_wp2_with fail
  refine HR.out.mono ?_
  rintro e w1 ⟨A1, c1, rfl, hO, hb⟩
  have HO := Lib.hid hO
  have HB := Lib.hid hb
  clear hO hb
  go_wp2_with fail
  go_ret
  exact ⟨A1, c1, rfl, HO.out, HB.out⟩

/-- a call of the table's leaves another row there, in memory of its own -/
def DidR (w : World) (base r : Nat) (l : List On) (ad : Nat) (w' : World) : Prop := ∃ A n c, Rf w' base r A n c l ad ∧ Tn (fun b => b = r) w w' ∧ ∀ g, Value.ownBlock (.slice A n c) = some g → w.heap.size ≤ g
set_option maxRecDepth 100000 in
set_option maxHeartbeats 1000000 in
theorem del_ref {w : World} {base r : Nat} {A : Option Addr} {n c : Nat} {l : List On} {ad : Nat} (h : Rf w base r A n c l ad) (hbase : base ≤ w.heap.size) (k q : Nat) (hkq : k + q ≤ n) (hn : n ≤ 1000000) :
    Calls Try.prog 16 #[.pointer (some ⟨r, 0, none⟩), .int .i64 (k : Int), .int .i64 (q : Int)] w fun e w' => e = .returned (.int .i64 0) ∧ DidR w base r (l.take k ++ l.drop (k + q)) ad w' := by
  have HR := Lib.hid (right_any h (k : Int) (q : Int) hn)
  rw [Pl.reach0 (by omega) (by omega) (by omega), decide_eq_true rfl] at HR
  have hrows := h.rows.2
  have hcn := hrows.le
  have st := slice_toO A n c k (by omega)
  have sf := slice_fromO A n c (k + q) hkq
  have HT := Lib.hid (Rws.upto encO_len hrows (i := k) (by omega))
  have HF := Lib.hid (Rws.from_ encO_len hrows (i := k + q) hkq)
  have HH := Lib.hid h
  have x0 := h.c0
  obtain ⟨e0, he0⟩ : ∃ e0, e0 = k + q := ⟨_, rfl⟩
  rw [← he0] at sf HF ⊢
  have hq64 : (k : Int) + (q : Int) = (e0 : Int) := by omega
  obtain ⟨AF, hAF⟩ : ∃ AF, AF = (if c = e0 then A else A.map (·.add (e0 * 3))) := ⟨_, rfl⟩
  rw [← hAF] at sf HF
  obtain ⟨X, hX⟩ : ∃ X, X = l.take k := ⟨_, rfl⟩
  obtain ⟨Y, hY⟩ : ∃ Y, Y = l.drop e0 := ⟨_, rfl⟩
  rw [← hX] at HT ⊢
  rw [← hY] at HF ⊢
  have hz : (0 : Int) ≤ (k : Int) := by omega
  have hkb : k ≤ 1000000 := by omega
  have hnb : n - e0 ≤ 1000000 := by omega
  have HBS := Lib.hid hbase
  clear h hrows hX hY hAF he0 hcn hbase
  go_enter Try.func16, Try.ntmps16
  go_wp2_with fail
  refine HR.out.mono ?_
  rintro e w1 ⟨rfl, rfl⟩
  go_wp2_with (at_builtin; refine wpList_append_rws encO_len encO_one Try.underlying46 infoOn (by decide) (by decide) w rfl (.tmp 13) (.tmp 19) rfl w.heap.size none 0 0 [] (by rfl) (OwnR.nil_ _ _ _ _ _) w.heap.size A k c X (by rfl) HT.out (by unfold maxLen; omega) (by omega) (Nat.le_refl _) ?_)
  intro A4 c4 w4 hO4 hg4 _
  have HB4 := Lib.hid (OwnR.grownBelow (OwnR.nil_ encO 3 83 w w.heap.size) hg4 (Below.refl _ _) (Nat.le_refl _))
  have HO4 := Lib.hid hO4
  have HR4 := Lib.hid (HH.out.then_ HB4.out)
  have HF4 := Lib.hid (Rws.then_ HF.out HB4.out)
  have x4 := HR4.out.c0
  have f4 := HR4.out.fr 0
  clear hO4 hg4 x0
  go_wp2_with (at_builtin; refine wpList_append_rws encO_len encO_one Try.underlying46 infoOn (by decide) (by decide) w4 rfl (.tmp 22) (.tmp 30) rfl w.heap.size A4 k c4 X (by first | rfl | simp [Act.eval, Act.put]) HO4.out w4.heap.size AF (n - e0) (c - e0) Y (by rfl) HF4.out (by unfold maxLen; omega) (by omega) HB4.out.size ?_)
  intro A5 c5 w5 hO5 hg5 hat5
  have HB5 := Lib.hid (OwnR.grownBelow HO4.out hg5 HB4.out HB4.out.size)
  have hR5 := HH.out.then_ HB5.out
  have x5 := hR5.c0
  have f5 := hR5.fr 0
  have p5 := hR5.1
  have hge : ∀ g, Value.ownBlock (.slice A5 (k + (n - e0)) c5) = some g → w.heap.size ≤ g := fun g hg => (hO5.lt g hg).1
  have HRN := Lib.hid (show Rf (w5.setCell ⟨r, 0, none⟩ (.slice A5 (k + (n - e0)) c5)) base r A5 (k + (n - e0)) c5 (X ++ Y) ad from Rf.lay p5 (OwnR.lower hO5 HBS.out) HH.out.2.2.1 (fun e => by have := hge r e; have := HH.out.lt; omega))
  have HGE := Lib.hid hge
  clear hO5 hg5 hat5 hR5 p5 hge x4 f4
  go_wp2_with fail
  go_ret
  exact ⟨rfl, _, _, _, HRN.out, Tn.set_ (T := fun b => b = r) (Tn.of _ HB5.out) (p := ⟨r, 0, none⟩) (Or.inr rfl) _, HGE.out⟩
set_option maxRecDepth 100000 in
set_option maxHeartbeats 400000 in
theorem del_ref_no {w : World} {base r : Nat} {A : Option Addr} {n c : Nat} {l : List On} {ad : Nat} (h : Rf w base r A n c l ad) (pos nn : Int) (hno : Pl.reachE n pos nn = 30) (hn : n ≤ 1000000) :
    Calls Try.prog 16 #[.pointer (some ⟨r, 0, none⟩), .int .i64 pos, .int .i64 nn] w fun e w' => e = .returned (.int .i64 30) ∧ w = w' := by
  have HR := Lib.hid (right_any h pos nn hn)
  rw [hno, decide_eq_false (by decide)] at HR
  clear h hno
  go_enter Try.func16, Try.ntmps16
  go_wp2_with fail
  refine HR.out.mono ?_
  rintro e w1 ⟨rfl, rfl⟩
  go_wp2_with fail
  go_ret
  exact ⟨rfl, rfl⟩

/-- what is inserted -/
def Pl.news (ds : List Int) (ad : Nat) : List On := (List.range ds.length).map fun i => ⟨ds.getD i 0, true, ad + i⟩
theorem Pl.len_news (ds : List Int) (ad : Nat) : (Pl.news ds ad).length = ds.length := by simp [Pl.news]
theorem Pl.news_at (ds : List Int) (ad j : Nat) (h : j < ds.length) : (Pl.news ds ad)[j]? = some ⟨ds.getD j 0, true, ad + j⟩ := by
  unfold Pl.news; simp [h]
/-- so far -/
def InsRel (w : World) (base r : Nat) (A : Option Addr) (n c : Nat) (l : List On) (ad : Nat) (X N : List On) (o i : Value) (wr : World) : Prop := ∃ (j : Nat) (A2 : Option Addr) (c2 : Nat), i = .int .i64 (j : Int) ∧ j ≤ N.length ∧ o = .slice A2 (X.length + j) c2 ∧ OwnO wr w.heap.size (.slice A2 (X.length + j) c2) (X ++ N.take j) ∧ Rf wr base r A n c l (ad + j) ∧ Tn (fun b => b = r) w wr
theorem Rf.add {w : World} {base r n c ad : Nat} {A : Option Addr} {l : List On} (h : Rf w base r A n c l ad) : Rf (w.setCell ⟨r, 1, none⟩ (.int .i64 ((ad + 1 : Nat) : Int))) base r A n c l (ad + 1) := by
  refine ⟨blk_set (i := 1) h.1 _, OwnR.same h.2.1 fun g _ _ hg => blk_keep _ (fun e => ?_), h.2.2⟩
  rw [e] at hg
  exact h.2.2.2 hg
set_option maxRecDepth 100000 in
set_option maxHeartbeats 2000000 in
theorem ins_ref {w : World} {base r : Nat} {A : Option Addr} {n c : Nat} {l : List On} {ad : Nat} (h : Rf w base r A n c l ad) (hbase : base ≤ w.heap.size) (k : Nat) (hk : k ≤ n) (B : Option Addr) (m d : Nat) (ds : List Int) (hB : Crs w w.heap.size B m d ds) (hBr : ∀ a, B = some a → 0 < m → a.block ≠ r) (hn : n + m ≤ 1000000) (had : ad + m ≤ 1073741824) :
    Calls Try.prog 14 #[.pointer (some ⟨r, 0, none⟩), .int .i64 (k : Int), .slice B m d] w fun e w' => e = .returned (.int .i64 0) ∧ DidR w base r (l.take k ++ Pl.news ds ad ++ l.drop k) (ad + m) w' := by
  have hrows := h.rows.2
  have hcn := hrows.le
  have st := slice_toO A n c k (by omega)
  have sf := slice_fromO A n c k hk
  have HT := Lib.hid (Rws.upto encO_len hrows (i := k) (by omega))
  have HF := Lib.hid (Rws.from_ encO_len hrows (i := k) hk)
  have HH := Lib.hid h
  have x0 := h.c0
  obtain ⟨AF, hAF⟩ : ∃ AF, AF = (if c = k then A else A.map (·.add (k * 3))) := ⟨_, rfl⟩
  rw [← hAF] at sf HF
  obtain ⟨X, hX⟩ : ∃ X, X = l.take k := ⟨_, rfl⟩
  obtain ⟨Y, hY⟩ : ∃ Y, Y = l.drop k := ⟨_, rfl⟩
  obtain ⟨N, hN⟩ : ∃ N, N = Pl.news ds ad := ⟨_, rfl⟩
  rw [← hX] at HT ⊢
  rw [← hY] at HF ⊢
  rw [← hN]
  have HXL := Lib.hid (show X.length = k from HT.out.len)
  have HNL := Lib.hid (show N.length = m by rw [hN, Pl.len_news]; exact hB.len)
  have HNA := fun j (hj : j < m) => Lib.hid (show N[j]? = some ⟨ds.getD j 0, true, ad + j⟩ by rw [hN]; exact Pl.news_at ds ad j (by rw [hB.len]; exact hj))
  have hz : (0 : Int) ≤ (k : Int) := by omega
  have hkb : k ≤ 1000000 := by omega
  have hnb : n - k ≤ 1000000 := by omega
  have hm9 : m ≤ 1000000 := by omega
  have e1 : decide ((k : Int) < 0) = false := decide_eq_false (by omega)
  have e2 : decide ((n : Int) < (k : Int)) = false := decide_eq_false (by omega)
  have HBS := Lib.hid hbase
  have HB := Lib.hid hB
  have HBR := Lib.hid hBr
  have HAY := Lib.hid (And.intro hAF hY)
  clear h hrows hX hY hN hAF hcn hbase hB hBr
  go_enter Try.func14, Try.ntmps14
  go_wp2_with (at_builtin; refine wpList_append_rws encO_len encO_one Try.underlying46 infoOn (by decide) (by decide) w rfl (.tmp 20) (.tmp 26) rfl w.heap.size none 0 0 [] (by rfl) (OwnR.nil_ _ _ _ _ _) w.heap.size A k c X (by rfl) HT.out (by unfold maxLen; omega) (by omega) (Nat.le_refl _) ?_)
  intro A4 c4 w4 hO4 hg4 _
  have HB4 := Lib.hid (OwnR.grownBelow (OwnR.nil_ encO 3 83 w w.heap.size) hg4 (Below.refl _ _) (Nat.le_refl _))
  have HO4 := Lib.hid hO4
  clear hO4 hg4 x0
  go_wp2_with fail
  go_loopw [7, 8] (fun o i wr => InsRel w base r A n c l ad X N o i wr) (fun _ i _ => m - (intOf i).toNat)
  case atStart => exact ⟨0, A4, c4, rfl, Nat.zero_le _, by rw [HXL.out]; rfl, by rw [List.take_zero, List.append_nil, HXL.out]; exact HO4.out, HH.out.then_ HB4.out, Tn.of _ HB4.out⟩
  case round =>
    obtain ⟨j, A2, c2, rfl, hj, rfl, hO, hR, ht⟩ := hrel
    rw [HNL.out] at hj
    rw [HXL.out] at hO
    rw [HXL.out]
    have HO := Lib.hid hO
    have HR := Lib.hid hR
    have HTN := Lib.hid ht
    have HBB := Lib.hid (show Crs wr wr.heap.size B m d ds from HB.out.then2 _ ht (fun h0 ad had e => HBR.out ad had h0 e))
    have x1 := hR.c0
    have x2 := hR.c1
    have f1 := hR.fr 1
    by_cases hlt : j < m
    · obtain ⟨g, o, rfl, _, hc⟩ := HBB.out.at_ hlt
      have y0 := hc j hlt
      have hz0 : (0 : Int) ≤ (j : Int) := by omega
      have hz1 : (j : Int) < (m : Int) := by omega
      obtain ⟨z, hz'⟩ : ∃ z, z = ds.getD j 0 := ⟨_, rfl⟩
      rw [← hz'] at y0
      obtain ⟨aj, haj⟩ : ∃ aj, aj = ad + j := ⟨_, rfl⟩
      rw [← haj] at x2 HR
      have hajb : aj ≤ 1073741824 := by omega
      have HX := Lib.hid (show (X ++ N.take j) ++ [⟨z, true, aj⟩] = X ++ N.take (j + 1) by rw [List.append_assoc, List.take_add_one, (HNA j hlt).out, hz', haj]; rfl)
      obtain ⟨V, hV⟩ : ∃ V, V = wr.alloc (.cells #[.int .i32 z, .bool true, .int .i64 (aj : Int)] 83) := ⟨_, rfl⟩
      have hbV : Below wr.heap.size wr V := by rw [hV]; exact below_alloc (Below.refl _ _) _
      have HRV := Lib.hid (HR.out.then_ hbV)
      have hOV := Lib.hid (show OwnO V.drew w.heap.size (.slice A2 (k + j) c2) (X ++ N.take j) from OwnR.then_ (OwnR.then_ hO hbV) (below_drawn (Below.refl _ _)))
      have hS := Lib.hid (show Ons V.drew V.heap.size (some ⟨wr.heap.size, 0, none⟩) 1 1 [⟨z, true, aj⟩] from by
        have h := (OwnR.rws encO_len (OwnR.lit (e := 83) encO_len wr [(⟨z, true, aj⟩ : On)] (by unfold maxLen; simp))).2
        rw [hV]
        exact Rws.below h (below_drawn (Below.refl _ _)) (Nat.le_refl _))
      have HVS := Lib.hid (show w.heap.size ≤ V.heap.size ∧ r < V.heap.size ∧ r < w.heap.size from ⟨Nat.le_trans ht.size hbV.size, HRV.out.lt, HH.out.lt⟩)
      have HTV := Lib.hid (show Tn (fun b => b = r) w V.drew from ht.trans (T' := fun b => b = r) (Tn.of _ (below_drawn hbV)) (fun _ _ x => x))
      have HV := Lib.hid hV
      have HAJ := Lib.hid haj
      have x1' := Lib.cell?_alloc_some (.cells #[.int .i32 z, .bool true, .int .i64 (aj : Int)] 83) x1
      have x2' := Lib.cell?_alloc_some (.cells #[.int .i32 z, .bool true, .int .i64 (aj : Int)] 83) x2
      have y0' := Lib.cell?_alloc_some (.cells #[.int .i32 z, .bool true, .int .i64 (aj : Int)] 83) y0
      have hown : ∀ g, Value.ownBlock (.slice A2 (k + j) c2) = some g → w.heap.size ≤ g := fun g hg => (hO.lt g hg).1
      have HOW := Lib.hid hown
      clear hbV hV haj hO hR ht hz' hc hown
      go_wp2_with fail
      go_region_law (rw [← HV.out]; refine step_append_rws encO_len encO_one Try.underlying46 infoOn (by decide) (by decide) V.drew (by rfl) (.tmp 34) (.tmp 44) (by rfl) w.heap.size A2 (k + j) c2 (X ++ N.take j) (by rfl) hOV.out _ (some ⟨wr.heap.size, 0, none⟩) 1 1 [⟨z, true, aj⟩] (by rfl) hS.out (by unfold maxLen; omega) (by omega) HVS.out.1 ?_; intro A5 c5 w5 hO5 hg5 hat5)
      all_goals
        have HT5 := Lib.hid (show Tn (fun b => b = r) w w5 from HTV.out.grown hg5 (fun g hg => Or.inl (HOW.out g hg)))
        have hR5 : Rf w5 base r A n c l aj := Rf.tn (T := fun b => Value.ownBlock (.slice A2 (k + j) c2) = some b) (HRV.out.then_ (below_drawn (Below.refl _ _))) ((Tn.refl _ _).grown hg5 (fun g hg => Or.inr hg)) (fun e => by have := HOW.out r e; have := HVS.out; omega) (fun g hg e => by have := HOW.out g e; have := OwnR.lt HH.out.2.1 g hg; omega)
        have x5 := hR5.c1
        have f5 := hR5.fr 1
        rw [HX.out] at hO5
        have HR5 := Lib.hid hR5
        have HO5 := Lib.hid hO5
        clear hO5 hg5 hat5 hR5 x1 x2 y0 x1' x2' y0'
        go_wp2_with fail
        go_roundw
        case rel =>
          refine ⟨j + 1, A5, c5, by go_num, by rw [HNL.out]; omega, by rw [HXL.out]; rfl, ?_, ?_, ?_⟩
          · rw [HXL.out]
            refine OwnR.same HO5.out fun g hg _ _ => blk_keep _ (fun e => ?_)
            simp only at e
            have := HVS.out.2.2
            omega
          · have := HR5.out.add
            rw [HAJ.out] at this
            rw [HAJ.out]
            exact this
          · exact Tn.set_ HT5.out (p := ⟨r, 1, none⟩) (Or.inr rfl) _
        case measure => simp [intOf]; omega
    · have hjm : j = m := by omega
      subst hjm
      have HFW := Lib.hid (show Ons wr wr.heap.size AF (n - k) (c - k) Y from by
        rw [HAY.out.1, HAY.out.2]
        exact Rws.from_ encO_len hR.rows.2 hk)
      have hXN : X ++ N.take j = X ++ N := by rw [← HNL.out, List.take_length]
      rw [hXN] at HO
      have HOW := Lib.hid (show ∀ g, Value.ownBlock (.slice A2 (k + j) c2) = some g → w.heap.size ≤ g from fun g hg => (hO.lt g hg).1)
      clear hO hR ht hXN
      go_wp2_with (at_builtin; refine wpList_append_rws encO_len encO_one Try.underlying46 infoOn (by decide) (by decide) wr rfl (.tmp 54) (.tmp 60) rfl w.heap.size A2 (k + j) c2 (X ++ N) (by first | rfl | simp [Act.eval, Act.put]) HO.out wr.heap.size AF (n - k) (c - k) Y (by rfl) HFW.out (by unfold maxLen; omega) (by omega) HTN.out.size ?_)
      intro A5 c5 w5 hO5 hg5 hat5
      rw [← List.append_assoc] at hO5
      have HT5 := Lib.hid (show Tn (fun b => b = r) w w5 from HTN.out.grown hg5 (fun g hg => Or.inl (HOW.out g hg)))
      have hR5 : Rf w5 base r A n c l (ad + j) := Rf.tn (T := fun b => Value.ownBlock (.slice A2 (k + j) c2) = some b) HR.out ((Tn.refl _ _).grown hg5 (fun g hg => Or.inr hg)) (fun e => by have := HOW.out r e; have := HH.out.lt; omega) (fun g hg e => by have := HOW.out g e; have := OwnR.lt HH.out.2.1 g hg; omega)
      have x5 := hR5.c0
      have f5 := hR5.fr 0
      have p5 := hR5.1
      have hge : ∀ g, Value.ownBlock (.slice A5 (k + j + (n - k)) c5) = some g → w.heap.size ≤ g := fun g hg => (hO5.lt g hg).1
      have HRN := Lib.hid (show Rf (w5.setCell ⟨r, 0, none⟩ (.slice A5 (k + j + (n - k)) c5)) base r A5 (k + j + (n - k)) c5 (X ++ N ++ Y) (ad + j) from Rf.lay p5 (OwnR.lower hO5 HBS.out) HH.out.2.2.1 (fun e => by have := hge r e; have := HH.out.lt; omega))
      have HGE := Lib.hid hge
      clear hO5 hg5 hat5 hR5 p5 hge x1 x2 f1
      go_wp2_with fail
      go_ret
      exact ⟨rfl, _, _, _, HRN.out, Tn.set_ (T := fun b => b = r) HT5.out (p := ⟨r, 0, none⟩) (Or.inr rfl) _, HGE.out⟩
set_option maxRecDepth 100000 in
set_option maxHeartbeats 400000 in
theorem ins_ref_no {w : World} {base r : Nat} {A : Option Addr} {n c : Nat} {l : List On} {ad : Nat} (h : Rf w base r A n c l ad) (pos : Int) (hno : pos < 0 ∨ pos > (n : Int)) (v : Value) :
    Calls Try.prog 14 #[.pointer (some ⟨r, 0, none⟩), .int .i64 pos, v] w fun e w' => e = .returned (.int .i64 30) ∧ w = w' := by
  have x0 := h.c0
  clear h
  by_cases h0 : pos < 0
  · have e1 : decide (pos < 0) = true := decide_eq_true h0
    clear hno
    go_enter Try.func14, Try.ntmps14
    go_wp2_with fail
    go_ret
    exact ⟨rfl, rfl⟩
  · have e1 : decide (pos < 0) = false := decide_eq_false h0
    have h1 : (n : Int) < pos := by omega
    have e2 : decide ((n : Int) < pos) = true := decide_eq_true h1
    clear hno
    go_enter Try.func14, Try.ntmps14
    go_wp2_with fail
    go_ret
    exact ⟨rfl, rfl⟩
/-! ### what an insertion and a deletion make of the document's row, in plain words -/
theorem Pl.ones_del (t : Tab) (k q : Nat) : Pl.ones (t.del k q) = (Pl.ones t).take k ++ (Pl.ones t).drop (k + q) := by
  unfold Pl.ones
  rw [← List.map_take, ← List.map_drop, ← List.map_append]
  rfl
theorem Pl.ones_ins {t : Tab} {m : Nat} (h : t.Ok m) (k : Nat) (ds : List Int) : Pl.ones (t.ins k ds) = (Pl.ones t).take k ++ Pl.news ds t.snd.length ++ (Pl.ones t).drop k := by
  have hL : ∀ X : List Plc, (∀ q ∈ X, q ∈ t.L) → X.map (Pl.on_ (t.ins k ds)) = X.map (Pl.on_ t) := fun X hX => List.map_congr_left fun q hq => by
    unfold Pl.on_; rw [Pl.look_ins t k ds (h.1 q (hX q hq))]
  unfold Pl.ones
  show List.map (Pl.on_ (t.ins k ds)) (t.L.take k ++ Pl.places ⟨true, t.snd.length, ds.length⟩ ++ t.L.drop k) = _
  rw [List.map_append, List.map_append, hL _ (fun q hq => List.mem_of_mem_take hq), hL _ (fun q hq => List.mem_of_mem_drop hq), List.map_take, List.map_drop]
  congr 2
  unfold Pl.places Pl.news
  rw [List.map_map]
  refine List.map_congr_left fun i hi => ?_
  have hi' : i < ds.length := by simpa using hi
  show (⟨(t.snd ++ ds).getD (t.snd.length + i) 0, true, t.snd.length + i⟩ : On) = _
  rw [List.getD_eq_getElem?_getD, List.getElem?_append_right (by omega), Nat.add_sub_cancel_left, ← List.getD_eq_getElem?_getD]
theorem Pl.ones_J {t : Tab} (h : ∀ x ∈ t.text, Pl.J x) : ∀ x ∈ Pl.ones t, Pl.J x.c := by
  intro x hx
  exact h x.c (by rw [← Pl.ones_text]; exact List.mem_map_of_mem hx)
end Go.Proofs.Ytogmddneimhpeaa
