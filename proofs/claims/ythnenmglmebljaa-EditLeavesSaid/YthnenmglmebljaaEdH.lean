/-
  edit.Runs: the runs of a row. Conditions: a row of at most a thousand units within their types' bounds.
-/
import Derived.Test.YthnenmglmebljaaEdG
namespace Go.Proofs.Ythnenmglmebljaa
open Go.RowKit
open Pl (Un)

theorem map_set_long {L : List RnV} {m n' c' : Nat} {A' : Option Addr} {ch : Int} (h : L.length = m + 1) :
    (L.set m ⟨(L.getD m default).k, (L.getD m default).p, (L.getD m default).x, (L.getD m default).y, A', n', c', (L.getD m default).cs ++ [ch]⟩).map RnV.rn = Pl.long (L.map RnV.rn) ch := by
  rcases List.eq_nil_or_concat L with rfl | ⟨pre, r, rfl⟩
  · simp at h
  · rw [List.concat_eq_append] at *
    obtain rfl : pre.length = m := by simpa using h
    rw [getD_snoc_eq, List.map_append, List.map_cons, List.map_nil, Pl.long_snoc]
    simp [RnV.rn, Pl.Rn.more]
theorem Pl.len_le_sum (rs : List Pl.Rn) (r : Pl.Rn) (h : r ∈ rs) : r.cs.length ≤ Pl.sumR rs := by
  induction rs with
  | nil => cases h
  | cons a rs ih =>
    have e : Pl.sumR (a :: rs) = a.cs.length + Pl.sumR rs := by simp [Pl.sumR]
    rw [e]
    rcases List.mem_cons.1 h with rfl | h
    · omega
    · have := ih h; omega
theorem idx_facts {m M : Nat} (h : M = m + 1) (hM : M ≤ 1001) : (0 : Int) ≤ (m : Int) ∧ (m : Int) < (M : Int) ∧ IntKind.i64.wrap ((M : Int) - 1) = (m : Int) ∧ wrap64 ((M : Int) - 1) = (m : Int) ∧ IntKind.i64.wrap (m : Int) = (m : Int) ∧ wrap64 (m : Int) = (m : Int) := by
  have e : ∀ a : Int, -9223372036854775808 ≤ a → a ≤ 9223372036854775807 → wrap64 a = a := fun a h1 h2 => by unfold wrap64; omega
  have e2 : ∀ a : Int, -9223372036854775808 ≤ a → a ≤ 9223372036854775807 → IntKind.i64.wrap a = a := fun a h1 h2 => by rw [IntKind.wrap_i64]; omega
  have h3 : (M : Int) - 1 = (m : Int) := by omega
  rw [h3]
  exact ⟨by omega, by omega, e2 _ (by omega) (by omega), e _ (by omega) (by omega), e2 _ (by omega) (by omega), e _ (by omega) (by omega)⟩
/-- between one unit and the next -/
def RuR (w : World) (l : List Un) (i : Value) (wr : World) : Prop := ∃ (j : Nat) (B : Option Addr) (d : Nat) (L : List RnV), i = .int .i64 (j : Int) ∧ j ≤ l.length ∧ RI w w.heap.size wr B d L ∧ L.map RnV.rn = Pl.runs (l.take j)
set_option maxRecDepth 100000 in
set_option maxHeartbeats 2000000 in
theorem runs_any (A : Option Addr) (n c : Nat) (l : List Un) (w : World) (h1 : Uns w w.heap.size A n c l) (hn : n ≤ 1000) (hI : ∀ u ∈ l, Pl.I u.p) (hJ : ∀ u ∈ l, Pl.J u.c) :
    Calls Try.prog 19 #[.slice A n c] w fun e w' => ∃ B d L, e = .returned (.slice B L.length d) ∧ Rns w' B L.length d L ∧ L.map RnV.rn = Pl.runs l ∧ Below w.heap.size w w' := by
  have hcap1 := h1.cap
  have hle1 := h1.le
  unfold maxLen at hcap1
  have HL := Lib.hid h1.len
  have H1 := Lib.hid h1
  have HI := Lib.hid hI
  have HJ := Lib.hid hJ
  have HN := Lib.hid hn
  have HS := Lib.hid (RI.start w)
  clear h1 hI hJ hn
  go_enter Try.func19, Try.ntmps19
  go_wp2_with fail
  go_loopw [11] (fun i wr => RuR w l i wr) (fun i _ => n - (intOf i).toNat)
  case atStart => exact ⟨0, none, 0, [], rfl, Nat.zero_le _, HS.out, rfl⟩
  case round =>
    obtain ⟨j, B, d, L, rfl, hj, hri, hL⟩ := hrel
    have HR := Lib.hid hri
    have HM := Lib.hid hL
    rw [HL.out] at hj
    clear hri hL HS
    by_cases hlt : j < n
    · have hjl : j < l.length := by rw [HL.out]; exact hlt
      obtain ⟨g1, o1, rfl, hg1, hc1⟩ := Uns.at_ (Rws.below H1.out HR.out.below (Nat.le_refl _)) hlt
      obtain ⟨a0, a1, a2, a3, a4⟩ := hc1 j hlt
      have hIt : ∀ u ∈ l.take j, Pl.I u.p := fun u hu => HI.out u (List.mem_of_mem_take hu)
      obtain ⟨u, hu⟩ : ∃ u, u = l.getD j default := ⟨_, rfl⟩
      have HST := Lib.hid (show l.take (j + 1) = l.take j ++ [u] by rw [hu]; exact take_snoc hjl)
      have HLE := Lib.hid (show L.length ≤ 1000 by have h1 := (Pl.runs_inv _ hIt).2.2.2.1; rw [← HM.out, List.length_map, List.length_take] at h1; have := HN.out; omega)
      have HCL := Lib.hid (show ∀ r ∈ L, r.cs.length ≤ 1000 from fun r hr => by
        have h1 := (Pl.runs_inv _ hIt).2.2.1
        rw [← HM.out, List.length_take] at h1
        have h2 := Pl.len_le_sum (L.map RnV.rn) r.rn (List.mem_map_of_mem hr)
        have h3 := HN.out
        have h4 : r.rn.cs = r.cs := rfl
        rw [h4] at h2
        omega)
      have HFB := Lib.hid (Pl.folB_eq (l.take j) hIt u)
      have HUJ := Lib.hid (HJ.out u (by rw [hu]; exact mem_getD hjl))
      rw [← hu] at a0 a1 a2 a3 a4
      obtain ⟨k, p, ch, x, y⟩ := u
      simp only at a0 a1 a2 a3 a4
      have z0 : (0 : Int) ≤ (j : Int) := Int.natCast_nonneg j
      have z1 : (j : Int) < (n : Int) := Int.ofNat_lt.2 hlt
      obtain ⟨X, hX⟩ : ∃ X, X = wr.alloc (.cells #[.int .i64 k, .int .i64 p, .int .i32 ch, .int .u32 x, .int .u64 y] 44) := ⟨_, rfl⟩
      have HU1 := Lib.hid (show UAt X wr.heap.size k p ch x y by rw [hX]; exact uat_new _ _ _ _ _ _)
      have HBX := Lib.hid (show Below wr.heap.size wr X by rw [hX]; exact below_box _ _)
      have HX := Lib.hid hX
      have HRX := Lib.hid (HR.out.then_ HBX.out)
      have HFA := Lib.hid (follows_any ⟨k, p, ch, x, y⟩ w.heap.size B L.length d L X HRX.out.box HRX.out.rnr HRX.out.lens)
      obtain ⟨q, hq⟩ : ∃ q, q = Pl.folB (L.map RnV.rn) ⟨k, p, ch, x, y⟩ := ⟨_, rfl⟩
      rw [← hq] at HFA
      unfold uval at HFA
      rw [← HM.out, ← hq, ← HST.out] at HFB
      simp only at HFA
      obtain ⟨u0, u1, u2, u3, u4⟩ := HU1.out.cells
      clear hc1 hu hIt hX
      go_wp2_with fail
      rw [← HX.out]
      go_wp2_with fail
      refine HFA.out.mono ?_
      rintro e w2 ⟨rfl, hb2⟩
      have HU2 := Lib.hid (HU1.out.then_ hb2)
      have HR2 := Lib.hid (HRX.out.then_ hb2)
      clear hb2 HFA HRX u0 u1 u2 u3 u4 a0 a1 a2 a3 a4
      obtain ⟨u0, u1, u2, u3, u4⟩ := HU2.out.cells
      have hbx : w2.cell? ⟨w.heap.size, 0, none⟩ = some (.slice B L.length d) := by rw [cell_of_row _ _ 0 _ _ _ HR2.out.box]; rfl
      cases q with
      | true =>
        have HFN := Lib.hid (show Pl.long (L.map RnV.rn) ch = Pl.runs (l.take (j + 1)) by rw [HFB.out]; rfl)
        obtain ⟨m, hLm⟩ : ∃ m, L.length = m + 1 := by
          cases L with
          | nil => exact absurd hq (by simp [Pl.folB])
          | cons a b => exact ⟨b.length, rfl⟩
        have HLN := Lib.hid hLm
        have HCB := Lib.hid (show ∀ r ∈ L, r.cs.length ≤ 1000 from HCL.out)
        have HMX := Lib.hid (show L.length ≤ 1001 by have := HLE.out; omega)
        clear hLm hbx hq u0 u1 u2 u3 u4
        obtain ⟨g2, rfl, hg2b, hg2⟩ := OwnR.pos_ HR2.out.own (by rw [HLN.out]; omega)
        obtain ⟨M, hM⟩ : ∃ M, M = (L).length := ⟨_, rfl⟩
        have hbx2 : (w2).cell? ⟨w.heap.size, 0, none⟩ = some (.slice (some ⟨g2, 0, none⟩) M d) := by rw [hM, cell_of_row _ _ 0 _ _ _ HR2.out.box]; rfl
        have hmM : M = m + 1 := hM.trans HLN.out
        have hM1 : M ≤ 1001 := hM ▸ HMX.out
        have hml : m < (L).length := by rw [HLN.out]; omega
        obtain ⟨g3, o3, e3, _, hc3⟩ := Rnr.at_ HR2.out.rnr hml
        injection e3 with e3
        injection e3 with e3 e4 _
        subst e3 e4
        have v4 := (hc3 m hml).2.2.2.2
        have HCH := Lib.hid (HR2.out.chars m hml)
        have hcb := HCB.out ((L).getD m default) (by rw [List.getD_eq_getElem?_getD, List.getElem?_eq_getElem hml]; exact List.getElem_mem hml)
        have HGR := fun (A' : Option Addr) (n' c' : Nat) (cs' : List Int) (wa wb : World) (h : RI w w.heap.size wa (some ⟨g2, 0, none⟩) d L) => Lib.hid (RI.grow (A' := A') (n' := n') (c' := c') (cs' := cs') (w2 := wb) h hml)
        have HML := fun (A' : Option Addr) (n' c' : Nat) => Lib.hid (map_set_long (A' := A') (n' := n') (c' := c') (ch := ch) HLN.out)
        simp only [Nat.zero_add] at v4
        obtain ⟨r, hr⟩ : ∃ r, r = (L).getD m default := ⟨_, rfl⟩
        simp only [← hr] at v4 HCH HGR HML hcb
        obtain ⟨lk, lp, lx, ly, lA, ln, lc, lcs⟩ := r
        simp only [RnV.sl] at v4 HCH HGR HML hcb
        rw [← HCH.out.crs.1] at hcb
        obtain ⟨u0, u1, u2, u3, u4⟩ := HU2.out.cells
        obtain ⟨V, hV⟩ : ∃ V, V = (w2).drew.alloc (.cells #[.int .i32 ch] 42) := ⟨_, rfl⟩
        have hYV : Below (w2).heap.size w2 V := by rw [hV]; exact ⟨rfl, rfl, rfl, by simp, fun k hk => Below.heap_alloc _ _ _ hk⟩
        have hVs : V.heap.size = (w2).heap.size + 1 := by rw [hV]; simp
        have HRV := Lib.hid (HR2.out.then_ hYV)
        have HCV := Lib.hid (HCH.out.then_ hYV)
        have HSV := Lib.hid (show Crs V V.heap.size (some ⟨(w2).heap.size, 0, none⟩) 1 1 [ch] by
          have h := crs_lit (w2).drew [ch] (fun x hx => by rw [List.mem_singleton.1 hx]; exact HUJ.out) (by simp [maxLen])
          rw [hV]; exact h.crs.2)
        have v4V : V.cell? ⟨g2, m * 5 + 4, none⟩ = some (.slice lA ln lc) := (hYV.cell (p := ⟨g2, m * 5 + 4, none⟩) hg2).trans v4
        have u2V : V.cell? ⟨wr.heap.size, 2, none⟩ = some (.int .i32 ch) := (HU2.out.then_ hYV).cells.2.2.1
        have HK := Lib.hid (show ∀ w4, V.grownBy w4 (Value.slice lA ln lc).ownBlock → w4.cell? ⟨g2, m * 5 + 4, none⟩ = some (.slice lA ln lc) ∧ w4.frozen? ⟨g2, m * 5 + 4, none⟩ = false from fun w4 hg => by
          have hne : some g2 ≠ (Value.slice lA ln lc).ownBlock := fun e => (HR2.out.nc m hml g2 (by rw [← hr]; exact e.symm)).2 rfl
          have hbk := hg.block g2 (by omega) hne
          have hown := OwnR.same HRV.out.own (w' := w4) fun g _ hlt e => by injection e with e; subst e; exact hbk
          exact ⟨(World.cell?_of_block (w := V) (a := ⟨g2, m * 5 + 4, none⟩) hbk).trans v4V, World.ownsRow.frozenAt hown _⟩)
        have HV := Lib.hid hV
        have hbw : w.heap.size ≤ V.heap.size := HRV.out.below.size
        obtain ⟨y0, y1, yi, yw, yj, yk⟩ := idx_facts hmM hM1
        have hfit : (ln + 1) * 4 ≤ 140737488355328 := Nat.le_trans (Nat.mul_le_mul_right 4 (Nat.succ_le_succ hcb)) (by decide)
        have HMS := Lib.hid (show n - (j + 1) < n - j from Nat.sub_lt_sub_left hlt (Nat.lt_succ_self j))
        have HJ1 := Lib.hid (show j + 1 ≤ l.length from hjl)
        clear hc3 hr hM hmM hml hM1 HFB hV hYV hVs hcb
        rw [HV.out] at v4V u2V HCV HSV hbw HK
        go_wp2_with fail
        go_region_law (refine step_append_crs ((w2).drew.alloc (.cells #[.int .i32 ch] 42)) (by rfl) (.tmp 38) (.tmp 41) (by rfl) w.heap.size lA ln lc lcs (by rfl) HCV.out _ (some ⟨(w2).heap.size, 0, none⟩) 1 1 [ch] (by rfl) HSV.out hfit hbw ?_; intro A4 c4 w4 hO4 hg4 hat4; have p4 := (HK.out w4 hg4).1; have q4 := (HK.out w4 hg4).2)
        all_goals
          have HRI := Lib.hid ((HGR A4 (ln + 1) c4 (lcs ++ [ch]) V w4 HRV.out).out hO4 (by rw [HV.out]; exact hg4) (by rw [HV.out]; exact hat4))
          have HFM := Lib.hid ((HML A4 (ln + 1) c4).out.trans HFN.out)
          clear hO4 hg4 hat4 p4 q4 HGR HML HK HSV HCV v4V u2V v4 hbx2
          go_wp2_with fail
          go_roundw
          case rel => exact ⟨j + 1, some ⟨g2, 0, none⟩, d, _, by go_num, HJ1.out, HRI.out, HFM.out⟩
          case measure => simp [intOf]; exact HMS.out
      | false =>
        clear hq
        obtain ⟨W1, hW1⟩ : ∃ W1, W1 = w2.alloc (.cells #[.int .i64 k, .int .i64 p, .int .u32 x, .int .u64 y, .slice none 0 0] 49) := ⟨_, rfl⟩
        have hb1 : Below w2.heap.size w2 W1 := by rw [hW1]; exact below_box _ _
        have HR3 := Lib.hid (HR2.out.then_ hb1)
        have HU3 := Lib.hid (HU2.out.then_ hb1)
        have HRW := Lib.hid (show Rnr W1 W1.heap.size (some ⟨w2.heap.size, 0, none⟩) 1 1 [⟨k, p, x, y, none, 0, 0, []⟩] by rw [hW1]; exact (OwnR.rws encR_len (run_row w2 ⟨k, p, x, y, none, 0, 0, []⟩)).2)
        have hlb := (OwnR.lt HR.out.own)
        have hbxl := lt_of_block HR.out.box
        have HW1 := Lib.hid hW1
        obtain ⟨m, hN⟩ : ∃ m, m = L.length := ⟨_, rfl⟩
        have hm1 : m ≤ 1000 := hN ▸ HLE.out
        have HOW := Lib.hid HR3.out.own
        rw [← hN] at HOW hlb
        simp only [← hN] at hbx
        have hsz := HR3.out.below.size
        have HPU := fun (B' : Option Addr) (d' : Nat) (w3 : World) => Lib.hid (RI.push (B' := B') (d' := d') (w2 := w3) (r := (⟨k, p, x, y, none, 0, 0, []⟩ : RnV)) HR3.out rfl rfl)
        rw [← hN] at HPU
        have HFN := Lib.hid (show Pl.long ((L ++ [(⟨k, p, x, y, none, 0, 0, []⟩ : RnV)]).map RnV.rn) ch = Pl.runs (l.take (j + 1)) by rw [HFB.out, List.map_append, List.map_cons, List.map_nil, Pl.long_snoc]; rfl)
        have HKB := Lib.hid (show ∀ w3 : World, W1.grownBy w3 (Value.slice B m d).ownBlock → (w3.cell? ⟨w.heap.size, 0, none⟩ = some (.slice B m d) ∧ w3.frozen? ⟨w.heap.size, 0, none⟩ = false) ∧ UAt w3 wr.heap.size k p ch x y from fun w3 hg => by
          have hbk := hg.block w.heap.size (lt_of_block HR3.out.box) (fun e => HR3.out.nb _ (by rw [← hN]; exact e.symm) rfl)
          have hbk2 := hg.block wr.heap.size HU3.out.lt (fun e => by have := (hlb _ e.symm).2; omega)
          refine ⟨⟨?_, ?_⟩, hbk2.trans HU3.out⟩
          · rw [cell_of_row _ _ 0 _ _ _ (hbk.trans HR3.out.box), hN]; rfl
          · exact frozen_of_row _ _ _ _ _ (hbk.trans HR3.out.box))
        have HLN0 := Lib.hid hN
        have HUB := Lib.hid (show wr.heap.size ≠ w.heap.size by omega)
        clear hb1 hlb hbxl hN hW1
        rw [HW1.out] at HOW HRW hsz
        go_wp2_with (at_builtin; refine wpList_append_rws encR_len encR_one Try.underlying45 infoRn (by decide) (by decide) (w2.alloc (.cells #[.int .i64 k, .int .i64 p, .int .u32 x, .int .u64 y, .slice none 0 0] 49)) rfl (.tmp 19) (.tmp 27) rfl w.heap.size B m d L (by rfl) HOW.out _ (some ⟨w2.heap.size, 0, none⟩) 1 1 [⟨k, p, x, y, none, 0, 0, []⟩] (by rfl) HRW.out (by unfold maxLen; omega) (by omega) hsz ?_)
        intro A3 c3 w3 hO3 hg3 hat3
        obtain ⟨⟨x3, f3⟩, hu3⟩ := HKB.out w3 (by rw [HW1.out]; exact hg3)
        obtain ⟨Y, hY⟩ : ∃ Y, Y = w3.setCell ⟨w.heap.size, 0, none⟩ (.slice A3 (m + 1) c3) := ⟨_, rfl⟩
        obtain ⟨LX, hLX⟩ : ∃ LX, LX = L ++ [(⟨k, p, x, y, none, 0, 0, []⟩ : RnV)] := ⟨_, rfl⟩
        rw [← hLX] at hO3 HFN
        have HRY := Lib.hid (show RI w w.heap.size Y A3 c3 LX by rw [hY, hLX]; rw [hLX] at hO3; exact (HPU A3 c3 w3).out hO3 (by rw [HW1.out]; exact hg3) (by rw [show W1.heap.size = w2.heap.size + 1 from by rw [HW1.out]; simp]; exact hat3))
        have HUY := Lib.hid (show UAt Y wr.heap.size k p ch x y by rw [hY]; exact hu3.far HUB.out _)
        have HLN := Lib.hid (show LX.length = m + 1 by rw [hLX]; simp [HLN0.out])
        have HMX := Lib.hid (show LX.length ≤ 1001 by rw [HLN.out]; omega)
        have HCB := Lib.hid (show ∀ r ∈ LX, r.cs.length ≤ 1000 from fun r hr => by
          rw [hLX] at hr
          rcases List.mem_append.1 hr with hr | hr
          · exact HCL.out r hr
          · rw [List.mem_singleton.1 hr]; exact Nat.zero_le _)
        have HY := Lib.hid hY
        clear hO3 hg3 hat3 hu3 hLX HPU HKB hY hbx u0 u1 u2 u3 u4 hsz
        obtain ⟨g2, rfl, hg2b, hg2⟩ := OwnR.pos_ HRY.out.own (by rw [HLN.out]; omega)
        obtain ⟨M, hM⟩ : ∃ M, M = (LX).length := ⟨_, rfl⟩
        have hbx2 : (Y).cell? ⟨w.heap.size, 0, none⟩ = some (.slice (some ⟨g2, 0, none⟩) M c3) := by rw [hM, cell_of_row _ _ 0 _ _ _ HRY.out.box]; rfl
        have hmM : M = m + 1 := hM.trans HLN.out
        have hM1 : M ≤ 1001 := hM ▸ HMX.out
        have hml : m < (LX).length := by rw [HLN.out]; omega
        obtain ⟨g3, o3, e3, _, hc3⟩ := Rnr.at_ HRY.out.rnr hml
        injection e3 with e3
        injection e3 with e3 e4 _
        subst e3 e4
        have v4 := (hc3 m hml).2.2.2.2
        have HCH := Lib.hid (HRY.out.chars m hml)
        have hcb := HCB.out ((LX).getD m default) (by rw [List.getD_eq_getElem?_getD, List.getElem?_eq_getElem hml]; exact List.getElem_mem hml)
        have HGR := fun (A' : Option Addr) (n' c' : Nat) (cs' : List Int) (wa wb : World) (h : RI w w.heap.size wa (some ⟨g2, 0, none⟩) c3 LX) => Lib.hid (RI.grow (A' := A') (n' := n') (c' := c') (cs' := cs') (w2 := wb) h hml)
        have HML := fun (A' : Option Addr) (n' c' : Nat) => Lib.hid (map_set_long (A' := A') (n' := n') (c' := c') (ch := ch) HLN.out)
        simp only [Nat.zero_add] at v4
        obtain ⟨r, hr⟩ : ∃ r, r = (LX).getD m default := ⟨_, rfl⟩
        simp only [← hr] at v4 HCH HGR HML hcb
        obtain ⟨lk, lp, lx, ly, lA, ln, lc, lcs⟩ := r
        simp only [RnV.sl] at v4 HCH HGR HML hcb
        rw [← HCH.out.crs.1] at hcb
        obtain ⟨u0, u1, u2, u3, u4⟩ := HUY.out.cells
        obtain ⟨V, hV⟩ : ∃ V, V = (Y).drew.alloc (.cells #[.int .i32 ch] 42) := ⟨_, rfl⟩
        have hYV : Below (Y).heap.size Y V := by rw [hV]; exact ⟨rfl, rfl, rfl, by simp, fun k hk => Below.heap_alloc _ _ _ hk⟩
        have hVs : V.heap.size = (Y).heap.size + 1 := by rw [hV]; simp
        have HRV := Lib.hid (HRY.out.then_ hYV)
        have HCV := Lib.hid (HCH.out.then_ hYV)
        have HSV := Lib.hid (show Crs V V.heap.size (some ⟨(Y).heap.size, 0, none⟩) 1 1 [ch] by
          have h := crs_lit (Y).drew [ch] (fun x hx => by rw [List.mem_singleton.1 hx]; exact HUJ.out) (by simp [maxLen])
          rw [hV]; exact h.crs.2)
        have v4V : V.cell? ⟨g2, m * 5 + 4, none⟩ = some (.slice lA ln lc) := (hYV.cell (p := ⟨g2, m * 5 + 4, none⟩) hg2).trans v4
        have u2V : V.cell? ⟨wr.heap.size, 2, none⟩ = some (.int .i32 ch) := (HUY.out.then_ hYV).cells.2.2.1
        have HK := Lib.hid (show ∀ w4, V.grownBy w4 (Value.slice lA ln lc).ownBlock → w4.cell? ⟨g2, m * 5 + 4, none⟩ = some (.slice lA ln lc) ∧ w4.frozen? ⟨g2, m * 5 + 4, none⟩ = false from fun w4 hg => by
          have hne : some g2 ≠ (Value.slice lA ln lc).ownBlock := fun e => (HRY.out.nc m hml g2 (by rw [← hr]; exact e.symm)).2 rfl
          have hbk := hg.block g2 (by omega) hne
          have hown := OwnR.same HRV.out.own (w' := w4) fun g _ hlt e => by injection e with e; subst e; exact hbk
          exact ⟨(World.cell?_of_block (w := V) (a := ⟨g2, m * 5 + 4, none⟩) hbk).trans v4V, World.ownsRow.frozenAt hown _⟩)
        have HV := Lib.hid hV
        have hbw : w.heap.size ≤ V.heap.size := HRV.out.below.size
        obtain ⟨y0, y1, yi, yw, yj, yk⟩ := idx_facts hmM hM1
        have hfit : (ln + 1) * 4 ≤ 140737488355328 := Nat.le_trans (Nat.mul_le_mul_right 4 (Nat.succ_le_succ hcb)) (by decide)
        have HMS := Lib.hid (show n - (j + 1) < n - j from Nat.sub_lt_sub_left hlt (Nat.lt_succ_self j))
        have HJ1 := Lib.hid (show j + 1 ≤ l.length from hjl)
        clear hc3 hr hM hmM hml hM1 HFB hV hYV hVs hcb
        rw [HV.out] at v4V u2V HCV HSV hbw HK
        go_wp2_with fail
        rw [← HY.out]
        go_region_law (refine step_append_crs ((Y).drew.alloc (.cells #[.int .i32 ch] 42)) (by rfl) (.tmp 38) (.tmp 41) (by rfl) w.heap.size lA ln lc lcs (by rfl) HCV.out _ (some ⟨(Y).heap.size, 0, none⟩) 1 1 [ch] (by rfl) HSV.out hfit hbw ?_; intro A4 c4 w4 hO4 hg4 hat4; have p4 := (HK.out w4 hg4).1; have q4 := (HK.out w4 hg4).2)
        all_goals
          have HRI := Lib.hid ((HGR A4 (ln + 1) c4 (lcs ++ [ch]) V w4 HRV.out).out hO4 (by rw [HV.out]; exact hg4) (by rw [HV.out]; exact hat4))
          have HFM := Lib.hid ((HML A4 (ln + 1) c4).out.trans HFN.out)
          clear hO4 hg4 hat4 p4 q4 HGR HML HK HSV HCV v4V u2V v4 hbx2
          go_wp2_with fail
          go_roundw
          case rel => exact ⟨j + 1, some ⟨g2, 0, none⟩, c3, _, by go_num, HJ1.out, HRI.out, HFM.out⟩
          case measure => simp [intOf]; exact HMS.out
    · obtain rfl : j = n := by omega
      have HE := Lib.hid (show L.map RnV.rn = Pl.runs l by
        have h := HM.out
        rwa [List.take_of_length_le (by rw [HL.out]; exact Nat.le_refl _)] at h)
      have hbx : wr.cell? ⟨w.heap.size, 0, none⟩ = some (.slice B L.length d) := by rw [cell_of_row _ _ 0 _ _ _ HR.out.box]; rfl
      go_wp2_with fail
      go_ret
      exact ⟨B, d, L, rfl, HR.out.rns, HE.out, HR.out.below⟩
end Go.Proofs.Ythnenmglmebljaa
