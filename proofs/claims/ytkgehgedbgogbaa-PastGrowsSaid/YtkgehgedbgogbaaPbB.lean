/-
  The document's own Own, One and Same for operations; the law's end. Conditions: rows of units of at most 2^47 bytes where each says so.
-/
import Derived.Test.YtkgehgedbgogbaaPbA
namespace Go.Proofs.Ytkgehgedbgogbaa
open Go.RowKit
open Pl (Un)

set_option maxRecDepth 100000 in
set_option maxHeartbeats 400000 in
theorem own10_any (x y : Int) (A : Option Addr) (n c : Nat) (l : List Un) (b : Bool) (w : World) (h1 : Uns w w.heap.size A n c l) (hn : n * 40 ≤ 140737488355328) :
    Calls Try.prog 10 #[.agg #[.int .u32 x, .int .u64 y, .slice A n c, .bool b]] w (RetOp w x y l b) := by
  obtain rfl : l.length = n := h1.len
  obtain ⟨V, hV⟩ : ∃ V, V = (w.alloc (.cells #[.int .u32 x, .int .u64 y, .slice A l.length c, .bool b] 38)).alloc (.cells #[.int .u32 0, .int .u64 0, .slice none 0 0, .bool false] 38) := ⟨_, rfl⟩
  have hb : Below w.heap.size w V := by rw [hV]; exact below_alloc (below_box _ _) _
  have ho : OAt V w.heap.size x y A l.length c b := by rw [hV]; exact below_old (w := w.alloc (.cells #[.int .u32 x, .int .u64 y, .slice A l.length c, .bool b] 38)) (below_box _ _) (heap_new rfl) (by simp)
  have hr : OAt V (w.heap.size + 1) 0 0 none 0 0 false := by rw [hV]; exact heap_new (by simp)
  have hsz : V.heap.size = w.heap.size + 2 := by rw [hV]; simp
  obtain ⟨c0, c1, c2, c3⟩ := ho.cells
  have HO := Lib.hid ho
  have HR := Lib.hid hr
  have HB := Lib.hid hb
  have HU := Lib.hid (Rws.then_ h1 hb)
  have HV := Lib.hid hV
  have HSZ := Lib.hid hsz
  rw [hV] at c0 c1 c2 c3
  clear h1 hb ho hr hsz hV
  go_enter Try.func10, Try.ntmps10
  go_wp2_with (at_builtin; rw [← HV.out]; refine wpList_append_rws encU_len encU_one Try.underlying36 infoUn (by decide) (by decide) V rfl (.tmp 4) (.tmp 6) rfl V.heap.size _ _ _ [] (by rfl) (OwnR.nil_ _ _ _ _ _) V.heap.size _ _ _ l (by rfl) HU.out (by unfold maxLen; omega) (by omega) (Nat.le_refl _) ?_)
  intro A2 d2 w2 hV2 hg2 hx2
  have hb2 : Below V.heap.size V w2 := OwnR.grownBelow (OwnR.nil_ encU 5 65 V V.heap.size) hg2 (Below.refl _ _) (Nat.le_refl _)
  have hV3 : OwnU w2 V.heap.size (.slice A2 l.length d2) l := by
    simpa using hV2
  have ho2 := HO.out.then_ hb2
  have hr2 := HR.out.then_ hb2
  have HB2 := Lib.hid (below_then HB.out hb2)
  have HO2 := Lib.hid ho2
  have HR2 := Lib.hid hr2
  have HV3 := Lib.hid hV3
  obtain ⟨k0, k1, k2, k3⟩ := ho2.cells
  have kf := fun j => ho2.frozen j
  have t3 : Tn (fun b => b = w.heap.size) w2 (w2.setCell ⟨w.heap.size, 2, none⟩ (.slice A2 l.length d2)) := (Tn.refl (fun b => b = w.heap.size) w2).set_ (p := ⟨w.heap.size, 2, none⟩) (Or.inr rfl) _
  have hr3 := hr2.tn t3 (fun e => by omega)
  obtain ⟨j0, j1, j2, j3⟩ := hr3.cells
  have jf := fun j => hr3.frozen j
  have HR3 := Lib.hid hr3
  have HT3 := Lib.hid t3
  clear hV2 hg2 hx2 hb2 hV3 ho2 hr2 t3 hr3
  go_wp2_with fail
  have HT4 := Lib.hid (tn_four (w2.setCell ⟨w.heap.size, 2, none⟩ (.slice A2 l.length d2)) (w.heap.size + 1) (.int .u32 x) (.int .u64 y) (.slice A2 l.length d2) (.bool b))
  exact bodyPost_ret (results_op rfl (by rfl) (HR3.out.sets x y A2 l.length d2 b)) rfl ⟨A2, d2, rfl, OwnR.lower (OwnR.tn (OwnR.tn HV3.out HT3.out (fun g hg e => by have := (OwnR.lt HV3.out g hg).1; have := HSZ.out; omega)) HT4.out (fun g hg e => by have := (OwnR.lt HV3.out g hg).1; have := HSZ.out; omega)) HB.out.size, HT4.out.below (HT3.out.below HB2.out HB2.out.size (fun b hb => by rw [hb]; exact Nat.le_refl _)) (Nat.le_trans HB2.out.size HT3.out.size) (fun b hb => by rw [hb]; exact Nat.le_succ _)⟩
theorem op_eq {x y x' y' : Int} {l l' : List Un} {b b' : Bool} : ((⟨x, y, l, b⟩ : Pl.Op) = ⟨x', y', l', b'⟩) ↔ ((x = x' ∧ y = y') ∧ b = b' ∧ l = l') := by
  simp only [Pl.Op.mk.injEq]
  constructor
  · rintro ⟨h1, h2, h3, h4⟩; exact ⟨⟨h1, h2⟩, h4, h3⟩
  · rintro ⟨⟨h1, h2⟩, h4, h3⟩; exact ⟨h1, h2, h3, h4⟩
set_option maxRecDepth 100000 in
set_option maxHeartbeats 400000 in
theorem one10_any (x y : Int) (A : Option Addr) (n c : Nat) (l : List Un) (b : Bool) (x' y' : Int) (A' : Option Addr) (n' c' : Nat) (l' : List Un) (b' : Bool) (w : World) (h1 : Uns w w.heap.size A n c l) (h2 : Uns w w.heap.size A' n' c' l') :
    Calls Try.prog 21 #[.agg #[.int .u32 x, .int .u64 y, .slice A n c, .bool b], .agg #[.int .u32 x', .int .u64 y', .slice A' n' c', .bool b']] w fun e w' => e = .returned (.bool (decide ((⟨x, y, l, b⟩ : Pl.Op) = ⟨x', y', l', b'⟩))) ∧ Below w.heap.size w w' := by
  obtain ⟨V, hV⟩ : ∃ V, V = (w.alloc (.cells #[.int .u32 x, .int .u64 y, .slice A n c, .bool b] 38)).alloc (.cells #[.int .u32 x', .int .u64 y', .slice A' n' c', .bool b'] 38) := ⟨_, rfl⟩
  have hb : Below w.heap.size w V := by rw [hV]; exact below_alloc (below_box _ _) _
  have ho : OAt V w.heap.size x y A n c b := by rw [hV]; exact below_old (w := w.alloc (.cells #[.int .u32 x, .int .u64 y, .slice A n c, .bool b] 38)) (below_box _ _) (heap_new rfl) (by simp)
  have hr : OAt V (w.heap.size + 1) x' y' A' n' c' b' := by rw [hV]; exact heap_new (by simp)
  obtain ⟨c0, c1, c2, c3⟩ := ho.cells
  obtain ⟨d0, d1, d2, d3⟩ := hr.cells
  have HS := Lib.hid (same8_any A A' n c n' c' l l' V (Rws.then_ h1 hb) (Rws.then_ h2 hb))
  have HB := Lib.hid hb
  have HV := Lib.hid hV
  rw [hV] at c0 c1 c2 c3 d0 d1 d2 d3
  have hq := fun w => eql_id x y x' y' w
  have hgd := fun a1 b1 w => guard_id .eql a1 b1 #[.int .u32 x, .int .u64 y] #[.int .u32 x', .int .u64 y'] w
  obtain ⟨r, hr2⟩ : ∃ r, r = decide ((⟨x, y, l, b⟩ : Pl.Op) = ⟨x', y', l', b'⟩) := ⟨_, rfl⟩
  rw [← hr2]
  by_cases hid : x = x' ∧ y = y'
  · rw [decide_eq_true hid] at hq
    by_cases hbb : b = b'
    · obtain ⟨s, hs⟩ : ∃ s, s = decide (l = l') := ⟨_, rfl⟩
      rw [← hs] at HS
      have HE := Lib.hid (show r = s by rw [hr2, hs, Bool.eq_iff_iff, decide_eq_true_iff, decide_eq_true_iff, op_eq]; exact ⟨fun h => h.2.2, fun h => ⟨hid, hbb, h⟩⟩)
      subst hbb
      clear h1 h2 hb ho hr hV hr2 hs hid
      cases b
      · go_enter Try.func21, Try.ntmps21
        go_wp2_with fail
        rw [← HV.out]
        refine HS.out.mono ?_
        rintro e w2 ⟨rfl, hb2⟩
        have HB2 := Lib.hid (below_then HB.out hb2)
        clear hb2
        go_wp2_with fail
        go_ret
        exact ⟨by rw [HE.out]; rfl, HB2.out⟩
      · go_enter Try.func21, Try.ntmps21
        go_wp2_with fail
        rw [← HV.out]
        refine HS.out.mono ?_
        rintro e w2 ⟨rfl, hb2⟩
        have HB2 := Lib.hid (below_then HB.out hb2)
        clear hb2
        go_wp2_with fail
        go_ret
        exact ⟨by rw [HE.out]; rfl, HB2.out⟩
    · have HE := Lib.hid (show r = false by rw [hr2, decide_eq_false_iff_not, op_eq]; exact fun h => hbb h.2.1)
      clear h1 h2 hb ho hr hr2 hid HS hV
      cases b <;> cases b' <;> first | exact absurd rfl hbb | skip
      all_goals
        clear hbb
        go_enter Try.func21, Try.ntmps21
        go_wp2_with fail
        go_ret
        exact ⟨by rw [HE.out]; rfl, by rw [← HV.out]; exact HB.out⟩
  · rw [decide_eq_false hid] at hq
    have HE := Lib.hid (show r = false by rw [hr2, decide_eq_false_iff_not, op_eq]; exact fun h => hid h.1)
    clear h1 h2 hb ho hr hr2 hid HS hV
    go_enter Try.func21, Try.ntmps21
    go_wp2_with fail
    go_ret
    exact ⟨by rw [HE.out]; rfl, by rw [← HV.out]; exact HB.out⟩
/-- a row of operations, wherever it lies, in plain words -/
def RowP (w : World) (A : Option Addr) (n c : Nat) (P : List Pl.Op) : Prop := ∃ L, OpsF w (fun _ => True) A n c L ∧ L.map OpV.op = P
theorem RowP.then_ {w w' : World} {A : Option Addr} {n c : Nat} {P : List Pl.Op} (h : RowP w A n c P) (hb : Below w.heap.size w w') : RowP w' A n c P := h.imp fun _ h => ⟨h.1.then_ hb, h.2⟩
theorem RowP.len {w : World} {A : Option Addr} {n c : Nat} {P : List Pl.Op} (h : RowP w A n c P) : P.length = n := by
  obtain ⟨L, h1, h2⟩ := h
  rw [← h2, List.length_map, h1.1.len]
theorem RowO.rowP {w : World} {B n c : Nat} {A : Option Addr} {P : List Pl.Op} (h : RowO w B (.slice A n c) P) : RowP w A n c P := by
  obtain ⟨_, L, h1, h2⟩ := h.ops
  exact ⟨L, h1.more fun _ _ => trivial, h2⟩
/-- one of them: its cells, its units -/
theorem RowP.at_ {w : World} {A : Option Addr} {n c i : Nat} {P : List Pl.Op} (h : RowP w A n c P) (hi : i < n) :
    ∃ g o A2 n2 c2, A = some ⟨g, o, none⟩ ∧ (∀ w', Below w.heap.size w w' → w'.cell? ⟨g, o + i * 4, none⟩ = some (.int .u32 (P.getD i default).x) ∧ w'.cell? ⟨g, o + i * 4 + 1, none⟩ = some (.int .u64 (P.getD i default).y) ∧ w'.cell? ⟨g, o + i * 4 + 2, none⟩ = some (.slice A2 n2 c2) ∧ w'.cell? ⟨g, o + i * 4 + 3, none⟩ = some (.bool (P.getD i default).b)) ∧ Uns w w.heap.size A2 n2 c2 (P.getD i default).l := by
  obtain ⟨L, h1, h2⟩ := h
  obtain ⟨g, o, e, _, _, _⟩ := h1.at_ hi
  have hop : (L.getD i default).op = P.getD i default := by
    rw [← h2, List.getD_eq_getElem?_getD, List.getD_eq_getElem?_getD, List.getElem?_map, List.getElem?_eq_getElem (by rw [h1.1.len]; exact hi)]
    rfl
  refine ⟨g, o, (L.getD i default).A, (L.getD i default).n, (L.getD i default).c, e, fun w' hb => ?_, ?_⟩
  · obtain ⟨g', o', e', _, _, hc⟩ := (h1.then_ hb).at_ hi
    rw [e] at e'
    cases e'
    rw [← hop]
    exact hc i hi
  · rw [← hop]
    exact (h1.getD_ hi).1
/-- between one operation and the next -/
def SaR (w : World) (n : Nat) (xs bs : List Pl.Op) (i : Value) (wr : World) : Prop := ∃ j : Nat, i = .int .i64 (j : Int) ∧ j ≤ n ∧ Below w.heap.size w wr ∧ ∀ t, t < j → xs.getD t default = bs.getD t default
theorem ext_getO {xs bs : List Pl.Op} (hl : xs.length = bs.length) (h : ∀ t, t < xs.length → xs.getD t default = bs.getD t default) : xs = bs := by
  refine List.ext_getElem hl fun i h1 h2 => ?_
  have := h i h1
  rwa [List.getD_eq_getElem?_getD, List.getD_eq_getElem?_getD, List.getElem?_eq_getElem h1, List.getElem?_eq_getElem h2] at this
set_option maxRecDepth 100000 in
set_option maxHeartbeats 400000 in
theorem same10_any (A A' : Option Addr) (n c m c' : Nat) (xs bs : List Pl.Op) (w : World) (h1 : RowP w A n c xs) (h2 : RowP w A' m c' bs) (hn : n ≤ 1000000) :
    Calls Try.prog 18 #[.slice A n c, .slice A' m c'] w fun e w' => e = .returned (.bool (decide (xs = bs))) ∧ Below w.heap.size w w' := by
  have HL1 := Lib.hid h1.len
  have HL2 := Lib.hid h2.len
  have H1 := Lib.hid h1
  have H2 := Lib.hid h2
  obtain ⟨rr, hrr⟩ : ∃ r, r = decide (xs = bs) := ⟨_, rfl⟩
  rw [← hrr]
  have HRR := Lib.hid hrr
  clear h1 h2 hrr
  by_cases hnm : n = m
  · subst hnm
    go_enter Try.func18, Try.ntmps18
    go_wp2_with fail
    go_loopw [5] (fun i wr => SaR w n xs bs i wr) (fun i _ => n - (intOf i).toNat)
    case atStart => exact ⟨0, rfl, Nat.zero_le _, Below.refl _ _, fun t ht => by omega⟩
    case round =>
      obtain ⟨j, rfl, hj, hb, hs⟩ := hrel
      have HB := Lib.hid hb
      have HSS := Lib.hid hs
      clear hs
      by_cases hlt : j < n
      · obtain ⟨g1, o1, A2, n2, c2, rfl, ha, hu⟩ := (H1.out.then_ hb).at_ hlt
        obtain ⟨g2, o2, A2', n2', c2', rfl, ha', hu'⟩ := (H2.out.then_ hb).at_ hlt
        have HEX := Lib.hid (show xs.getD j default = bs.getD j default → ∀ t, t < j + 1 → xs.getD t default = bs.getD t default from fun e t ht => by
          rcases Nat.lt_succ_iff_lt_or_eq.1 ht with ht | rfl
          · exact HSS.out t ht
          · exact e)
        have HNE := Lib.hid (show xs.getD j default ≠ bs.getD j default → xs ≠ bs from fun e e2 => e (by rw [e2]))
        obtain ⟨⟨x, y, l, b⟩, hq⟩ : ∃ q, q = xs.getD j default := ⟨_, rfl⟩
        obtain ⟨⟨x', y', l', b'⟩, hq'⟩ : ∃ q, q = bs.getD j default := ⟨_, rfl⟩
        rw [← hq] at ha hu HEX HNE
        rw [← hq'] at ha' hu' HEX HNE
        simp only at ha ha' hu hu'
        obtain ⟨r, hr⟩ : ∃ r, r = decide ((⟨x, y, l, b⟩ : Pl.Op) = ⟨x', y', l', b'⟩) := ⟨_, rfl⟩
        have HO := Lib.hid (show ∀ w1, Below wr.heap.size wr w1 → Calls Try.prog 21 #[.agg #[.int .u32 x, .int .u64 y, .slice A2 n2 c2, .bool b], .agg #[.int .u32 x', .int .u64 y', .slice A2' n2' c2', .bool b']] w1 fun e w' => e = .returned (.bool r) ∧ Below w1.heap.size w1 w' from fun w1 hb1 => by
          have := one10_any x y A2 n2 c2 l b x' y' A2' n2' c2' l' b' w1 (Rws.then_ hu hb1) (Rws.then_ hu' hb1)
          rwa [← hr] at this)
        have HA := Lib.hid ha
        have HA' := Lib.hid ha'
        have z0 : (0 : Int) ≤ (j : Int) := Int.natCast_nonneg _
        have z1 : (j : Int) < (n : Int) := Int.ofNat_lt.2 hlt
        have HR := Lib.hid hr
        have HMS := Lib.hid (show n - (j + 1) < n - j by omega)
        clear ha ha' hu hu' hr hq hq' hb
        go_wp2_with fail
        refine Rg.wp_region_inv (Below wr.heap.size wr) (Rg.Wd.at [.is (.slice (some ⟨g1, o1, none⟩) n c), .is (.int .i64 (j : Int)), .is (.pointer (some ⟨g1, o1 + j * 4, none⟩)), .is (.agg #[.int .u32 x, .int .u64 y, .slice A2 n2 c2, .bool b]), .is (.slice (some ⟨g2, o2, none⟩) n c'), .is (.int .i64 (j : Int)), .is (.pointer (some ⟨g2, o2 + j * 4, none⟩)), .is (.agg #[.int .u32 x', .int .u64 y', .slice A2' n2' c2', .bool b']), .is (.bool r), .is (.bool (!r))]) (by kernel_rfl) (by kernel_rfl) (Rg.Wd.stays _ _) ((below_drawn (Below.refl _ _))) ⟨?_, ?_, ?_, ?_, ?_, ?_, ?_, ?_, ?_, ?_, trivial⟩ ?_
        · intro a w1 hS hb hd
          have e0 := hb 0 (Rg.nw (by decide))
          simp [Act.eval] at e0
          exact Rg.does_pure (Rg.wanted_none rfl) (by simp [execOp, e0, go_sem]) hS rfl
        · intro a w1 hS hb hd
          have e5 := hb 5 (Rg.nw (by decide))
          simp [Act.eval] at e5
          exact Rg.does_pure (Rg.wanted_none rfl) (by simp [execOp, e5, go_sem]) hS rfl
        · intro a w1 hS hb hd
          have e17 := hd ⟨0, .data⟩ (by simp) rfl _ _ rfl rfl
          have e17 : a.tmps[17]?.getD undef = (.slice (some ⟨g1, o1, none⟩) n c) := Rg.slot e17
          have e18 := hd ⟨1, .data⟩ (by simp) rfl _ _ rfl rfl
          have e18 : a.tmps[18]?.getD undef = (.int .i64 (j : Int)) := Rg.slot e18
          exact Rg.does_pure (Rg.wanted_none rfl) (by simp [execOp, e17, e18, z0, z1, go_sem]) hS rfl
        · intro a w1 hS hb hd
          have e19 := hd ⟨2, .data⟩ (by simp) rfl _ _ rfl rfl
          have e19 : a.tmps[19]?.getD undef = (.pointer (some ⟨g1, o1 + j * 4, none⟩)) := Rg.slot e19
          exact Rg.does_pure (Rg.wanted_none rfl) (by simp [execOp, e19, (HA.out w1 hS).1, (HA.out w1 hS).2.1, (HA.out w1 hS).2.2.1, (HA.out w1 hS).2.2.2, go_sem]) hS rfl
        · intro a w1 hS hb hd
          have e1 := hb 1 (Rg.nw (by decide))
          simp [Act.eval] at e1
          exact Rg.does_pure (Rg.wanted_none rfl) (by simp [execOp, e1, go_sem]) hS rfl
        · intro a w1 hS hb hd
          have e5 := hb 5 (Rg.nw (by decide))
          simp [Act.eval] at e5
          exact Rg.does_pure (Rg.wanted_none rfl) (by simp [execOp, e5, go_sem]) hS rfl
        · intro a w1 hS hb hd
          have e21 := hd ⟨4, .data⟩ (by simp) rfl _ _ rfl rfl
          have e21 : a.tmps[21]?.getD undef = (.slice (some ⟨g2, o2, none⟩) n c') := Rg.slot e21
          have e22 := hd ⟨5, .data⟩ (by simp) rfl _ _ rfl rfl
          have e22 : a.tmps[22]?.getD undef = (.int .i64 (j : Int)) := Rg.slot e22
          exact Rg.does_pure (Rg.wanted_none rfl) (by simp [execOp, e21, e22, z0, z1, go_sem]) hS rfl
        · intro a w1 hS hb hd
          have e23 := hd ⟨6, .data⟩ (by simp) rfl _ _ rfl rfl
          have e23 : a.tmps[23]?.getD undef = (.pointer (some ⟨g2, o2 + j * 4, none⟩)) := Rg.slot e23
          exact Rg.does_pure (Rg.wanted_none rfl) (by simp [execOp, e23, (HA'.out w1 hS).1, (HA'.out w1 hS).2.1, (HA'.out w1 hS).2.2.1, (HA'.out w1 hS).2.2.2, go_sem]) hS rfl
        · intro a w1 hS hb hd
          have e20 := hd ⟨3, .data⟩ (by simp) rfl _ _ rfl rfl
          have e20 : a.tmps[20]?.getD undef = (.agg #[.int .u32 x, .int .u64 y, .slice A2 n2 c2, .bool b]) := Rg.slot e20
          have e24 := hd ⟨7, .data⟩ (by simp) rfl _ _ rfl rfl
          have e24 : a.tmps[24]?.getD undef = (.agg #[.int .u32 x', .int .u64 y', .slice A2' n2' c2', .bool b']) := Rg.slot e24
          refine Rg.does_call (f := 21) (args := #[.agg #[.int .u32 x, .int .u64 y, .slice A2 n2 c2, .bool b], .agg #[.int .u32 x', .int .u64 y', .slice A2' n2' c2', .bool b']]) (Rg.wanted_none rfl) (by simp [e20, e24, go_sem]) ?_
          refine (HO.out w1 hS).mono ?_; rintro e w3 ⟨rfl, hb⟩; exact ⟨_, rfl, rfl, below_then hS hb, hb⟩
        · intro a w1 hS hb hd
          have e25 := hd ⟨8, .data⟩ (by simp) rfl _ _ rfl rfl
          have e25 : a.tmps[25]?.getD undef = (.bool r) := Rg.slot e25
          exact Rg.does_pure (Rg.wanted_none rfl) (by simp [execOp, e25, go_sem]) hS rfl
        · intro v w3 hS hv
          have v26 := hv 9 _ _ rfl rfl
          have HB3 := Lib.hid (below_then HB.out hS)
          clear hS hv
          simp only [Rg.putAll, Nat.zero_add, Nat.reduceAdd]
          simp only [Act.put, List.setIfInBounds_toArray, List.set_cons_succ, List.set_cons_zero]
          rw [v26]
          clear v26
          cases r with
          | true =>
            have HX := Lib.hid (HEX.out (of_decide_eq_true HR.out.symm))
            go_wp2_with fail
            go_roundw
            case rel => exact ⟨j + 1, by go_num, hlt, HB3.out, HX.out⟩
            case measure => simp [intOf]; exact HMS.out
          | false =>
            have HX := Lib.hid (HNE.out (of_decide_eq_false HR.out.symm))
            go_wp2_with fail
            go_ret
            exact ⟨by rw [HRR.out, decide_eq_false HX.out]; rfl, HB3.out⟩
      · have hjn : j = n := by omega
        have HE := Lib.hid (show xs = bs from ext_getO (HL1.out.trans HL2.out.symm) (fun t ht => HSS.out t (by have := HL1.out; omega)))
        clear hjn hb
        go_wp2_with fail
        go_ret
        exact ⟨by rw [HRR.out, decide_eq_true HE.out]; rfl, HB.out⟩
  · have HN := Lib.hid (show xs ≠ bs from fun e => hnm (by rw [← HL1.out, ← HL2.out, e]))
    have hb : ((n : Int) != (m : Int)) = true := by rw [bne_iff_ne]; omega
    clear hnm
    go_enter Try.func18, Try.ntmps18
    go_wp2_with fail
    go_ret
    exact ⟨by rw [HRR.out, decide_eq_false HN.out]; rfl, Below.refl _ _⟩
set_option maxRecDepth 100000 in
set_option maxHeartbeats 400000 in
theorem end_any (pos : Int) (w : World) :
    Calls Try.prog 23 #[.int .i64 pos] w (RetOp w 0 0 [⟨1, pos, 122, 0, 0⟩] false) := by
  obtain ⟨V1, hV1⟩ : ∃ V, V = w.alloc (.cells #[.int .u32 0, .int .u64 0, .slice (some ⟨w.heap.size + 1, 0, none⟩) 1 1, .bool false] 38) := ⟨_, rfl⟩
  obtain ⟨V, hV⟩ : ∃ V, V = V1.alloc (.cells #[.int .i64 1, .int .i64 pos, .int .i32 122, .int .u32 0, .int .u64 0] 65) := ⟨_, rfl⟩
  have hs : V1.heap.size = w.heap.size + 1 := by rw [hV1]; simp
  have hb : Below w.heap.size w V := by rw [hV, hV1]; exact below_alloc (below_box _ _) _
  have ho : OAt V w.heap.size 0 0 (some ⟨w.heap.size + 1, 0, none⟩) 1 1 false := by rw [hV]; exact below_old (w := V1) (below_box _ _) (by rw [hV1]; exact heap_new rfl) (by omega)
  have hu : OwnU V (w.heap.size + 1) (.slice (some ⟨w.heap.size + 1, 0, none⟩) 1 1) [⟨1, pos, 122, 0, 0⟩] := by
    have := units_lit V1 [⟨1, pos, 122, 0, 0⟩] (by simp [maxLen])
    rw [hs] at this
    rw [hV]
    simpa [cellsR, encU] using this
  have HO := Lib.hid ho
  have HB := Lib.hid hb
  have HU := Lib.hid hu
  have HV := Lib.hid hV
  have HV1 := Lib.hid hV1
  clear hb ho hu hV hV1 hs
  go_enter Try.func23, Try.ntmps23
  go_wp2_with fail
  rw [← HV1.out, ← HV.out]
  exact bodyPost_ret (results_op rfl (by rfl) HO.out) rfl ⟨_, _, rfl, OwnR.lower HU.out (Nat.le_succ _), HB.out⟩
end Go.Proofs.Ytkgehgedbgogbaa
