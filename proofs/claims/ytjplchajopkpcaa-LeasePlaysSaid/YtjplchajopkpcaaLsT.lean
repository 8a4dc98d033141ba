/-
  The document's own leases: Set, Drop, Expire, New. Conditions: a million leases at most; rising.
-/
import Derived.Test.YtjplchajopkpcaaLsS
import Derived.Handy
namespace Go.Proofs.Ytjplchajopkpcaa
open Go.RowKit


set_option maxRecDepth 100000 in
set_option maxHeartbeats 2000000 in
theorem rset_any {w : World} {B q c : Nat} {A : Option Addr} {L : Pl.Mks} (h : RefL w B q A c L) (hr : Pl.Rising L) (hs : L.length ≤ 900000) (hB : B ≤ w.heap.size) (x now : Int) (hnow : 0 ≤ now) :
    Calls Try.prog 12 #[.pointer (some ⟨q, 0, none⟩), .int .u32 x, .int .u64 now] w fun e w' => ∃ A' c', e = .returned (.int .i64 (Pl.setL L x now).1) ∧ RefL w' B q A' c' (Pl.setL L x now).2 ∧ Tn (fun i => i = q) w w' := by
  have HA := Lib.hid (at_any h x)
  have HL := Lib.hid h
  have HR := Lib.hid hr
  have HSL := Lib.hid hs
  have HBB := Lib.hid hB
  obtain ⟨n, hn⟩ : ∃ n, n = L.length := ⟨_, rfl⟩
  have HN := Lib.hid hn
  have c0 := h.cell
  rw [← hn] at c0 hs
  clear h hr hB hn
  by_cases hlate : 1099511627776 < now
  · have z1 : decide (now > 1099511627776) = true := decide_eq_true hlate
    have z2 : decide (1099511627776 < now) = true := decide_eq_true hlate
    have HSET := Lib.hid (Pl.setL_late (L := L) (x := x) hlate)
    clear hlate
    go_enter Try.func12, Try.ntmps12
    go_wp2_with fail
    go_ret
    rw [HSET.out]
    exact ⟨A, c, rfl, HL.out, Tn.refl _ _⟩
  · have z1 : decide (now > 1099511627776) = false := decide_eq_false hlate
    have z2 : decide (1099511627776 < now) = false := decide_eq_false hlate
    have HLATE := Lib.hid hlate
    obtain ⟨t, ht⟩ : ∃ t, t = now + 64 := ⟨_, rfl⟩
    have hw : IntKind.u64.wrap (now + 64) = t := by rw [IntKind.wrap_u64]; omega
    have HT := Lib.hid ht
    obtain ⟨W1, hW1⟩ : ∃ W1, W1 = w.alloc (.cells #[.int .u32 x, .int .u64 t] 29) := ⟨_, rfl⟩
    have hb1 : Below w.heap.size w W1 := by rw [hW1]; exact below_alloc (Below.refl _ _) _
    have hP : W1.heap[w.heap.size]? = some (.cells #[.int .u32 x, .int .u64 t] 29 (0, 0)) := by rw [hW1]; exact heap_new rfl
    have HW1 := Lib.hid hW1
    have HBW := Lib.hid hb1
    have HP := Lib.hid hP
    have HCQ := Lib.hid (show ∀ wr, Below W1.heap.size W1 wr → wr.cell? ⟨q, 0, none⟩ = some (.slice A n c) ∧ wr.cell? ⟨w.heap.size, 0, none⟩ = some (.int .u32 x) ∧ wr.cell? ⟨w.heap.size, 1, none⟩ = some (.int .u64 t) from fun wr hb => by
      have hq := below_old hb HP.out (lt_of_block HP.out)
      refine ⟨?_, cell0 (r := [.int .u64 t]) hq, cell1 (r := []) hq⟩
      have := ((HL.out.then_ HBW.out).then_ hb).cell
      rwa [← HN.out] at this)
    clear ht hlate hnow hW1 hb1 hP
    go_enter Try.func12, Try.ntmps12
    go_wp2_with fail
    refine HA.out.mono ?_
    rintro e w' ⟨k, rfl, hk, hww⟩
    rw [hww]
    clear hww w' HA
    rcases hk with ⟨rfl, hk⟩ | ⟨i, rfl, hi, hk⟩
    · have hg := Pl.get_none.2 hk
      by_cases hfull : 16 ≤ n
      · have y1 : decide ((n : Int) ≥ 16) = true := decide_eq_true (by omega)
        have y2 : decide ((16 : Int) ≤ (n : Int)) = true := decide_eq_true (by omega)
        have HSET := Lib.hid (Pl.setL_full (now := now) (by have := HLATE.out; omega) hg (by have := HN.out; omega))
        clear hk hg hfull hw
        go_wp2_with fail
        go_ret
        rw [HSET.out]
        exact ⟨A, c, rfl, HL.out, Tn.refl _ _⟩
      · have y1 : decide ((n : Int) ≥ 16) = false := decide_eq_false (by omega)
        have y2 : decide ((16 : Int) ≤ (n : Int)) = false := decide_eq_false (by omega)
        have HSET := Lib.hid (Pl.setL_new (now := now) (by have := HLATE.out; omega) hg (by have := HN.out; omega))
        rw [← HT.out] at HSET
        clear hk hg hfull
        go_wp2_with fail
        rw [← HW1.out]
        clear c0
        obtain ⟨c0, d0, d1⟩ := HCQ.out W1 (Below.refl _ _)
        go_quiet (fail)
        obtain ⟨w3, hw3⟩ : ∃ z, z = W1.drewN nq := ⟨_, rfl⟩
        rw [← hw3]
        have hb3 : Below W1.heap.size W1 w3 := by rw [hw3]; exact below_drewN (Below.refl _ _) _
        clear hw3 c0 d0 d1
        obtain ⟨c0, d0, d1⟩ := HCQ.out w3 hb3
        have HB3 := Lib.hid (below_then HBW.out hb3)
        have hl3 := HL.out.then_ HB3.out
        clear hb3
        have HLY := Lib.hid (lay_any hl3 (by have := HSL.out; omega) (Nat.le_trans HBB.out HB3.out.size) x t)
        clear hl3
        go_wp2_with fail
        refine HLY.out.mono ?_
        rintro e w9 ⟨A9, c9, rfl, h9, ht9⟩
        have H9 := Lib.hid h9
        have HT9 := Lib.hid ht9
        clear h9 ht9 HLY
        go_wp2_with fail
        go_ret
        rw [HSET.out]
        exact ⟨A9, c9, rfl, H9.out, (Tn.of (fun i => i = q) HB3.out).trans HT9.out (fun _ _ x => x)⟩
    · obtain ⟨g, o, rfl, hc⟩ := HL.out.at_ hi
      have hget := Pl.idx_get HR.out hi
      rw [hk] at hget
      have HCR := Lib.hid (show ∀ wr, Below W1.heap.size W1 wr → wr.cell? ⟨g, o + i * 2, none⟩ = some (.int .u32 x) ∧ wr.cell? ⟨g, o + i * 2 + 1, none⟩ = some (.int .u64 (L.getD i default).2) from fun wr hb => by
        obtain ⟨g', o', e, hc⟩ := ((HL.out.then_ HBW.out).then_ hb).at_ hi
        cases e
        have := hc i hi
        rwa [hk] at this)
      obtain ⟨u, hu⟩ : ∃ u, u = (L.getD i default).2 := ⟨_, rfl⟩
      rw [← hu] at hget HCR
      have HSET := Lib.hid (Pl.setL_old (now := now) (by have := HLATE.out; omega) hget)
      rw [← HT.out] at HSET
      have HIN := Lib.hid hi
      have z0 : (0 : Int) ≤ (i : Int) := Int.natCast_nonneg _
      have z3 : (i : Int) < (n : Int) := Int.ofNat_lt.2 (by have := HN.out; omega)
      have z4 : decide ((i : Int) ≥ 0) = true := decide_eq_true z0
      have z5 : decide ((0 : Int) ≤ (i : Int)) = true := decide_eq_true z0
      have z6 : decide ((i : Int) < 0) = false := decide_eq_false (by omega)
      have z7 : decide (0 ≤ i) = true := decide_eq_true (Nat.zero_le _)
      clear hc hget hu hk hi
      go_wp2_with fail
      rw [← HW1.out]
      clear c0
      obtain ⟨c0, d0, d1⟩ := HCQ.out W1 (Below.refl _ _)
      obtain ⟨a0, a1⟩ := HCR.out W1 (Below.refl _ _)
      by_cases hut : t < u
      · have y1 : decide (u > t) = true := decide_eq_true hut
        have y2 : decide (t < u) = true := decide_eq_true hut
        rw [if_pos hut] at HSET
        clear hut
        go_quiet (fail)
        obtain ⟨w2, hw2⟩ : ∃ z, z = W1.drewN nq := ⟨_, rfl⟩
        rw [← hw2]
        have hb2 : Below W1.heap.size W1 w2 := by rw [hw2]; exact below_drewN (Below.refl _ _) _
        clear hw2 c0 d0 d1 a0 a1
        obtain ⟨c0, d0, d1⟩ := HCQ.out w2 hb2
        obtain ⟨a0, a1⟩ := HCR.out w2 hb2
        have f0 := frozen_of_row w2 w.heap.size 0 _ _ (below_old hb2 HP.out (lt_of_block HP.out))
        have f1 := frozen_of_row w2 w.heap.size 1 _ _ (below_old hb2 HP.out (lt_of_block HP.out))
        have hbw := below_then HBW.out hb2
        have HB3 := Lib.hid ((((Tn.of (fun i => i = w.heap.size) hbw).set_ (p := ⟨w.heap.size, 0, none⟩) (Or.inr rfl) (.int .u32 x)).set_ (p := ⟨w.heap.size, 1, none⟩) (Or.inr rfl) (.int .u64 u)).below (Below.refl w.heap.size w) (Nat.le_refl _) (fun i e => by rw [e]; exact Nat.le_refl _))
        have hl3 := HL.out.then_ HB3.out
        clear hb2 hbw
        have HLY := Lib.hid (lay_any hl3 (by have := HSL.out; omega) (Nat.le_trans HBB.out HB3.out.size) x u)
        clear hl3
        go_wp2_with fail
        refine HLY.out.mono ?_
        rintro e w9 ⟨A9, c9, rfl, h9, ht9⟩
        have H9 := Lib.hid h9
        have HT9 := Lib.hid ht9
        clear h9 ht9 HLY
        go_wp2_with fail
        go_ret
        rw [HSET.out]
        exact ⟨A9, c9, rfl, H9.out, (Tn.of (fun i => i = q) HB3.out).trans HT9.out (fun _ _ x => x)⟩
      · have y1 : decide (u > t) = false := decide_eq_false hut
        have y2 : decide (t < u) = false := decide_eq_false hut
        rw [if_neg hut] at HSET
        clear hut
        go_quiet (fail)
        obtain ⟨w3, hw3⟩ : ∃ z, z = W1.drewN nq := ⟨_, rfl⟩
        rw [← hw3]
        have hb3 : Below W1.heap.size W1 w3 := by rw [hw3]; exact below_drewN (Below.refl _ _) _
        clear hw3 c0 d0 d1 a0 a1
        obtain ⟨c0, d0, d1⟩ := HCQ.out w3 hb3
        have HB3 := Lib.hid (below_then HBW.out hb3)
        have hl3 := HL.out.then_ HB3.out
        clear hb3
        have HLY := Lib.hid (lay_any hl3 (by have := HSL.out; omega) (Nat.le_trans HBB.out HB3.out.size) x t)
        clear hl3
        go_wp2_with fail
        refine HLY.out.mono ?_
        rintro e w9 ⟨A9, c9, rfl, h9, ht9⟩
        have H9 := Lib.hid h9
        have HT9 := Lib.hid ht9
        clear h9 ht9 HLY
        go_wp2_with fail
        go_ret
        rw [HSET.out]
        exact ⟨A9, c9, rfl, H9.out, (Tn.of (fun i => i = q) HB3.out).trans HT9.out (fun _ _ x => x)⟩
/-- a new row laid into the document's leases -/
theorem RefL.laid {w w5 : World} {B q c m c5 : Nat} {A A5 : Option Addr} {L X : Pl.Mks} (h : RefL w B q A c L) (hB : B ≤ w.heap.size) (ho : OwnLr w5 w.heap.size (.slice A5 m c5) X) (hb : Below w.heap.size w w5) (hm : m = X.length) :
    RefL (w5.setCell ⟨q, 0, none⟩ (.slice A5 m c5)) B q A5 c5 X ∧ Tn (fun i => i = q) w (w5.setCell ⟨q, 0, none⟩ (.slice A5 m c5)) := by
  have hq : ∀ g, Value.ownBlock (.slice A5 m c5) = some g → g ≠ q := fun g hg => by have := (OwnR.lt ho g hg).1; have := h.lt; omega
  have hblk := blk_set (i := 0) (h.then_ hb).blk (.slice A5 m c5)
  have h1 := OwnR.tn ho ((Tn.refl (fun i => i = q) w5).set_ (p := ⟨q, 0, none⟩) (Or.inr rfl) (.slice A5 m c5)) (fun g hg e => hq g hg e)
  refine ⟨⟨h.q_, ?_, ?_, ?_⟩, (Tn.of (fun i => i = q) hb).set_ (p := ⟨q, 0, none⟩) (Or.inr rfl) _⟩
  · rw [← hm]; exact hblk
  · rw [← hm]; exact OwnR.lower h1 hB
  · rw [← hm]; exact hq
theorem slice_ls_to (A : Option Addr) (n c k : Nat) (hk : k ≤ c) : ∀ w', (Instr.sliceAt 22 (.slice A n c) none (some (.int .i64 (k : Int))) none).run Try.prog w' = .ok (.slice A k c) w' := by
  intro w'
  obtain ⟨i0, hi, _⟩ := info_parts infoLr
  have hu : Try.prog.underlying 22 = some (.slice (Try.prog.elem 22)) := by kernel_rfl
  have he : Try.prog.elem 22 = 29 := by kernel_rfl
  rw [run_sliceAt_slice w' _ _ _ _ _ hu, run_slice_h w' 22 A n c hu .i64 (k : Int) (by omega) (by omega), he, run_sizeOf w' hi]
  simp only [Result.andThen, sliced, Int.toNat_natCast, Nat.zero_mul, Nat.sub_zero]
  congr 2
  split
  · rfl
  · cases A <;> rfl
theorem cellsLr : Try.prog.cellsOf 29 = 2 := by kernel_rfl
theorem slice_ls_from (A : Option Addr) (n c k : Nat) (hk : k ≤ n) : ∀ w', (Instr.sliceAt 22 (.slice A n c) (some (.int .i64 (k : Int))) none none).run Try.prog w' = .ok (.slice (if c = k then A else A.map (·.add (k * 2))) (n - k) (c - k)) w' := by
  intro w'
  obtain ⟨i0, hi, _⟩ := info_parts infoLr
  have hu : Try.prog.underlying 22 = some (.slice (Try.prog.elem 22)) := by kernel_rfl
  have he : Try.prog.elem 22 = 29 := by kernel_rfl
  rw [run_sliceAt_slice w' _ _ _ _ _ hu, run_slice_l w' 22 A n c hu .i64 (k : Int) (by omega) (by omega), he, run_sizeOf w' hi]
  simp only [Result.andThen, sliced, Int.toNat_natCast, cellsLr]
theorem Rws.upto {α : Type} {enc : α → List Value} {k : Nat} (hk : ∀ x, (enc x).length = k) {w : World} {B n c i : Nat} {A : Option Addr} {l : List α} (h : Rws enc w B A n c l) (hi : i ≤ n) : Rws enc w B A i c (l.take i) := by
  have hl := h.len
  have hle := h.le
  refine ⟨by rw [List.length_take]; omega, by omega, h.cap, h.nil_, fun h0 => ?_⟩
  obtain ⟨g, o, e, hg, hc⟩ := h.2.2.2.2 (by omega)
  refine ⟨g, o, e, hg, fun j u hj => hc j u ?_⟩
  rw [← cellsR_take hk, List.getElem?_take] at hj
  split at hj
  · exact hj
  · cases hj
theorem Rws.from_ {α : Type} {enc : α → List Value} {k : Nat} (hk : ∀ x, (enc x).length = k) {w : World} {B n c i : Nat} {A : Option Addr} {l : List α} (h : Rws enc w B A n c l) (hi : i ≤ n) : Rws enc w B (if c = i then A else A.map (·.add (i * k))) (n - i) (c - i) (l.drop i) := by
  have := h.part hk hi (Nat.le_refl n)
  rwa [List.take_of_length_le (by rw [List.length_drop, h.len]; omega)] at this


set_option maxRecDepth 100000 in
set_option maxHeartbeats 2000000 in
theorem rdrop_any {w : World} {B q c : Nat} {A : Option Addr} {L : Pl.Mks} (h : RefL w B q A c L) (hr : Pl.Rising L) (hs : L.length ≤ 900000) (hB : B ≤ w.heap.size) (x : Int) :
    Calls Try.prog 14 #[.pointer (some ⟨q, 0, none⟩), .int .u32 x] w fun e w' => ∃ A' c', e = .returned (.int .i64 (Pl.dropL L x).1) ∧ RefL w' B q A' c' (Pl.dropL L x).2 ∧ Tn (fun i => i = q) w w' := by
  have HA := Lib.hid (at_any h x)
  have HL := Lib.hid h
  have HR := Lib.hid hr
  have HBB := Lib.hid hB
  obtain ⟨n, hn⟩ : ∃ n, n = L.length := ⟨_, rfl⟩
  have HN := Lib.hid hn
  have c0 := h.cell
  rw [← hn] at c0 hs
  clear h hr hB hn
  go_enter Try.func14, Try.ntmps14
  go_wp2_with fail
  refine HA.out.mono ?_
  rintro e w' ⟨k, rfl, hk, hww⟩
  rw [hww]
  clear hww w' HA
  rcases hk with ⟨rfl, hk⟩ | ⟨i, rfl, hi, hk⟩
  · have HE := Lib.hid (show Pl.dropL L x = (6, L) from if_pos (Pl.get_none.2 hk))
    clear hk
    go_wp2_with fail
    go_ret
    rw [HE.out]
    exact ⟨A, c, rfl, HL.out, Tn.refl _ _⟩
  · have HE := Lib.hid (show Pl.dropL L x = (0, L.take i ++ L.drop (i + 1)) from by
      have hg := Pl.idx_get HR.out hi
      rw [hk] at hg
      unfold Pl.dropL
      rw [if_neg (by rw [hg]; simp), ← Pl.del_at HR.out hi, hk])
    have hin : i < n := by have := HN.out; omega
    have z0 : decide ((i : Int) < 0) = false := decide_eq_false (by omega)
    have hrw := HL.out.rws
    rw [← HN.out] at hrw
    have hle := hrw.le
    have s1 := slice_ls_to A n c i (by omega)
    have s2 := slice_ls_from A n c (i + 1) (by omega)
    have hwi : wrap64 ((i : Int) + 1) = ((i + 1 : Nat) : Int) := by unfold wrap64; omega
    have HR1 := Lib.hid (show ∀ wr, Below w.heap.size w wr → Rws encLs wr wr.heap.size A i c (L.take i) from fun wr hb => Rws.upto encLs_len (Rws.then_ hrw hb) (by omega))
    have HR2 := Lib.hid (show ∀ wr, Below w.heap.size w wr → Rws encLs wr wr.heap.size (if c = i + 1 then A else A.map (·.add ((i + 1) * 2))) (n - (i + 1)) (c - (i + 1)) (L.drop (i + 1)) from fun wr hb => Rws.from_ encLs_len (Rws.then_ hrw hb) (by omega))
    obtain ⟨A3, hA3⟩ : ∃ z, z = if c = i + 1 then A else A.map (·.add ((i + 1) * 2)) := ⟨_, rfl⟩
    obtain ⟨m3, hm3⟩ : ∃ z, z = n - (i + 1) := ⟨_, rfl⟩
    obtain ⟨c3, hc3⟩ : ∃ z, z = c - (i + 1) := ⟨_, rfl⟩
    rw [← hA3, ← hm3, ← hc3] at HR2 s2
    obtain ⟨i1, hi1⟩ : ∃ z, z = i + 1 := ⟨_, rfl⟩
    rw [← hi1] at hwi s2
    have HI := Lib.hid (And.intro hi1 (And.intro hm3 hin))
    have s3 := s2
    rw [show ((i1 : Nat) : Int) = (i : Int) + 1 by omega] at s3
    have hm9 : m3 ≤ 900000 := by omega
    have hi9 : i ≤ 900000 := by omega
    clear hk hi hrw hle hA3 hm3 hc3 hi1 hin
    have HM := Lib.hid (show i + m3 = (L.take i ++ L.drop (i + 1)).length by rw [List.length_append, List.length_take, List.length_drop]; have := HI.out; have := HN.out; omega)
    go_wp2_with (first | (at_builtin; refine wpList_append_ls _ rfl _ _ rfl w.heap.size none 0 0 [] rfl (OwnR.nil_ _ _ _ _ _) _ _ _ _ (L.take i) rfl (HR1.out w (Below.refl _ _)) (by omega) (Nat.le_refl _) ?_; intro A5 c5 w5 ho5 hg5; have hb5 := (Below.refl w.heap.size w).grown hg5 (Nat.le_refl _) (fun k e => by cases e); rw [Nat.zero_add, List.nil_append] at ho5; rw [Nat.zero_add]; have HB5 := Lib.hid hb5; have HO5 := Lib.hid ho5; have c1 := (HL.out.then_ hb5).cell; rw [← HN.out] at c1; clear c0 hb5 ho5 hg5) | (at_builtin; refine wpList_append_ls _ rfl _ _ rfl w.heap.size _ _ _ (L.take i) rfl HO5.out _ _ _ _ (L.drop (i + 1)) rfl (HR2.out w5 HB5.out) (by omega) HB5.out.size ?_; intro A6 c6 w6 ho6 hg6; have HB6 := Lib.hid (HB5.out.grown hg6 HB5.out.size (fun k e => (OwnR.lt HO5.out k e).1)); have HF := Lib.hid (HL.out.laid HBB.out ho6 HB6.out HM.out); have f2 := frozen_of_row w6 q 0 _ _ (HL.out.then_ HB6.out).blk; have c2 := (HL.out.then_ HB6.out).cell; clear ho6 hg6) | fail)
    go_ret
    rw [HE.out]
    exact ⟨A6, c6, rfl, HF.out.1, HF.out.2⟩
/-- between one and the next of Expire -/
def ExI (w : World) (B q : Nat) (L : Pl.Mks) (n : Nat) (cs : List Int) (i : Value) (wr : World) : Prop := ∃ (j : Nat) (A : Option Addr) (c : Nat), i = .int .i64 (j : Int) ∧ j ≤ n ∧ RefL wr B q A c (Pl.dropsM L (cs.take j)) ∧ Tn (fun i => i = q) w wr
theorem drops_snoc {cs : List Int} {j : Nat} (hj : j < cs.length) (L : Pl.Mks) : Pl.dropsM L (cs.take (j + 1)) = Pl.delM (Pl.dropsM L (cs.take j)) (cs.getD j 0) := by
  unfold Pl.dropsM
  rw [List.take_succ_eq_append_getElem hj, List.foldl_append, List.getD_eq_getElem?_getD, List.getElem?_eq_getElem hj]
  rfl
theorem drops_len (cs : List Int) : ∀ L : Pl.Mks, (Pl.dropsM L cs).length ≤ L.length := by
  induction cs with
  | nil => intro L; exact Nat.le_refl _
  | cons c r ih => intro L; exact Nat.le_trans (ih _) (Pl.len_del_le L c)
theorem dropL_two (L : Pl.Mks) (x : Int) : (Pl.dropL L x).2 = Pl.delM L x := by
  unfold Pl.dropL
  split
  · rename_i h
    exact (List.filter_eq_self.2 fun p hp => by have := Pl.get_none.1 h p hp; simpa using this).symm
  · rfl
set_option maxRecDepth 100000 in
set_option maxHeartbeats 2000000 in
theorem rexpire_any {w : World} {B q c : Nat} {A : Option Addr} {L : Pl.Mks} (h : RefL w B q A c L) (hr : Pl.Rising L) (hs : L.length ≤ 900000) (hB : B ≤ w.heap.size) (now : Int) :
    Calls Try.prog 17 #[.pointer (some ⟨q, 0, none⟩), .int .u64 now] w fun e w' => ∃ A' c' A2 c2, e = .returned (.slice A2 (Pl.whichM false now L).length c2) ∧ OwnCl w' w.heap.size (.slice A2 (Pl.whichM false now L).length c2) (Pl.whichM false now L) ∧ RefL w' B q A' c' (Pl.thereM now L) ∧ Tn (fun i => i = q) w w' := by
  have HW := Lib.hid (which_any h (by omega) false now)
  unfold RetC at HW
  obtain ⟨cs, hcs⟩ : ∃ z, z = Pl.whichM false now L := ⟨_, rfl⟩
  have HD := Lib.hid (Pl.drops_which hr now)
  have HCL := Lib.hid (show cs.length ≤ 900000 by
    rw [hcs]; unfold Pl.whichM
    rw [List.length_map]
    exact Nat.le_trans (List.length_filter_le _ _) hs)
  rw [← hcs] at HW HD ⊢
  have HL := Lib.hid h
  have HR := Lib.hid hr
  have HS := Lib.hid hs
  have HBB := Lib.hid hB
  obtain ⟨n, hn⟩ : ∃ n, n = cs.length := ⟨_, rfl⟩
  have HN := Lib.hid hn
  rw [← hn] at HW HCL ⊢
  have hn9 := HCL.out
  clear h hr hs hB hcs hn
  go_enter Try.func17, Try.ntmps17
  go_wp2_with fail
  refine HW.out.mono ?_
  rintro e w1 ⟨A1, c1, rfl, ho1, hb1⟩
  have HO1 := Lib.hid ho1
  have HB1 := Lib.hid hb1
  have HX := Lib.hid (show ExI w1 B q L n cs (.int .i64 ((0 : Nat) : Int)) w1 from ⟨0, A, c, rfl, Nat.zero_le _, HL.out.then_ hb1, Tn.refl _ _⟩)
  have HG := Lib.hid (show ∀ g, Value.ownBlock (.slice A1 n c1) = some g → g ≠ q from fun g hg => by have := (OwnR.lt ho1 g hg).1; have := HL.out.lt; omega)
  clear ho1 hb1 HW
  go_wp2_with fail
  go_loopw [6] (fun i wr => ExI w1 B q L n cs i wr) (fun i _ => n - (intOf i).toNat)
  case atStart => exact HX.out
  case round =>
    obtain ⟨j, A2, c2, rfl, hj, hl, ht⟩ := hrel
    have HLJ := Lib.hid hl
    have HTJ := Lib.hid ht
    by_cases hlt : j < n
    · have hjc : j < cs.length := by rw [← HN.out]; exact hlt
      have hrow := (OwnR.rws encC_len (OwnR.tn HO1.out ht (fun g hg e => HG.out g hg e))).2
      obtain ⟨g, o, rfl, _, hc⟩ := Rws.at_ encC_len hrow hlt
      have a0 := hc j hlt 0 _ (by decide) rfl
      have hsn := drops_snoc hjc L
      obtain ⟨x, hx⟩ : ∃ x, x = cs.getD j 0 := ⟨_, rfl⟩
      rw [show cs.getD j default = cs.getD j 0 from rfl, ← hx] at a0
      rw [← hx] at hsn
      simp only [Nat.mul_one, Nat.add_zero] at a0
      have z0 : (0 : Int) ≤ (j : Int) := Int.natCast_nonneg _
      have z1 : (j : Int) < (n : Int) := Int.ofNat_lt.2 hlt
      have HMS := Lib.hid (show n - (j + 1) < n - j by omega)
      have HSN := Lib.hid hsn
      have HDR := Lib.hid (rdrop_any hl (Pl.rising_drops _ HR.out) (by have := drops_len (cs.take j) L; have := HS.out; omega) (by have := HBB.out; have := HB1.out.size; have := ht.size; omega) x)
      rw [dropL_two] at HDR
      clear hl ht hrow hc hx hsn hjc
      go_wp2_with fail
      refine HDR.out.mono ?_
      rintro e w5 ⟨A5, c5, rfl, h5, ht5⟩
      have H5 := Lib.hid h5
      have HT5 := Lib.hid ht5
      clear h5 ht5 HDR
      go_wp2_with fail
      go_roundw
      case rel => exact ⟨j + 1, A5, c5, by go_num, hlt, by rw [HSN.out]; exact H5.out, HTJ.out.trans HT5.out (fun _ _ x => x)⟩
      case measure => simp [intOf]; (have := HMS.out; omega)
    · have hjn : j = n := by omega
      have he : cs.take j = cs := by rw [hjn, HN.out, List.take_length]
      rw [he, HD.out] at hl
      have HE := Lib.hid hl
      have HOE := Lib.hid (OwnR.tn HO1.out ht (fun g hg e => HG.out g hg e))
      clear hl ht he
      go_wp2_with fail
      go_ret
      exact ⟨A2, c2, A1, c1, rfl, HOE.out, HE.out, (Tn.of (fun i => i = q) HB1.out).trans HTJ.out (fun _ _ x => x)⟩
/-- what New makes, or its error -/
def Pl.newL (l : Pl.Mks) : Int := if (Pl.makeM l []).1 ≠ 0 then (Pl.makeM l []).1 else if 16 < l.length then 7 else 0
theorem make_at {l : Pl.Mks} {j : Nat} (hj : j < l.length) (M : Pl.Mks) : Pl.makeM (l.drop j) M = if (Pl.getM M (l.getD j default).1).isSome = true ∨ 1099511627840 < (l.getD j default).2 then (1, M) else Pl.makeM (l.drop (j + 1)) (Pl.putM M (l.getD j default).1 (l.getD j default).2) := by
  have e : l.drop j = l.getD j default :: l.drop (j + 1) := by
    rw [List.drop_eq_getElem_cons hj, List.getD_eq_getElem?_getD, List.getElem?_eq_getElem hj]
    rfl
  rw [e]
  rfl
/-- between one and the next of New -/
def NwI (w : World) (q n : Nat) (l : Pl.Mks) (i : Value) (wr : World) : Prop := ∃ (j : Nat) (A : Option Addr) (c : Nat) (M : Pl.Mks), i = .int .i64 (j : Int) ∧ j ≤ n ∧ RefL wr w.heap.size q A c M ∧ Pl.makeM l [] = Pl.makeM (l.drop j) M ∧ Pl.Rising M ∧ M.length ≤ j ∧ Below w.heap.size w wr
/-- what the document's New tells -/
def RetNw (w : World) (l : Pl.Mks) (e : Ending) (w' : World) : Prop :=
  (Pl.newL l = 0 → ∃ q A c, e = .returned (.tuple #[.pointer (some ⟨q, 0, none⟩), .int .i64 0]) ∧ RefL w' w.heap.size q A c (Pl.makeM l []).2 ∧ (Pl.makeM l []).2.length ≤ l.length) ∧ (Pl.newL l ≠ 0 → e = .returned (.tuple #[.pointer none, .int .i64 (Pl.newL l)])) ∧ Below w.heap.size w w'
theorem RetNw.bad {w w' : World} {l M : Pl.Mks} (h : Pl.makeM l [] = (1, M)) (hb : Below w.heap.size w w') : RetNw w l (.returned (.tuple #[.pointer none, .int .i64 1])) w' := by
  have e : Pl.newL l = 1 := by unfold Pl.newL; rw [h]; exact if_pos (by simp)
  refine ⟨fun h0 => ?_, fun _ => by rw [e], hb⟩
  rw [e] at h0
  exact absurd h0 (by decide)
theorem RetNw.full {w w' : World} {l M : Pl.Mks} (h : Pl.makeM l [] = (0, M)) (hl : 16 < l.length) (hb : Below w.heap.size w w') : RetNw w l (.returned (.tuple #[.pointer none, .int .i64 7])) w' := by
  have e : Pl.newL l = 7 := by unfold Pl.newL; rw [h, if_neg (by simp), if_pos hl]
  refine ⟨fun h0 => ?_, fun _ => by rw [e], hb⟩
  rw [e] at h0
  exact absurd h0 (by decide)
theorem RetNw.ok {w w' : World} {l M : Pl.Mks} {q c : Nat} {A : Option Addr} (h : Pl.makeM l [] = (0, M)) (hl : ¬ 16 < l.length) (hr : RefL w' w.heap.size q A c M) (hm : M.length ≤ l.length) (hb : Below w.heap.size w w') : RetNw w l (.returned (.tuple #[.pointer (some ⟨q, 0, none⟩), .int .i64 0])) w' := by
  have e : Pl.newL l = 0 := by unfold Pl.newL; rw [h, if_neg (by simp), if_neg hl]
  exact ⟨fun _ => ⟨q, A, c, rfl, by rw [h]; exact hr, by rw [h]; exact hm⟩, fun h0 => absurd e h0, hb⟩
set_option maxRecDepth 100000 in
set_option maxHeartbeats 2000000 in
theorem rnew_any {w : World} {A : Option Addr} {n c : Nat} {l : Pl.Mks} (h : Rws encLs w w.heap.size A n c l) (hs : n ≤ 1000) :
    Calls Try.prog 9 #[.slice A n c] w (RetNw w l) := by
  have HLR := Lib.hid h
  have HN := Lib.hid h.len
  obtain ⟨q, hq⟩ : ∃ q, q = w.heap.size := ⟨_, rfl⟩
  obtain ⟨W1, hW1⟩ : ∃ W1, W1 = w.alloc (.cells #[.slice none 0 0] 51) := ⟨_, rfl⟩
  have hb1 : Below w.heap.size w W1 := by rw [hW1]; exact below_alloc (Below.refl _ _) _
  have hR1 : RefL W1 w.heap.size q none 0 [] := ⟨by rw [hq]; exact Nat.le_refl _, by rw [hW1, hq]; exact heap_new rfl, OwnR.nil_ _ _ _ _ _, fun g hg => by cases hg⟩
  have HW1 := Lib.hid hW1
  have HQ := Lib.hid hq
  have HX := Lib.hid (show NwI w q n l (.int .i64 ((0 : Nat) : Int)) W1 from ⟨0, none, 0, [], rfl, Nat.zero_le _, hR1, rfl, Pl.rising_nil, Nat.le_refl _, hb1⟩)
  clear h hq hW1 hb1 hR1
  go_enter Try.func9, Try.ntmps9
  go_wp2_with fail
  rw [← HW1.out, ← HQ.out]
  go_loopw [5] (fun i wr => NwI w q n l i wr) (fun i _ => n - (intOf i).toNat)
  case atStart => exact HX.out
  case round =>
    obtain ⟨j, A2, c2, M, rfl, hj, hl, hmk, hr, hml, hb⟩ := hrel
    have HL := Lib.hid hl
    have HB := Lib.hid hb
    have HR := Lib.hid hr
    have HML := Lib.hid hml
    by_cases hlt : j < n
    · have hjl : j < l.length := by rw [HN.out]; exact hlt
      have hrw := Rws.then_ HLR.out hb
      obtain ⟨g, o, rfl, _, hc⟩ := Rws.at_ encLs_len hrw hlt
      have a0 := hc j hlt 0 _ (by decide) rfl
      have a1 := hc j hlt 1 _ (by decide) rfl
      have hat := make_at hjl M
      obtain ⟨⟨x, v⟩, hx⟩ : ∃ p, p = l.getD j default := ⟨_, rfl⟩
      rw [← hx] at a0 a1 hat
      simp only [Nat.add_zero, ← Nat.add_assoc] at a0 a1 hat
      rw [← hmk] at hat
      have z0 : (0 : Int) ≤ (j : Int) := Int.natCast_nonneg _
      have z1 : (j : Int) < (n : Int) := Int.ofNat_lt.2 hlt
      have HMS := Lib.hid (show n - (j + 1) < n - j by omega)
      have HAT := Lib.hid hat
      have HA := Lib.hid (at_any hl x)
      clear hl hb hr hml hmk hrw hc hx hat hjl
      go_wp2_with fail
      refine HA.out.mono ?_
      rintro e w5 ⟨k, rfl, hk, hw⟩
      rw [hw]
      clear hw w5 HA
      rcases hk with ⟨rfl, hk⟩ | ⟨i, rfl, hi, hk⟩
      · by_cases hv : 1099511627840 < v
        · have y1 : decide (v > 1099511627840) = true := decide_eq_true hv
          have y2 : decide (1099511627840 < v) = true := decide_eq_true hv
          have HE := Lib.hid (show Pl.makeM l [] = (1, M) by rw [HAT.out, if_pos (.inr hv)])
          clear hk hv
          go_wp2_with fail
          go_returns
          exact RetNw.bad HE.out HB.out
        · have y1 : decide (v > 1099511627840) = false := decide_eq_false hv
          have y2 : decide (1099511627840 < v) = false := decide_eq_false hv
          have hn : ¬ ((Pl.getM M x).isSome = true ∨ 1099511627840 < v) := fun h => h.elim (fun h => by rw [Pl.get_none.2 hk] at h; cases h) hv
          have HE := Lib.hid (show Pl.makeM l [] = Pl.makeM (l.drop (j + 1)) (Pl.putM M x v) by rw [HAT.out, if_neg hn])
          have HLY := Lib.hid (lay_any HL.out (by have := HML.out; omega) HB.out.size x v)
          clear hk hv hn
          go_wp2_with fail
          refine HLY.out.mono ?_
          rintro e w6 ⟨A6, c6, rfl, h6, ht6⟩
          have H6 := Lib.hid h6
          have HB6 := Lib.hid (ht6.below HB.out HB.out.size (fun i e => by rw [e]; exact HL.out.q_))
          have HM6 := Lib.hid (show (Pl.putM M x v).length ≤ j + 1 by have := Pl.len_put_le M x v; have := HML.out; omega)
          clear h6 ht6 HLY
          go_wp2_with fail
          go_roundw
          case rel => exact ⟨j + 1, A6, c6, _, by go_num, hlt, H6.out, HE.out, Pl.rising_put HR.out _ _, HM6.out, HB6.out⟩
          case measure => simp [intOf]; (have := HMS.out; omega)
      · have y0 : decide ((i : Int) ≥ 0) = true := decide_eq_true (Int.natCast_nonneg _)
        have y1 : decide ((0 : Int) ≤ (i : Int)) = true := decide_eq_true (Int.natCast_nonneg _)
        have y2 : decide (0 ≤ i) = true := decide_eq_true (Nat.zero_le _)
        have HE := Lib.hid (show Pl.makeM l [] = (1, M) by
          have hg := Pl.idx_get HR.out hi
          rw [hk] at hg
          rw [HAT.out, if_pos (.inl (by rw [hg]; rfl))])
        clear hk hi
        go_wp2_with fail
        go_returns
        exact RetNw.bad HE.out HB.out
    · have hjn : j = n := by omega
      have he : l.drop j = [] := by rw [hjn, ← HN.out, List.drop_length]
      rw [he] at hmk
      have HE := Lib.hid (show Pl.makeM l [] = (0, M) from hmk)
      clear hl hb hr hml hmk he
      by_cases hf : 16 < n
      · have y1 : decide ((n : Int) > 16) = true := decide_eq_true (by omega)
        have y2 : decide ((16 : Int) < (n : Int)) = true := decide_eq_true (by omega)
        have HF := Lib.hid (show 16 < l.length by rw [HN.out]; exact hf)
        clear hf
        go_wp2_with fail
        go_returns
        exact RetNw.full HE.out HF.out HB.out
      · have y1 : decide ((n : Int) > 16) = false := decide_eq_false (by omega)
        have y2 : decide ((16 : Int) < (n : Int)) = false := decide_eq_false (by omega)
        have HF := Lib.hid (show ¬ 16 < l.length by rw [HN.out]; exact hf)
        have HM6 := Lib.hid (show M.length ≤ l.length by have := HML.out; have := HN.out; omega)
        clear hf
        go_wp2_with fail
        go_returns
        exact RetNw.ok HE.out HF.out HL.out HM6.out HB.out
end Go.Proofs.Ytjplchajopkpcaa
