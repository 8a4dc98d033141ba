/-
  Contract of the document's own Pieces. Conditions: at most a million code points; places below 2^31.
-/
import Derived.Test.YtogmddneimhpeaaRefC
import Derived.Test.YtogmddneimhpeaaPceC
import Derived.BigQuiet
namespace Go.Proofs.Ytogmddneimhpeaa
open Go.RowKit
open Pl (Pc Plc Tab On)

theorem infoPr : (Try.prog.info? 92).map (fun i => (i.zero, i.size, i.bytes)) = some (some (.agg #[.bool false, .int .i64 0, .int .i64 0]), 3, 24) := by kernel_rfl
/-- pieces of the document's own -/
abbrev OwnQ (w : World) (base : Nat) (v : Value) (ps : List Pc) : Prop := OwnR encP 3 92 w base v ps
theorem OwnQ.cells {w : World} {base g n c : Nat} {ps : List Pc} (h : OwnQ w base (.slice (some ⟨g, 0, none⟩) n c) ps) {i : Nat} (hi : i < n) :
    w.cell? ⟨g, i * 3, none⟩ = some (.bool (ps.getD i default).s) ∧ w.cell? ⟨g, i * 3 + 1, none⟩ = some (.int .i64 ((ps.getD i default).at_ : Int)) ∧ w.cell? ⟨g, i * 3 + 2, none⟩ = some (.int .i64 ((ps.getD i default).len : Int)) ∧ ∀ j, w.frozen? ⟨g, j, none⟩ = false := by
  obtain ⟨hn, _⟩ := OwnR.rws encP_len h
  have h' : w.ownsRow base 92 3 (.slice (some ⟨g, 0, none⟩) n c) n (cellsR encP ps) := by
    have h1 : w.ownsRow base 92 3 (.slice (some ⟨g, 0, none⟩) n c) ps.length (cellsR encP ps) := h
    rwa [← hn] at h1
  have hat := fun j (hj : j < 3) => (World.ownsRow.cellAt h' (i * 3 + j) (by omega)).trans (cellsR_at encP_len ps i j (by omega) hj)
  exact ⟨hat 0 (by decide), hat 1 (by decide), hat 2 (by decide), fun j => World.ownsRow.frozenAt h' j⟩
/-- what a call of Pieces hands back -/
def RetQ (w : World) (ps : List Pc) (e : Ending) (w' : World) : Prop := ∃ A c, e = .returned (.slice A ps.length c) ∧ OwnQ w' w.heap.size (.slice A ps.length c) ps ∧ Below w.heap.size w w'
/-- so far -/
def PcRel (w : World) (L : List Plc) (o i : Value) (wr : World) : Prop := ∃ (j : Nat) (A2 : Option Addr) (c2 : Nat), i = .int .i64 (j : Int) ∧ j ≤ L.length ∧ o = .slice A2 (Pl.group (L.take j)).length c2 ∧ OwnQ wr w.heap.size (.slice A2 (Pl.group (L.take j)).length c2) (Pl.group (L.take j)) ∧ Below w.heap.size w wr
set_option maxRecDepth 100000 in
set_option maxHeartbeats 2000000 in
theorem pieces_ref {w : World} {base r : Nat} {A : Option Addr} {n c : Nat} {t : Tab} {ad : Nat} (h : Rf w base r A n c (Pl.ones t) ad) (hn : n ≤ 1000000) (ht : ∀ q ∈ t.L, q.2 ≤ 2147483648) :
    Calls Try.prog 28 #[.pointer (some ⟨r, 0, none⟩)] w (RetQ w (Pl.group t.L)) := by
  have HH := Lib.hid h
  have HLN := Lib.hid (show t.L.length = n by rw [← Pl.len_ones]; exact h.rows.1.symm)
  have HAT := fun j (hj : j < n) => Lib.hid (show (Pl.ones t).getD j default = Pl.on_ t (t.L.getD j default) ∧ (t.L.getD j default).2 ≤ 2147483648 ∧ Pl.group (t.L.take (j + 1)) = Pl.lay (Pl.group (t.L.take j)) (Pl.one (t.L.getD j default)) from by
    have hl : j < t.L.length := by rw [HLN.out]; exact hj
    refine ⟨?_, ?_, ?_⟩
    · unfold Pl.ones
      rw [List.getD_eq_getElem?_getD, List.getD_eq_getElem?_getD, List.getElem?_map, List.getElem?_eq_getElem hl]; rfl
    · rw [List.getD_eq_getElem?_getD, List.getElem?_eq_getElem hl]; exact ht _ (List.getElem_mem _)
    · rw [← Pl.group_snoc, List.take_add_one, List.getD_eq_getElem?_getD, List.getElem?_eq_getElem hl]; rfl)
  have HGB := fun j => Lib.hid (show (Pl.group (t.L.take j)).length ≤ 1000000 from by
    have h1 := Pl.group_len (t.L.take j)
    have h2 : (t.L.take j).length ≤ t.L.length := by simp; omega
    have := HLN.out
    omega)
  have HGA := fun j => Lib.hid (show ∀ p ∈ Pl.group (t.L.take j), 1 ≤ p.len ∧ p.at_ + p.len ≤ 2147483649 from fun p hp => by
    have h1 := (Pl.group_nice (t.L.take j)).1 p hp
    have h2 := Pl.group_mem hp (p.len - 1) (by omega)
    have h3 := ht _ (List.mem_of_mem_take h2)
    simp only at h3
    omega)
  unfold RetQ
  have x0 := h.c0
  clear h ht
  go_enter Try.func28, Try.ntmps28
  go_wp2_with fail
  go_loopw [3, 4] (fun o i wr => PcRel w t.L o i wr) (fun _ i _ => n - (intOf i).toNat)
  case atStart => exact ⟨0, none, 0, rfl, Nat.zero_le _, rfl, OwnR.nil_ _ _ _ _ _, Below.refl _ _⟩
  case round =>
    obtain ⟨j, A2, c2, rfl, hj, rfl, hO, hb⟩ := hrel
    rw [HLN.out] at hj
    have HB := Lib.hid hb
    have y0 := (HH.out.then_ hb).c0
    clear x0
    by_cases hlt : j < n
    · obtain ⟨e1, e2, e3⟩ := (HAT j hlt).out
      obtain ⟨g, o, rfl, _, hc⟩ := Ons.at_ (HH.out.then_ hb).rows.2 hlt
      obtain ⟨z0, z1, z2⟩ := hc j hlt
      rw [e1] at z0 z1 z2
      obtain ⟨⟨s, a⟩, hq⟩ : ∃ q, q = t.L.getD j default := ⟨_, rfl⟩
      rw [← hq] at e2 e3 z0 z1 z2
      unfold Pl.on_ at z0 z1 z2
      simp only at z0 z1 z2 e2
      obtain ⟨z, hz⟩ : ∃ z, z = t.look (s, a) := ⟨_, rfl⟩
      rw [← hz] at z0
      obtain ⟨G, hG⟩ : ∃ G, G = Pl.group (t.L.take j) := ⟨_, rfl⟩
      have hGB := (HGB j).out
      have hGA := (HGA j).out
      rw [← hG] at hO e3 hGB hGA
      rw [← hG]
      obtain ⟨K, hK⟩ : ∃ K, K = G.length := ⟨_, rfl⟩
      rw [← hK] at hO hGB ⊢
      have HK := Lib.hid hK.symm
      have HO := Lib.hid hO
      obtain ⟨V, hV⟩ : ∃ V, V = wr.alloc (.cells #[.int .i32 z, .bool s, .int .i64 (a : Int)] 83) := ⟨_, rfl⟩
      have HBV := Lib.hid (show Below wr.heap.size wr V by rw [hV]; exact below_alloc (Below.refl _ _) _)
      have hz1 : (j : Int) < (n : Int) := by omega
      clear e1 hq hz hc hb
      have HVV := Lib.hid (show ∀ m, Below wr.heap.size wr (V.drewN m) ∧ (V.drewN m).heap[wr.heap.size]? = some (.cells #[.int .i32 z, .bool s, .int .i64 (a : Int)] 83 (0, 0)) from fun m => by
        have hb := HBV.out
        refine ⟨⟨hb.os, hb.tape, hb.output, hb.size, hb.block⟩, ?_⟩
        show V.heap[wr.heap.size]? = _
        rw [hV]; exact heap_new rfl)
      have HV := Lib.hid hV
      clear hV HBV
      rcases Nat.eq_zero_or_pos K with hK0 | hK0
      · have HGN := Lib.hid (show Pl.group (t.L.take (j + 1)) = G ++ [⟨s, a, 1⟩] from by
          rw [e3, show G = [] from List.eq_nil_of_length_eq_zero (by omega)]; rfl)
        have q1 : decide ((0 : Int) < (K : Int)) = false := decide_eq_false (by omega)
        have q2 : decide (0 < K) = false := decide_eq_false (by omega)
        clear e3 hG hO hK hGA hK0
        go_wp2_with fail
        go_quiet (fail)
        rw [← HV.out]
        obtain ⟨hbv, hpv⟩ := HVV.out nq
        obtain ⟨V2, hV2⟩ : ∃ V2, V2 = V.drewN nq := ⟨_, rfl⟩
        rw [← hV2] at hbv hpv ⊢
        have HBV := Lib.hid hbv
        have t1 := cell1 hpv
        have t2 := cell2 hpv
        clear hV2 hbv hpv
        have hOV := Lib.hid (show OwnQ (World.alloc V2 (.cells #[.bool s, .int .i64 (a : Int), .int .i64 1] 92)) w.heap.size (.slice A2 K c2) G from OwnR.alloc (OwnR.then_ HO.out HBV.out) _)
        have hS := Lib.hid (show Rws encP (World.alloc V2 (.cells #[.bool s, .int .i64 (a : Int), .int .i64 1] 92)) _ (some ⟨V2.heap.size, 0, none⟩) 1 1 [⟨s, a, 1⟩] from (OwnR.rws encP_len (OwnR.lit (e := 92) encP_len V2 [(⟨s, a, 1⟩ : Pc)] (by unfold maxLen; simp))).2)
        have HSZ := Lib.hid (show w.heap.size ≤ (World.alloc V2 (.cells #[.bool s, .int .i64 (a : Int), .int .i64 1] 92)).heap.size from by have := HB.out.size; have := HBV.out.size; simp; omega)
        have HBV2 := Lib.hid (show Below w.heap.size w (World.alloc V2 (.cells #[.bool s, .int .i64 (a : Int), .int .i64 1] 92)) from below_alloc (HB.out.trans (HBV.out.mono HB.out.size)) _)
        go_wp2_with (at_builtin; refine wpList_append_rws encP_len encP_one Try.underlying52 infoPr (by decide) (by decide) (World.alloc V2 (.cells #[.bool s, .int .i64 (a : Int), .int .i64 1] 92)) rfl (.tmp 65) (.tmp 71) rfl w.heap.size A2 K c2 G (by rfl) hOV.out _ (some ⟨V2.heap.size, 0, none⟩) 1 1 [⟨s, a, 1⟩] (by rfl) hS.out (by unfold maxLen; omega) (by omega) HSZ.out ?_)
        intro A5 c5 w5 hO5 hg5 _
        have HB5 := Lib.hid (OwnR.grownBelow hOV.out hg5 HBV2.out HSZ.out)
        have HO5 := Lib.hid hO5
        clear hO5 hg5
        go_wp2_with fail
        go_roundw
        case rel => exact ⟨j + 1, A5, c5, by go_num, by rw [HLN.out]; omega, by rw [HGN.out, List.length_append, HK.out]; rfl, by rw [HGN.out, List.length_append, HK.out]; exact HO5.out, HB5.out⟩
        case measure => simp [intOf]; omega
      · obtain ⟨K1, hK1⟩ : ∃ K1, K = K1 + 1 := ⟨K - 1, by omega⟩
        obtain ⟨g2, hA2, _, hg2⟩ := OwnR.pos_ hO hK0
        subst hA2
        obtain ⟨v0, v1, v2, vf⟩ := OwnQ.cells hO (i := K1) (by omega)
        obtain ⟨⟨s9, a9, l9⟩, hx9⟩ : ∃ x, x = G.getD K1 default := ⟨_, rfl⟩
        rw [← hx9] at v0 v1 v2
        simp only at v0 v1 v2
        have hmem : (⟨s9, a9, l9⟩ : Pc) ∈ G := by rw [hx9, List.getD_eq_getElem?_getD, List.getElem?_eq_getElem (by omega)]; exact List.getElem_mem _
        have hab := hGA _ hmem
        simp only at hab
        have hkk : (K : Int) - 1 = (K1 : Int) := by omega
        have hkw : IntKind.i64.wrap (K1 : Int) = (K1 : Int) := by rw [IntKind.wrap_i64]; omega
        have haw : IntKind.i64.wrap ((a9 : Int) + (l9 : Int)) = (a9 : Int) + (l9 : Int) := by rw [IntKind.wrap_i64]; omega
        have hK1K : K1 < K := by omega
        have hw0 : (0 : Int) ≤ (K1 : Int) := by omega
        have hw1 : (K1 : Int) < (K : Int) := by omega
        have q1 : decide ((0 : Int) < (K : Int)) = true := decide_eq_true (by omega)
        have q2 : decide (0 < K) = true := decide_eq_true (by omega)
        have v0' := Lib.cell?_alloc_some (.cells #[.int .i32 z, .bool s, .int .i64 (a : Int)] 83) v0
        have v1' := Lib.cell?_alloc_some (.cells #[.int .i32 z, .bool s, .int .i64 (a : Int)] 83) v1
        have v2' := Lib.cell?_alloc_some (.cells #[.int .i32 z, .bool s, .int .i64 (a : Int)] 83) v2
        have HGE := Lib.hid (show G[K1]? = some ⟨s9, a9, l9⟩ by rw [hx9, List.getD_eq_getElem?_getD, List.getElem?_eq_getElem (by omega)]; rfl)
        have HLY := Lib.hid (show (Pl.Fol ⟨s9, a9, l9⟩ (Pl.one (s, a)) → Pl.group (t.L.take (j + 1)) = G.set K1 ⟨s9, a9, l9 + 1⟩) ∧ (¬ Pl.Fol ⟨s9, a9, l9⟩ (Pl.one (s, a)) → Pl.group (t.L.take (j + 1)) = G ++ [⟨s, a, 1⟩]) from by
          rw [e3]
          refine ⟨fun hf => ?_, fun hf => ?_⟩
          · rw [lay_yes (k := K1) (by omega) (by rw [← hx9]; exact hf), ← hx9]; rfl
          · rw [lay_no (k := K1) (by omega) (by rw [← hx9]; exact hf)]; rfl)
        have HKE := Lib.hid hK1
        clear e3 hG hO hK hGA hK0 hx9 hmem hK1
        by_cases hs : s9 = s
        · obtain rfl : s = s9 := hs.symm
          have q6 : (s == s) = true := by simp
          by_cases hsum : (a9 : Int) + (l9 : Int) = (a : Int)
          · have q5 : ((a9 : Int) + (l9 : Int) == (a : Int)) = true := by rw [beq_iff_eq]; exact hsum
            have HGN := Lib.hid (HLY.out.1 ⟨rfl, by show a9 + l9 = a; omega⟩)
            go_wp2_with fail
            go_quiet (fail)
            rw [← HV.out]
            obtain ⟨hbv, hpv⟩ := HVV.out nq
            obtain ⟨V2, hV2⟩ : ∃ V2, V2 = V.drewN nq := ⟨_, rfl⟩
            rw [← hV2] at hbv hpv ⊢
            have HBV := Lib.hid hbv
            obtain ⟨u0, u1, u2, uf⟩ := OwnQ.cells (OwnR.then_ HO.out hbv) (i := K1) hK1K
            rw [List.getD_eq_getElem?_getD, HGE.out] at u0 u1 u2
            simp only [Option.getD_some] at u0 u1 u2
            have HO2 := Lib.hid (OwnR.set_ encP_len (OwnR.then_ HO.out hbv) K1 2 (.int .i64 ((l9 + 1 : Nat) : Int)) (by decide) ⟨s, a9, l9⟩ ⟨s, a9, l9 + 1⟩ HGE.out rfl)
            clear v0 v1 v2 v0' v1' v2' vf hV2 hbv hpv
            go_wp2_with fail
            go_roundw
            case rel =>
              refine ⟨j + 1, some ⟨g2, 0, none⟩, c2, by go_num, by rw [HLN.out]; omega, by rw [HGN.out, List.length_set, HK.out], ?_, ?_⟩
              · rw [HGN.out, List.length_set, HK.out]; exact HO2.out.1
              · exact (HB.out.trans (HBV.out.mono HB.out.size)).setCell (p := ⟨g2, K1 * 3 + 2, none⟩) (by have := OwnR.lt HO.out g2 rfl; exact this.1) _
            case measure => simp [intOf]; omega
          · have q5 : ((a9 : Int) + (l9 : Int) == (a : Int)) = false := by rw [beq_eq_false_iff_ne]; exact hsum
            have HGN := Lib.hid (HLY.out.2 (fun hf => hsum (by have := hf.2; simp only [Pl.one] at this; omega)))
            go_wp2_with fail
            go_quiet (fail)
            clear v0 v1 v2 v0' v1' v2' vf
            rw [← HV.out]
            obtain ⟨hbv, hpv⟩ := HVV.out nq
            obtain ⟨V2, hV2⟩ : ∃ V2, V2 = V.drewN nq := ⟨_, rfl⟩
            rw [← hV2] at hbv hpv ⊢
            have HBV := Lib.hid hbv
            have t1 := cell1 hpv
            have t2 := cell2 hpv
            clear hV2 hbv hpv
            have hOV := Lib.hid (show OwnQ (World.alloc V2 (.cells #[.bool s, .int .i64 (a : Int), .int .i64 1] 92)) w.heap.size (.slice (some ⟨g2, 0, none⟩) K c2) G from OwnR.alloc (OwnR.then_ HO.out HBV.out) _)
            have hS := Lib.hid (show Rws encP (World.alloc V2 (.cells #[.bool s, .int .i64 (a : Int), .int .i64 1] 92)) _ (some ⟨V2.heap.size, 0, none⟩) 1 1 [⟨s, a, 1⟩] from (OwnR.rws encP_len (OwnR.lit (e := 92) encP_len V2 [(⟨s, a, 1⟩ : Pc)] (by unfold maxLen; simp))).2)
            have HSZ := Lib.hid (show w.heap.size ≤ (World.alloc V2 (.cells #[.bool s, .int .i64 (a : Int), .int .i64 1] 92)).heap.size from by have := HB.out.size; have := HBV.out.size; simp; omega)
            have HBV2 := Lib.hid (show Below w.heap.size w (World.alloc V2 (.cells #[.bool s, .int .i64 (a : Int), .int .i64 1] 92)) from below_alloc (HB.out.trans (HBV.out.mono HB.out.size)) _)
            go_wp2_with (at_builtin; refine wpList_append_rws encP_len encP_one Try.underlying52 infoPr (by decide) (by decide) (World.alloc V2 (.cells #[.bool s, .int .i64 (a : Int), .int .i64 1] 92)) rfl (.tmp 65) (.tmp 71) rfl w.heap.size (some ⟨g2, 0, none⟩) K c2 G (by rfl) hOV.out _ (some ⟨V2.heap.size, 0, none⟩) 1 1 [⟨s, a, 1⟩] (by rfl) hS.out (by unfold maxLen; omega) (by omega) HSZ.out ?_)
            intro A5 c5 w5 hO5 hg5 _
            have HB5 := Lib.hid (OwnR.grownBelow hOV.out hg5 HBV2.out HSZ.out)
            have HO5 := Lib.hid hO5
            clear hO5 hg5
            go_wp2_with fail
            go_roundw
            case rel => exact ⟨j + 1, A5, c5, by go_num, by rw [HLN.out]; omega, by rw [HGN.out, List.length_append, HK.out]; rfl, by rw [HGN.out, List.length_append, HK.out]; exact HO5.out, HB5.out⟩
            case measure => simp [intOf]; omega
        · have q5 : (s9 == s) = false := by rw [beq_eq_false_iff_ne]; exact hs
          have HGN := Lib.hid (HLY.out.2 (fun hf => hs hf.1))
          go_wp2_with fail
          go_quiet (fail)
          clear v0 v1 v2 v0' v1' v2' vf
          rw [← HV.out]
          obtain ⟨hbv, hpv⟩ := HVV.out nq
          obtain ⟨V2, hV2⟩ : ∃ V2, V2 = V.drewN nq := ⟨_, rfl⟩
          rw [← hV2] at hbv hpv ⊢
          have HBV := Lib.hid hbv
          have t1 := cell1 hpv
          have t2 := cell2 hpv
          clear hV2 hbv hpv
          have hOV := Lib.hid (show OwnQ (World.alloc V2 (.cells #[.bool s, .int .i64 (a : Int), .int .i64 1] 92)) w.heap.size (.slice (some ⟨g2, 0, none⟩) K c2) G from OwnR.alloc (OwnR.then_ HO.out HBV.out) _)
          have hS := Lib.hid (show Rws encP (World.alloc V2 (.cells #[.bool s, .int .i64 (a : Int), .int .i64 1] 92)) _ (some ⟨V2.heap.size, 0, none⟩) 1 1 [⟨s, a, 1⟩] from (OwnR.rws encP_len (OwnR.lit (e := 92) encP_len V2 [(⟨s, a, 1⟩ : Pc)] (by unfold maxLen; simp))).2)
          have HSZ := Lib.hid (show w.heap.size ≤ (World.alloc V2 (.cells #[.bool s, .int .i64 (a : Int), .int .i64 1] 92)).heap.size from by have := HB.out.size; have := HBV.out.size; simp; omega)
          have HBV2 := Lib.hid (show Below w.heap.size w (World.alloc V2 (.cells #[.bool s, .int .i64 (a : Int), .int .i64 1] 92)) from below_alloc (HB.out.trans (HBV.out.mono HB.out.size)) _)
          go_wp2_with (at_builtin; refine wpList_append_rws encP_len encP_one Try.underlying52 infoPr (by decide) (by decide) (World.alloc V2 (.cells #[.bool s, .int .i64 (a : Int), .int .i64 1] 92)) rfl (.tmp 65) (.tmp 71) rfl w.heap.size (some ⟨g2, 0, none⟩) K c2 G (by rfl) hOV.out _ (some ⟨V2.heap.size, 0, none⟩) 1 1 [⟨s, a, 1⟩] (by rfl) hS.out (by unfold maxLen; omega) (by omega) HSZ.out ?_)
          intro A5 c5 w5 hO5 hg5 _
          have HB5 := Lib.hid (OwnR.grownBelow hOV.out hg5 HBV2.out HSZ.out)
          have HO5 := Lib.hid hO5
          clear hO5 hg5
          go_wp2_with fail
          go_roundw
          case rel => exact ⟨j + 1, A5, c5, by go_num, by rw [HLN.out]; omega, by rw [HGN.out, List.length_append, HK.out]; rfl, by rw [HGN.out, List.length_append, HK.out]; exact HO5.out, HB5.out⟩
          case measure => simp [intOf]; omega
    · have hjn : j = n := by omega
      have hT : t.L.take j = t.L := by rw [hjn, ← HLN.out, List.take_length]
      rw [hT] at hO ⊢
      have HO := Lib.hid hO
      clear hO hb hT
      go_wp2_with fail
      go_ret
      exact ⟨A2, c2, rfl, HO.out, HB.out⟩
end Go.Proofs.Ytogmddneimhpeaa
