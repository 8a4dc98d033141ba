/-
  doc's rows (the units of operations) and do (a unit laid into the table). Conditions: those that each states.
-/
import Derived.Test.YtldmnkakpmplnaaGreatUd40
import Derived.StillTailTactics
set_option maxRecDepth 100000
set_option linter.unusedVariables false
namespace Go.Proofs.YtldmnkakpmplnaaGreat
open Go.RowKit
open Pl (Un)
def encRV (q : RowV) : List Value := [q.val]
theorem encRV_len (q : RowV) : (encRV q).length = 1 := rfl
theorem encRV_one (q : RowV) : ∀ u ∈ encRV q, u.oneCell' = true := by
  intro u hu
  simp only [encRV, List.mem_singleton] at hu
  rw [hu]; rfl
theorem infoRV : (Tryz.prog.info? 29).map (fun i => (i.zero, i.size, i.bytes)) = some (some (.slice none 0 0), 1, 24) := by kernel_rfl
def rvOf (o : OpV) : RowV := ⟨o.A, o.n, o.c, o.l⟩
def RwI (w : World) (B : Nat) (L : List OpV) (s i : Value) (wr : World) : Prop := ∃ (j : Nat) (A : Option Addr) (c : Nat), i = .int .i64 (j : Int) ∧ s = .slice A j c ∧ j ≤ L.length ∧ OwnR encRV 1 29 wr B (.slice A j c) ((L.take j).map rvOf) ∧ Below w.heap.size w wr ∧ B = w.heap.size
set_option maxHeartbeats 1000000 in
theorem rows_any {w : World} {F : Nat → Prop} {A : Option Addr} {n c : Nat} {L : List OpV} (h : OpsF w F A n c L) (hn : n ≤ 1000) (hl : ∀ o ∈ L, o.l.length ≤ 1000) :
    Calls Tryz.prog 82 #[.slice A n c] w fun e w' => ∃ B d, e = .returned (.slice B (L.map rvOf).length d) ∧ RowsV w' B (L.map rvOf) ∧ (∀ a, 0 < (L.map rvOf).length → B = some a → w.heap.size ≤ a.block) ∧ Below w.heap.size w w' := by
  have HL := Lib.hid hl
  have hlen := h.1.len
  have HLN := Lib.hid hlen
  have HH := Lib.hid h
  clear h hl hlen
  go_enter Tryz.func82, Tryz.ntmps82
  go_wp2_with fail
  go_loopw [3, 8] (fun s i wr => RwI w w.heap.size L s i wr) (fun _ i _ => n - (intOf i).toNat)
  case atStart => exact ⟨0, none, 0, rfl, rfl, Nat.zero_le _, OwnR.nil_ _ _ _ _ _, Below.refl _ _, rfl⟩
  case round =>
    obtain ⟨j, A1, c1, rfl, rfl, hj, ho, hb, _⟩ := hrel
    have HO := Lib.hid ho
    have HB := Lib.hid hb
    clear ho hb
    by_cases hlt : j < n
    · have hjL : j < L.length := by rw [HLN.out]; exact hlt
      have z0 : (0 : Int) ≤ (j : Int) := Int.natCast_nonneg _
      have z1 : (j : Int) < (n : Int) := Int.ofNat_lt.2 hlt
      have HMS := Lib.hid (show n - (j + 1) < n - j by omega)
      have hP := HH.out.then_ HB.out
      obtain ⟨g, o, rfl, hg, _, hc⟩ := hP.at_ hlt
      obtain ⟨a0, a1, a2, a3⟩ := hc j hlt
      obtain ⟨⟨x, y, A2, n2, c2, l, b⟩, hq⟩ : ∃ q, q = L.getD j default := ⟨_, rfl⟩
      rw [← hq] at a0 a1 a2 a3
      simp only at a0 a1 a2 a3
      have HTK := Lib.hid (show (L.take (j + 1)).map rvOf = (L.take j).map rvOf ++ [(⟨A2, n2, c2, l⟩ : RowV)] by
        rw [List.take_add_one, List.getElem?_eq_getElem hjL, List.map_append]
        have : L[j] = ⟨x, y, A2, n2, c2, l, b⟩ := by rw [hq, List.getD_eq_getElem?_getD, List.getElem?_eq_getElem hjL]; rfl
        rw [this]; rfl)
      obtain ⟨O1, hO1⟩ : ∃ O1 : Obj, O1 = .cells #[.int .u32 x, .int .u64 y, .slice A2 n2 c2, .bool b] 45 := ⟨_, rfl⟩
      have hW2 : Below wr.heap.size wr ((wr.alloc O1).alloc (.cells #[.slice A2 n2 c2] 29)) := below_alloc (below_box wr O1) _
      have hsrc : Rws encRV ((wr.alloc O1).alloc (.cells #[.slice A2 n2 c2] 29)) ((wr.alloc O1).heap.size + 1) (some ⟨(wr.alloc O1).heap.size, 0, none⟩) 1 1 [(⟨A2, n2, c2, l⟩ : RowV)] := by
        have h := (OwnR.rws encRV_len (OwnR.lit encRV_len (e := 29) (wr.alloc O1) [(⟨A2, n2, c2, l⟩ : RowV)] (by simp [maxLen]))).2
        simpa [cellsR, encRV, RowV.val] using h
      rw [show (wr.alloc O1).heap.size = wr.heap.size + 1 by simp, hO1] at hsrc
      rw [hO1] at hW2
      have HO2 := Lib.hid (OwnR.then_ HO.out hW2)
      have HSRC := Lib.hid hsrc
      have HW2 := Lib.hid hW2
      clear hc hq hP hg hW2 hsrc hO1 O1
      go_wp2_with (at_builtin; refine wpList_append_rws encRV_len encRV_one Tryz.underlying130 infoRV (by decide) (by decide) ((wr.alloc (.cells #[.int .u32 x, .int .u64 y, .slice A2 n2 c2, .bool b] 45)).alloc (.cells #[.slice A2 n2 c2] 29)) rfl (.tmp 12) (.tmp 15) rfl w.heap.size _ _ _ _ (by rfl) HO2.out (wr.heap.size + 1 + 1) _ _ _ [(⟨A2, n2, c2, l⟩ : RowV)] (by rfl) HSRC.out (by unfold maxLen; omega) (by omega) (Nat.le_trans HB.out.size HW2.out.size) ?_; intro A3 c3 w3 ho3 hg3 _)
      have hb3 : Below w.heap.size w w3 := OwnR.grownBelow HO2.out hg3 (HB.out.trans (HW2.out.mono HB.out.size)) (Nat.le_trans HB.out.size HW2.out.size)
      rw [← HTK.out] at ho3
      have HO3 := Lib.hid (And.intro ho3 hb3)
      clear ho3 hg3 hb3 HO2 HSRC HW2
      go_roundw
      case rel => exact ⟨j + 1, A3, c3, by go_num, rfl, hjL, HO3.out.1, HO3.out.2, rfl⟩
      case measure => simp [intOf]; (have := HMS.out; omega)
    · have hjn : j = n := by have := HLN.out; omega
      subst hjn
      have hE : (L.take j).map rvOf = L.map rvOf := by rw [List.take_of_length_le (by rw [HLN.out]; exact Nat.le_refl _)]
      rw [hE] at HO
      go_wp2_with fail
      go_ret
      have hn2 := HLN.out
      refine ⟨A1, ⟨c1, by rw [hn2]; rfl⟩, fun h0 => ?_, fun a h0 e => ?_, HB.out⟩
      rotate_left
      · obtain ⟨g, e2, hg1, hg2⟩ := OwnR.pos_ HO.out (show 0 < j by simpa [hn2] using h0)
        rw [e] at e2
        obtain rfl := Option.some.inj e2
        exact hg1
      obtain ⟨g, e, hg1, hg2⟩ := OwnR.pos_ HO.out (show 0 < j by simpa [hn2] using h0)
      subst e
      refine ⟨g, rfl, hg2, fun i hi => ?_⟩
      rw [List.length_map, hn2] at hi
      obtain ⟨g', o', e', _, hc⟩ := Rws.at_ encRV_len (OwnR.rws encRV_len HO.out).2 hi
      cases e'
      have hc1 := hc i hi 0 _ (by decide) rfl
      simp only [Nat.mul_one, Nat.add_zero, Nat.zero_add] at hc1
      have hi2 : i < L.length := by rw [hn2]; exact hi
      have hgt : (L.map rvOf).getD i default = rvOf (L.getD i default) := by
        rw [List.getD_eq_getElem?_getD, List.getElem?_map, List.getD_eq_getElem?_getD, List.getElem?_eq_getElem hi2]; rfl
      rw [hgt] at hc1 ⊢
      have hU := (HH.out.then_ HB.out).getD_ hi
      refine ⟨hc1, hU.1, ?_⟩
      have h1 := HL.out (L.getD i default) (by rw [List.getD_eq_getElem?_getD, List.getElem?_eq_getElem hi2]; exact List.getElem_mem _)
      have h2 := hU.1.len
      show (L.getD i default).n ≤ 1000
      omega
section
variable {w w' : World} {D pa tx ls mk m : Nat} {k : Nat → Nat} {N : Int} {d : Pl.Dc}
def DoR (w : World) (D pa tx ls mk : Nat) (k : Nat → Nat) (N : Int) (d : Pl.Dc) (m : Nat) (u : Un) (e : Ending) (w' : World) : Prop :=
  ∃ k', e = .returned (.tuple #[]) ∧ DocM w' D pa tx ls mk k' N { d with cs := Pl.behind u d.cs } (m + 1) ∧ Mv k w k' w'
set_option maxHeartbeats 1000000 in
theorem do_any (h : DocM w D pa tx ls mk k N d m) (u : Un) (hf : Pl.Fit u d.cs.length) (hJ : Pl.J u.c) (hm : m + 1 ≤ 1073741824) (hcs : d.cs.length ≤ 1000000) :
    Calls Tryz.prog 162 #[.pointer (some ⟨D, 0, none⟩), uval u] w (DoR w D pa tx ls mk k N d m u) := by
  obtain ⟨kk, p, ch, x, y⟩ := u
  have HH := Lib.hid h
  have HF := Lib.hid hf
  have HJ := Lib.hid hJ
  clear h hf hJ
  unfold uval
  simp only
  go_enter Tryz.func162, Tryz.ntmps162
  have hU := uat_new w kk p ch x y
  have hB := below_box w (.cells #[.int .i64 kk, .int .i64 p, .int .i32 ch, .int .u32 x, .int .u64 y] 47)
  by_cases h1 : kk = 1
  · subst h1
    go_wp2_with fail
    generalize w.alloc (.cells #[.int .i64 1, .int .i64 p, .int .i32 ch, .int .u32 x, .int .u64 y] 47) = W at hU hB ⊢
    have hM := HH.out.then_ hB
    obtain ⟨c0, c1, c2, c3, c4⟩ := hM.cells
    obtain ⟨u0, u1, u2, u3, u4⟩ := hU.cells
    obtain ⟨W2, hW2⟩ : ∃ W2, W2 = W.drew.alloc (.cells #[.int .i32 ch] 41) := ⟨_, rfl⟩
    have hb2 : Below W.heap.size W W2 := by rw [hW2]; exact below_drew (below_box W.drew _)
    have HM := Lib.hid (hM.then_ hb2)
    have HB := Lib.hid (below_then hB hb2)
    have hCr : Crs W2 W2.heap.size (some ⟨W.heap.size, 0, none⟩) 1 1 [ch] := by
      have h0 : W2.heap[W.heap.size]? = some (.cells #[.int .i32 ch] 41 (0, 0)) := by rw [hW2]; exact heap_alloc_new W.drew _
      exact ⟨rfl, Nat.le_refl _, by unfold maxLen; omega, (fun e => by cases e), (fun z hz => by rw [List.mem_singleton.1 hz]; exact HJ.out), fun _ => ⟨W.heap.size, 0, rfl, lt_of_block h0, fun i hi => by
        obtain rfl : i = 0 := by omega
        exact cell0 (r := []) h0⟩⟩
    obtain ⟨t, ht1, ht2⟩ := HM.out.tab
    have hfit := HF.out
    have hok := hfit.1
    have hp := hfit.2.1 rfl
    have hpl : t.L.length = d.cs.length := by rw [← Tbl.Tp.len_text, ht2]
    simp only at hp
    have hp0 : 0 ≤ p := by have := hok; unfold Pl.Okay at this; simp only at this; omega
    have hI := Tbl.ins_tb ht1 p (by unfold Tbl.Tp.I; omega) _ 1 1 [ch] hCr hm
    rw [hW2] at hI
    have HI := Lib.hid hI
    have hre : Tbl.Tp.reachE t.L.length p 0 = 0 := by unfold Tbl.Tp.reachE; rw [if_neg]; omega
    have htx : (Tbl.Tp.insT t p [ch]).text = Pl.behind ⟨1, p, ch, x, y⟩ d.cs := by
      unfold Tbl.Tp.insT Pl.behind
      rw [if_pos hre, if_pos rfl, Tbl.Tp.ins_text ht1.ok, ht2, List.append_assoc]
      rfl
    have HTX := Lib.hid htx
    have HW2 := Lib.hid hW2
    have hD2 := (hM.then_ hb2).cells.2.2.1
    have hlD := lt_of_block (hM.then_ hb2).blk
    have hu2 := hU.then_ hb2
    have hkw : k w.heap.size = 0 := by
      rcases Nat.eq_zero_or_pos (k w.heap.size) with h | h
      · exact h
      · have := HH.out.lt w.heap.size (by omega)
        omega
    have HKP := Lib.hid (fun (w3 : World) (hd : Tbl.Did W2 (fun b => k b = 3) tx (Tbl.Tp.insT t p [ch]) (m + 1) w3) => And.intro ((hd.choose_spec.2.1.cell (p := ⟨D, 2, none⟩) hlD (by rw [show (⟨D, 2, none⟩ : Addr).block = D from rfl, HH.out.kD]; decide)).trans hD2) (And.intro ((hd.choose_spec.2.1.cell (p := ⟨w.heap.size, 1, none⟩) hu2.lt (by rw [show (⟨w.heap.size, 1, none⟩ : Addr).block = w.heap.size from rfl, hkw]; decide)).trans hu2.cells.2.1) ((hd.choose_spec.2.1.cell (p := ⟨w.heap.size, 2, none⟩) hu2.lt (by rw [show (⟨w.heap.size, 2, none⟩ : Addr).block = w.heap.size from rfl, hkw]; decide)).trans hu2.cells.2.2.1)))
    rw [hW2] at HKP
    clear hM hB hU hb2 hCr ht1 ht2 hre htx hpl hok hfit hI hW2 c0 c1 c3 c4 u0 u3 u4 hD2 hlD hu2 hkw
    go_region_held3 (fun w' => w'.cell? ⟨D, 2, none⟩ = some (.pointer (some ⟨tx, 0, none⟩)) ∧ w'.cell? ⟨w.heap.size, 1, none⟩ = some (.int .i64 p) ∧ w'.cell? ⟨w.heap.size, 2, none⟩ = some (.int .i32 ch))
      (first | go_keep | (go_split_ands; exact HKP.out _ hd))
      (first | (go_at_call 216; refine HI.out.mono ?_; rintro e w3 ⟨rfl, hd⟩))
    rw [← HW2.out] at hd
    obtain ⟨k', h1, h2⟩ := HM.out.setC hd HTX.out
    exact ⟨rfl, _, results_none (by kernel_rfl) _ _ _, k', rfl, h1, (Mv.of k HB.out).trans h2⟩
  · by_cases h2 : kk = 2
    · subst h2
      go_wp2_with fail
      generalize w.alloc (.cells #[.int .i64 2, .int .i64 p, .int .i32 ch, .int .u32 x, .int .u64 y] 47) = W at hU hB ⊢
      have hM := HH.out.then_ hB
      obtain ⟨c0, c1, c2, c3, c4⟩ := hM.cells
      obtain ⟨u0, u1, u2, u3, u4⟩ := hU.cells
      have HM := Lib.hid hM.drew
      have HB := Lib.hid (below_drawn hB)
      obtain ⟨t, ht1, ht2⟩ := HM.out.tab
      have hfit := HF.out
      have hok := hfit.1
      have hp := hfit.2.2 rfl
      have hpl : t.L.length = d.cs.length := by rw [← Tbl.Tp.len_text, ht2]
      simp only at hp
      have hp0 : 0 ≤ p := by have := hok; unfold Pl.Okay at this; simp only at this; omega
      have HI := Lib.hid (Tbl.del_tb ht1 p 1 (by unfold Tbl.Tp.I; omega))
      have hre : Tbl.Tp.reachE t.L.length p 1 = 0 := by unfold Tbl.Tp.reachE; rw [if_neg]; omega
      have htx : (Tbl.Tp.delT t p 1).text = Pl.behind ⟨2, p, ch, x, y⟩ d.cs := by
        unfold Tbl.Tp.delT Pl.behind
        rw [if_pos hre, if_neg (show ¬ (2 : Int) = 1 by decide), if_pos rfl, Tbl.Tp.del_text, ht2]
        rfl
      have HTX := Lib.hid htx
      have hkw : k w.heap.size = 0 := by
        rcases Nat.eq_zero_or_pos (k w.heap.size) with h | h
        · exact h
        · have := HH.out.lt w.heap.size (by omega)
          omega
      have hlD := lt_of_block HM.out.blk
      have HKP := Lib.hid (fun (w3 : World) (hd : Tbl.Did W.drew (fun b => k b = 3) tx (Tbl.Tp.delT t p 1) m w3) => And.intro ((hd.choose_spec.2.1.cell (p := ⟨D, 2, none⟩) hlD (by rw [show (⟨D, 2, none⟩ : Addr).block = D from rfl, HH.out.kD]; decide)).trans c2) ((hd.choose_spec.2.1.cell (p := ⟨w.heap.size, 1, none⟩) hU.lt (by rw [show (⟨w.heap.size, 1, none⟩ : Addr).block = w.heap.size from rfl, hkw]; decide)).trans u1))
      clear hM hB hU ht1 ht2 hre htx hpl hok hfit c0 c1 c3 c4 u0 u2 u3 u4 hlD hkw
      go_region_held3 (fun w' => w'.cell? ⟨D, 2, none⟩ = some (.pointer (some ⟨tx, 0, none⟩)) ∧ w'.cell? ⟨w.heap.size, 1, none⟩ = some (.int .i64 p))
        (first | go_keep | (go_split_ands; exact HKP.out _ hd))
        (first | (go_at_call 217; refine HI.out.mono ?_; rintro e w3 ⟨rfl, hd⟩))
      obtain ⟨k', h1, h2⟩ := HM.out.setC hd HTX.out
      obtain ⟨t2, ht3, ht4⟩ := h1.tab
      exact ⟨rfl, _, results_none (by kernel_rfl) _ _ _, k', rfl, ⟨h1.blk, h1.past, ⟨t2, ht3.mono (Nat.le_succ _) hm, ht4⟩, h1.les, h1.mks, h1.kD, h1.kp, h1.kl, h1.km, h1.lt⟩, (Mv.of k HB.out).trans h2⟩
    · have z1 : (kk == 1) = false := by simpa using h1
      have z2 : (kk == 2) = false := by simpa using h2
      go_wp2_with fail
      have hd := HH.out.then_ hB
      have he : Pl.behind ⟨kk, p, ch, x, y⟩ d.cs = d.cs := by unfold Pl.behind; rw [if_neg h1, if_neg h2]
      obtain ⟨t, ht1, ht2⟩ := hd.tab
      refine ⟨rfl, _, results_none (by kernel_rfl) _ _ _, k, rfl, ?_, Mv.of k hB⟩
      rw [he]
      exact ⟨hd.blk, hd.past, ⟨t, ht1.mono (Nat.le_succ _) hm, ht2⟩, hd.les, hd.mks, hd.kD, hd.kp, hd.kl, hd.km, hd.lt⟩
end
end Go.Proofs.YtldmnkakpmplnaaGreat
