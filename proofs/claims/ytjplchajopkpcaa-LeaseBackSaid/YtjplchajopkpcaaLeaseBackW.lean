/-
  LeaseBack's walk: made of all, whatever their order, are the same leases; to drop one changes no other; the order in which clients set theirs does not matter: it returns true; nothing that was there turns. Conditions: what the law is given can be read as data.
-/
import Derived.Test.YtjplchajopkpcaaLsX
import Derived.Test.YtjplchajopkpcaaLsO
import Derived.Test.YtjplchajopkpcaaBaseR
namespace Go.Proofs.Ytjplchajopkpcaa.leaseBack
open Go.RowKit

/-- who sets, and when -/
def entB (CL TL : List Int) (i : Nat) : Int × Int := (CL.getD i 0, (((TL.getD i 0).toNat % 1000 : Nat) : Int))
def entsB (CL TL : List Int) (n : Nat) : Pl.Mks := (List.range n).map (entB CL TL)
theorem ents_len (CL TL : List Int) (n : Nat) : (entsB CL TL n).length = n := by simp [entsB]
theorem ents_take {CL TL : List Int} {n j : Nat} (hj : j < n) : (entsB CL TL n).take (j + 1) = (entsB CL TL n).take j ++ [entB CL TL j] := by
  rw [List.take_succ_eq_append_getElem (by rw [ents_len]; exact hj)]
  simp [entsB]
theorem ents_back {CL TL : List Int} {n j : Nat} (hj : j < n) : (entsB CL TL n).reverse.take (j + 1) = (entsB CL TL n).reverse.take j ++ [entB CL TL (n - 1 - j)] := by
  have hl := ents_len CL TL n
  rw [Pl.take_rev (by rw [hl]; exact hj), hl]
  congr 2
  unfold entsB
  rw [List.getD_eq_getElem?_getD, List.getElem?_eq_getElem (by simp; omega)]
  simp
theorem ents_mem {CL TL : List Int} {n : Nat} {p : Int × Int} (h : p ∈ entsB CL TL n) : ∃ i, i < n ∧ p = entB CL TL i := by
  obtain ⟨i, hi, rfl⟩ := List.mem_map.1 h
  exact ⟨i, List.mem_range.1 hi, rfl⟩
/-- while both are set -/
def BkF (W : World) (p b q d N : Nat) (CL TL : List Int) (i : Value) (wr : World) : Prop := ∃ (j : Nat) (M M' : Pl.Mks), i = .int .i64 (j : Int) ∧ j ≤ N ∧ Pl.BkP ((entsB CL TL N).take j) M ∧ Pl.BkP ((entsB CL TL N).reverse.take j) M' ∧ LbS W wr p b q d M M'
/-- while the row is turned round -/
def BkT (w4 : World) (m : Nat) (M : Pl.Mks) (tu i : Value) (wr : World) : Prop := ∃ (j : Nat) (A : Option Addr) (c : Nat), i = .int .i64 (j : Int) ∧ tu = .slice A j c ∧ j ≤ m ∧ OwnR encLs 2 28 wr w4.heap.size (.slice A j c) (M.reverse.take j) ∧ Below w4.heap.size w4 wr
/-- while the two are compared -/
def Bk3 (w6 : World) (m : Nat) (i : Value) (wr : World) : Prop := ∃ j : Nat, i = .int .i64 (j : Int) ∧ j ≤ m ∧ Below w6.heap.size w6 wr
/-- while those that are left are asked -/
def Bk4 (w6 : World) (m : Nat) (M : Pl.Mks) (g : Int) (lf i : Value) (wr : World) : Prop := ∃ j f : Nat, i = .int .i64 (j : Int) ∧ lf = .int .i64 (f : Int) ∧ f = (Pl.delM (M.take j) g).length ∧ j ≤ m ∧ Below w6.heap.size w6 wr
/-- leases told, as a word -/
def CmL (m : Nat) (M : Pl.Mks) (v : Value) (w : World) : Prop := ∃ A c, v = .slice A m c ∧ Rws encLs w w.heap.size A m c M
theorem CmL.stb {m : Nat} {M : Pl.Mks} : Rg.Stb (CmL m M) := fun _ _ _ ⟨A, c, e, h⟩ hb => ⟨A, c, e, Rws.then_ h hb⟩
/-- one of them, as a word -/
def CmA (x v : Int) (u : Value) (w : World) : Prop := ∃ g o, u = .pointer (some ⟨g, o, none⟩) ∧ g < w.heap.size ∧ w.cell? ⟨g, o, none⟩ = some (.int .u32 x) ∧ w.cell? ⟨g, o + 1, none⟩ = some (.int .u64 v)
theorem CmA.stb {x v : Int} : Rg.Stb (CmA x v) := fun _ _ _ ⟨g, o, e, h, h1, h2⟩ hb => ⟨g, o, e, Nat.lt_of_lt_of_le h (below_size hb), (hb.cell (p := ⟨g, o, none⟩) h).trans h1, (hb.cell (p := ⟨g, o + 1, none⟩) h).trans h2⟩
theorem bk_bound {CL TL : List Int} {N : Nat} {M : Pl.Mks} (hN : N ≤ CL.length) (hm : Pl.BkP (entsB CL TL N) M) (hb : ∀ o ∈ CL, 0 ≤ o ∧ o < 256) {p : Int × Int} (hp : p ∈ M) : (0 ≤ p.1 ∧ p.1 < 256) ∧ 64 ≤ p.2 ∧ p.2 < 1064 := by
  have hg := (Pl.get_iff hm.1).2 (show (p.1, p.2) ∈ M from hp)
  obtain ⟨i, hi, e⟩ := ents_mem (hm.2.2.2 _ _ hg)
  unfold entB at e
  obtain ⟨e1, e2⟩ := Prod.mk.inj e
  have := hb (CL.getD i 0) (by rw [List.getD_eq_getElem?_getD, List.getElem?_eq_getElem (by omega)]; exact List.getElem_mem _)
  omega
set_option maxRecDepth 100000 in
set_option maxHeartbeats 4000000 in
theorem walk (W : World) (A : Option Addr) (n c : Nat) (CL : List Int) (hC : Rws encB W W.heap.size A n c CL ∧ ∀ o ∈ CL, 0 ≤ o ∧ o < 256) (A' : Option Addr) (n' c' : Nat) (TL : List Int) (hT : Rws encS W W.heap.size A' n' c' TL ∧ ∀ o ∈ TL, 0 ≤ o ∧ o < 65536) (g0 : Nat) (hg0 : g0 < 256) :
    Calls Try.prog 6 #[.slice A n c, .slice A' n' c', .int .u8 (g0 : Int)] W fun e w' => e = .returned (.bool true) ∧ Below W.heap.size W w' := by
  obtain ⟨hrow, hby⟩ := hC
  obtain ⟨hrow', hby'⟩ := hT
  have hle := hrow.le
  have hcap := hrow.cap
  have hle' := hrow'.le
  have hcap' := hrow'.cap
  unfold maxLen at hcap hcap'
  have HROW := Lib.hid hrow
  have HBY := Lib.hid hby
  have HROW' := Lib.hid hrow'
  have HBY' := Lib.hid hby'
  have HN := fun w => Lib.hid (new_none w)
  have HWK := fun w => Lib.hid (wakes_any w)
  obtain ⟨N, hN⟩ : ∃ N, N = min (min n n') 12 := ⟨_, rfl⟩
  have hmin : (if (12 : Int) < (if n' < n then (n' : Int) else (n : Int)) then (12 : Int) else (if n' < n then (n' : Int) else (n : Int))) = (N : Int) := by split <;> split <;> omega
  have HNN := Lib.hid (show N ≤ n ∧ N ≤ n' ∧ N ≤ 12 by omega)
  clear hrow hby hrow' hby' hN
  go_enter Try.func6, Try.ntmps6
  go_wp2_with fail
  refine (HN _).out.mono ?_
  rintro e w1 ⟨p, b, rfl, h1, hb1⟩
  have H1 := Lib.hid h1
  have HB1 := Lib.hid hb1
  clear h1 hb1
  go_wp2_with fail
  refine (HN _).out.mono ?_
  rintro e w2 ⟨q, d, rfl, h2, hb2⟩
  have HX := Lib.hid (show BkF W p b q d N CL TL (.int .i64 ((0 : Nat) : Int)) w2 from ⟨0, [], [], rfl, Nat.zero_le _, Pl.bk_nil, Pl.bk_nil, ⟨H1.out.then_ hb2, h2.lower HB1.out.size, ⟨by have := H1.out.at_.lt; have := h2.b_; omega, by have := H1.out.at_.own.lt; have := h2.b_; omega, by have := H1.out.at_.own.lt; have := h2.p_; omega⟩, below_then HB1.out hb2⟩⟩)
  clear h2 hb2 H1 HB1 HN
  go_wp2_with fail
  clear hmin
  go_loopw [12] (fun i wr => BkF W p b q d N CL TL i wr) (fun i _ => N - (intOf i).toNat)
  case atStart => exact HX.out
  case round =>
    obtain ⟨j, M, M', rfl, hj, hm, hm', hs⟩ := hrel
    have HS := Lib.hid hs
    by_cases hlt : j < N
    · have z6 : decide ((j : Int) < (N : Int)) = true := decide_eq_true (by omega)
      have z6n : decide (j < N) = true := decide_eq_true hlt
      obtain ⟨k, hk⟩ : ∃ k, k = N - 1 - j := ⟨_, rfl⟩
      obtain ⟨nm, hnm⟩ : ∃ z : Nat, z = N - 1 := ⟨_, rfl⟩
      have hw1 : wrap64 ((N : Int) - 1) = (nm : Int) := by have := HNN.out; unfold wrap64; omega
      have hw2 : wrap64 ((nm : Int) - (j : Int)) = (k : Int) := by have := HNN.out; unfold wrap64; omega
      have HJN := Lib.hid (show j < N ∧ k < N by omega)
      have hjn : j < n := by have := HNN.out; omega
      have hkn : k < n := by have := HNN.out; omega
      have hjn' : j < n' := by have := HNN.out; omega
      have hkn' : k < n' := by have := HNN.out; omega
      obtain ⟨g, o, rfl, hg, hc⟩ := Rws.at_ encB_len HROW.out hjn
      obtain ⟨g', o', rfl, hg', hc'⟩ := Rws.at_ encS_len HROW'.out hjn'
      have HXB := fun i (hi : i < n) => HBY.out (CL.getD i 0) (by rw [List.getD_eq_getElem?_getD, List.getElem?_eq_getElem (by rw [HROW.out.len]; exact hi)]; exact List.getElem_mem _)
      have HYB := fun i (hi : i < n') => HBY'.out (TL.getD i 0) (by rw [List.getD_eq_getElem?_getD, List.getElem?_eq_getElem (by rw [HROW'.out.len]; exact hi)]; exact List.getElem_mem _)
      have b1 := HXB j hjn
      have b2 := HXB k hkn
      have b3 := HYB j hjn'
      have b4 := HYB k hkn'
      have s1 := Pl.bk_step hm (by rw [List.length_take, ents_len]; have := HNN.out; omega) (entB CL TL j) (by unfold entB; simp only; omega)
      have s2 := Pl.bk_step hm' (by rw [List.length_take, List.length_reverse, ents_len]; have := HNN.out; omega) (entB CL TL k) (by unfold entB; simp only; omega)
      rw [← ents_take hlt] at s1
      rw [hk, ← ents_back hlt, ← hk] at s2
      have d1 := hc j hjn 0 _ (by decide) rfl
      have d2 := hc k hkn 0 _ (by decide) rfl
      have d3 := hc' j hjn' 0 _ (by decide) rfl
      have d4 := hc' k hkn' 0 _ (by decide) rfl
      rw [show ∀ i, CL.getD i default = CL.getD i 0 from fun _ => rfl] at d1 d2
      rw [show ∀ i, TL.getD i default = TL.getD i 0 from fun _ => rfl] at d3 d4
      unfold entB at s1 s2
      obtain ⟨x, hx⟩ : ∃ x, x = CL.getD j 0 := ⟨_, rfl⟩
      obtain ⟨x', hx'⟩ : ∃ x, x = CL.getD k 0 := ⟨_, rfl⟩
      obtain ⟨y, hy⟩ : ∃ y : Nat, TL.getD j 0 = (y : Int) := ⟨(TL.getD j 0).toNat, by omega⟩
      obtain ⟨y', hy'⟩ : ∃ y : Nat, TL.getD k 0 = (y : Int) := ⟨(TL.getD k 0).toNat, by omega⟩
      rw [← hx, hy, Int.toNat_natCast] at s1
      rw [← hx', hy', Int.toNat_natCast] at s2
      rw [← hx] at d1 b1
      rw [← hx'] at d2 b2
      rw [hy] at d3 b3
      rw [hy'] at d4 b4
      obtain ⟨ty, hty⟩ : ∃ z, z = y % 1000 := ⟨_, rfl⟩
      obtain ⟨ty', hty'⟩ : ∃ z, z = y' % 1000 := ⟨_, rfl⟩
      rw [← hty] at s1
      rw [← hty'] at s2
      obtain ⟨M2, s1, hm2⟩ := s1
      obtain ⟨M2', s2, hm2'⟩ := s2
      simp only at s1 s2
      simp only [Nat.mul_one, Nat.add_zero] at d1 d2 d3 d4
      have HM2 := Lib.hid hm2
      have HM2' := Lib.hid hm2'
      have HCA := Lib.hid (show ∀ L w1, BkI W 13 14 12 27 p b q d M M2 M' M2' L w1 → w1.cell? ⟨g, o + j, none⟩ = some (.int .u8 x) ∧ w1.cell? ⟨g', o' + j, none⟩ = some (.int .u16 (y : Int)) ∧ w1.cell? ⟨g, o + k, none⟩ = some (.int .u8 x') ∧ w1.cell? ⟨g', o' + k, none⟩ = some (.int .u16 (y' : Int)) from fun L w1 h =>
        ⟨(h.1.cell (p := ⟨g, o + j, none⟩) hg).trans d1, (h.1.cell (p := ⟨g', o' + j, none⟩) hg').trans d3, (h.1.cell (p := ⟨g, o + k, none⟩) hg).trans d2, (h.1.cell (p := ⟨g', o' + k, none⟩) hg').trans d4⟩)
      have HC1 := Lib.hid (show ∀ L w1, L 12 = false → BkI W 13 14 12 27 p b q d M M2 M' M2' L w1 → Calls Try.prog 11 #[.pointer (some ⟨p, 0, none⟩), .int .u32 x, .int .u64 (ty : Int)] w1 fun e w' => e = .returned (.int .i64 0) ∧ LbS W w' p b q d M2 M' from fun L w1 hL h => by
        have h1 := h.2.2.1 hL
        have := set_any h1.x.at_ (c := x) (by omega) (ty : Int) (by omega)
        rw [s1] at this
        exact this.mono fun _ _ ⟨g1, g2, g3⟩ => ⟨g1, h1.turnx g2 g3⟩)
      have HC2 := Lib.hid (show ∀ L w1, L 12 = true → L 27 = false → BkI W 13 14 12 27 p b q d M M2 M' M2' L w1 → Calls Try.prog 11 #[.pointer (some ⟨q, 0, none⟩), .int .u32 x', .int .u64 (ty' : Int)] w1 fun e w' => e = .returned (.int .i64 0) ∧ LbS W w' p b q d M2 M2' from fun L w1 hL hL2 h => by
        have h1 := h.2.2.2.1 hL hL2
        have := set_any h1.y.at_ (c := x') (by omega) (ty' : Int) (by omega)
        rw [s2] at this
        exact this.mono fun _ _ ⟨g1, g2, g3⟩ => ⟨g1, h1.turny g2 g3⟩)
      have HZ := Lib.hid (show ((0 : Int) ≤ (j : Int) ∧ (j : Int) < (n : Int) ∧ (j : Int) < (n' : Int)) ∧ (0 : Int) ≤ (k : Int) ∧ (k : Int) < (n : Int) ∧ (k : Int) < (n' : Int) by omega)
      have HH := Lib.hid (show (IntKind.u32.wrap x = x ∧ IntKind.u32.wrap x' = x') ∧ (Int.tmod (y : Int) 1000 = (ty : Int) ∧ Int.tmod (y' : Int) 1000 = (ty' : Int)) ∧ IntKind.u64.wrap (ty : Int) = (ty : Int) ∧ IntKind.u64.wrap (ty' : Int) = (ty' : Int) from
        ⟨⟨by rw [IntKind.wrap_u32]; omega, by rw [IntKind.wrap_u32]; omega⟩, ⟨by rw [Int.tmod_eq_emod_of_nonneg (by omega)]; omega, by rw [Int.tmod_eq_emod_of_nonneg (by omega)]; omega⟩, by rw [IntKind.wrap_u64]; omega, by rw [IntKind.wrap_u64]; omega⟩)
      have HMS := Lib.hid (show N - (j + 1) < N - j by omega)
      have zj : (j : Int) < 12 := by have := HNN.out; omega
      clear hk hnm hjn hkn hjn' hkn' hg hc hg' hc' HXB HYB b1 b2 b3 b4 s1 s2 d1 d2 d3 d4 hx hx' hy hy' hty hty' hm hm' hm2 hm2' hs hlt hj
      go_wp2_with fail
      have z0 := HZ.out.1.1
      have z1 := HZ.out.1.2.1
      have z2 := HZ.out.1.2.2
      have z3 := HZ.out.2.1
      have z4 := HZ.out.2.2.1
      have z5 := HZ.out.2.2.2
      have hx32 := HH.out.1.1
      have hx32' := HH.out.1.2
      have hrem := HH.out.2.1.1
      have hrem' := HH.out.2.1.2
      have hcv := HH.out.2.2.1
      have hcv' := HH.out.2.2.2
      rw [hw2]
      have HCA := HCA.out
      have HC1 := HC1.out
      have HC2 := HC2.out
      refine Rq.wp_region_inv (BkI W 13 14 12 27 p b q d M M2 M' M2') PR0 (Rq.Wd.at [.is (.pointer (some ⟨p, 0, none⟩)), .is (.slice (some ⟨g, o, none⟩) n c), .is (.int .i64 (j : Int)), .is (.pointer (some ⟨g, o + j, none⟩)), .is (.int .u8 x), .is (.int .u32 x), .is (.slice (some ⟨g', o', none⟩) n' c'), .is (.int .i64 (j : Int)), .is (.pointer (some ⟨g', o' + j, none⟩)), .is (.int .u16 (y : Int)), .is (.int .u16 (ty : Int)), .is (.int .u64 (ty : Int)), .is (.int .i64 0), .is (.bool false), .is (.bool false), .is (.pointer (some ⟨q, 0, none⟩)), .is (.slice (some ⟨g, o, none⟩) n c), .is (.int .i64 (k : Int)), .is (.pointer (some ⟨g, o + k, none⟩)), .is (.int .u8 x'), .is (.int .u32 x'), .is (.slice (some ⟨g', o', none⟩) n' c'), .is (.int .i64 (k : Int)), .is (.pointer (some ⟨g', o' + k, none⟩)), .is (.int .u16 (y' : Int)), .is (.int .u16 (ty' : Int)), .is (.int .u64 (ty' : Int)), .is (.int .i64 0), .is (.bool false), .is (.bool false)]) (by kernel_rfl) (by kernel_rfl) (Rq.Wd.stays _ _ (fun i q hi => (by rcases i with _ | _ | _ | _ | _ | _ | _ | _ | _ | _ | _ | _ | _ | _ | _ | _ | _ | _ | _ | _ | _ | _ | _ | _ | _ | _ | _ | _ | _ | _ | i <;> simp at hi))) (BkI.begin HS.out) ⟨?_, ?_, ?_, ?_, ?_, ?_, ?_, ?_, ?_, ?_, ?_, ?_, ?_, ?_, ?_, ?_, ?_, ?_, ?_, ?_, ?_, ?_, ?_, ?_, ?_, ?_, ?_, ?_, ?_, ?_, trivial⟩ ?_
      · intro L a w1 hL hS hb hd
        have e8 := hb 8 (Rq.nw (by decide))
        simp [Act.eval] at e8
        exact Rq.does_pure (Rq.wanted_none rfl) (by simp [execOp, e8, go_sem]) rfl (hS.stay (by decide) (by decide) fun h => absurd h (by decide)) trivial
      · intro L a w1 hL hS hb hd
        have e0 := hb 0 (Rq.nw (by decide))
        simp [Act.eval] at e0
        exact Rq.does_pure (Rq.wanted_none rfl) (by simp [execOp, e0, go_sem]) rfl (hS.stay (by decide) (by decide) fun h => absurd h (by decide)) trivial
      · intro L a w1 hL hS hb hd
        have e12 := hb 12 (Rq.nw (by decide))
        simp [Act.eval] at e12
        exact Rq.does_pure (Rq.wanted_none rfl) (by simp [execOp, e12, go_sem]) rfl (hS.stay (by decide) (by decide) fun h => absurd h (by decide)) trivial
      · intro L a w1 hL hS hb hd
        have p53 := (hd ⟨1, .data⟩ (by simp) rfl).2 _ _ rfl rfl
        have e53 : a.tmps[53]?.getD undef = (.slice (some ⟨g, o, none⟩) n c) := Rq.slot p53
        have p54 := (hd ⟨2, .data⟩ (by simp) rfl).2 _ _ rfl rfl
        have e54 : a.tmps[54]?.getD undef = (.int .i64 (j : Int)) := Rq.slot p54
        exact Rq.does_pure (Rq.wanted_none rfl) (by simp [execOp, e53, e54, z0, z1, go_sem]) rfl (hS.stay (by decide) (by decide) fun h => absurd h (by decide)) trivial
      · intro L a w1 hL hS hb hd
        have p55 := (hd ⟨3, .data⟩ (by simp) rfl).2 _ _ rfl rfl
        have e55 : a.tmps[55]?.getD undef = (.pointer (some ⟨g, o + j, none⟩)) := Rq.slot p55
        exact Rq.does_pure (Rq.wanted_none rfl) (by simp [execOp, e55, (HCA L w1 hS).1, go_sem]) rfl (hS.stay (by decide) (by decide) fun h => absurd h (by decide)) trivial
      · intro L a w1 hL hS hb hd
        have p56 := (hd ⟨4, .data⟩ (by simp) rfl).2 _ _ rfl rfl
        have e56 : a.tmps[56]?.getD undef = (.int .u8 x) := Rq.slot p56
        exact Rq.does_pure (Rq.wanted_none rfl) (by simp [execOp, e56, hx32, go_sem]) rfl (hS.stay (by decide) (by decide) fun h => absurd h (by decide)) trivial
      · intro L a w1 hL hS hb hd
        have e1 := hb 1 (Rq.nw (by decide))
        simp [Act.eval] at e1
        exact Rq.does_pure (Rq.wanted_none rfl) (by simp [execOp, e1, go_sem]) rfl (hS.stay (by decide) (by decide) fun h => absurd h (by decide)) trivial
      · intro L a w1 hL hS hb hd
        have e12 := hb 12 (Rq.nw (by decide))
        simp [Act.eval] at e12
        exact Rq.does_pure (Rq.wanted_none rfl) (by simp [execOp, e12, go_sem]) rfl (hS.stay (by decide) (by decide) fun h => absurd h (by decide)) trivial
      · intro L a w1 hL hS hb hd
        have p58 := (hd ⟨6, .data⟩ (by simp) rfl).2 _ _ rfl rfl
        have e58 : a.tmps[58]?.getD undef = (.slice (some ⟨g', o', none⟩) n' c') := Rq.slot p58
        have p59 := (hd ⟨7, .data⟩ (by simp) rfl).2 _ _ rfl rfl
        have e59 : a.tmps[59]?.getD undef = (.int .i64 (j : Int)) := Rq.slot p59
        exact Rq.does_pure (Rq.wanted_none rfl) (by simp [execOp, e58, e59, z0, z2, go_sem]) rfl (hS.stay (by decide) (by decide) fun h => absurd h (by decide)) trivial
      · intro L a w1 hL hS hb hd
        have p60 := (hd ⟨8, .data⟩ (by simp) rfl).2 _ _ rfl rfl
        have e60 : a.tmps[60]?.getD undef = (.pointer (some ⟨g', o' + j, none⟩)) := Rq.slot p60
        exact Rq.does_pure (Rq.wanted_none rfl) (by simp [execOp, e60, (HCA L w1 hS).2.1, go_sem]) rfl (hS.stay (by decide) (by decide) fun h => absurd h (by decide)) trivial
      · intro L a w1 hL hS hb hd
        have p61 := (hd ⟨9, .data⟩ (by simp) rfl).2 _ _ rfl rfl
        have e61 : a.tmps[61]?.getD undef = (.int .u16 (y : Int)) := Rq.slot p61
        exact Rq.does_pure (Rq.wanted_none rfl) (by simp [execOp, e61, hrem, go_sem]) rfl (hS.stay (by decide) (by decide) fun h => absurd h (by decide)) trivial
      · intro L a w1 hL hS hb hd
        have p62 := (hd ⟨10, .data⟩ (by simp) rfl).2 _ _ rfl rfl
        have e62 : a.tmps[62]?.getD undef = (.int .u16 (ty : Int)) := Rq.slot p62
        exact Rq.does_pure (Rq.wanted_none rfl) (by simp [execOp, e62, hcv, go_sem]) rfl (hS.stay (by decide) (by decide) fun h => absurd h (by decide)) trivial
      · intro L a w1 hL hS hb hd
        have p52 := (hd ⟨0, .data⟩ (by simp) rfl).2 _ _ rfl rfl
        have e52 : a.tmps[52]?.getD undef = (.pointer (some ⟨p, 0, none⟩)) := Rq.slot p52
        have p57 := (hd ⟨5, .data⟩ (by simp) rfl).2 _ _ rfl rfl
        have e57 : a.tmps[57]?.getD undef = (.int .u32 x) := Rq.slot p57
        have p63 := (hd ⟨11, .data⟩ (by simp) rfl).2 _ _ rfl rfl
        have e63 : a.tmps[63]?.getD undef = (.int .u64 (ty : Int)) := Rq.slot p63
        refine Rq.does_call (f := 11) (args := #[.pointer (some ⟨p, 0, none⟩), .int .u32 x, .int .u64 (ty : Int)]) (Rq.wanted_none rfl) (by simp [e52, e57, e63, go_sem]) ?_
        exact (HC1 L w1 hL hS).mono fun e w3 ⟨h0, h1⟩ => ⟨_, h0, rfl, hS.first (by decide) hL h1, trivial⟩
      · intro L a w1 hL hS hb hd
        have p64 := (hd ⟨12, .data⟩ (by simp) rfl).2 _ _ rfl rfl
        have e64 : a.tmps[64]?.getD undef = (.int .i64 0) := Rq.slot p64
        exact Rq.does_pure (Rq.wanted_none rfl) (by simp [execOp, e64, go_sem]) rfl (hS.stay (by decide) (by decide) fun _ => (hd ⟨12, .data⟩ (by simp) rfl).1) trivial
      · intro L a w1 hL hS hb hd
        have p65 := (hd ⟨13, .data⟩ (by simp) rfl).2 _ _ rfl rfl
        have e65 : a.tmps[65]?.getD undef = (.bool false) := Rq.slot p65
        exact Rq.does_pure (Rq.wanted_none rfl) (by simp [execOp, e65, go_sem]) rfl (hS.stay (by decide) (by decide) fun _ => hS.2.2.2.2.2 13 (Or.inl rfl) (hd ⟨13, .data⟩ (by simp) rfl).1) trivial
      · intro L a w1 hL hS hb hd
        have e10 := hb 10 (Rq.nw (by decide))
        simp [Act.eval] at e10
        have g66 := (hd ⟨14, .guard⟩ (by simp) rfl).2 _ _ rfl rfl
        exact Rq.does_pure (Rq.wanted_some rfl rfl rfl g66) (by simp [execOp, e10, go_sem]) rfl (hS.stay (by decide) (by decide) fun h => absurd h (by decide)) trivial
      · intro L a w1 hL hS hb hd
        have e0 := hb 0 (Rq.nw (by decide))
        simp [Act.eval] at e0
        have g66 := (hd ⟨14, .guard⟩ (by simp) rfl).2 _ _ rfl rfl
        exact Rq.does_pure (Rq.wanted_some rfl rfl rfl g66) (by simp [execOp, e0, go_sem]) rfl (hS.stay (by decide) (by decide) fun h => absurd h (by decide)) trivial
      · intro L a w1 hL hS hb hd
        have e13 := hb 13 (Rq.nw (by decide))
        simp [Act.eval] at e13
        have g66 := (hd ⟨14, .guard⟩ (by simp) rfl).2 _ _ rfl rfl
        exact Rq.does_pure (Rq.wanted_some rfl rfl rfl g66) (by simp [execOp, e13, go_sem]) rfl (hS.stay (by decide) (by decide) fun h => absurd h (by decide)) trivial
      · intro L a w1 hL hS hb hd
        have p68 := (hd ⟨16, .data⟩ (by simp) rfl).2 _ _ rfl rfl
        have e68 : a.tmps[68]?.getD undef = (.slice (some ⟨g, o, none⟩) n c) := Rq.slot p68
        have p69 := (hd ⟨17, .data⟩ (by simp) rfl).2 _ _ rfl rfl
        have e69 : a.tmps[69]?.getD undef = (.int .i64 (k : Int)) := Rq.slot p69
        have g66 := (hd ⟨14, .guard⟩ (by simp) rfl).2 _ _ rfl rfl
        exact Rq.does_pure (Rq.wanted_some rfl rfl rfl g66) (by simp [execOp, e68, e69, z3, z4, go_sem]) rfl (hS.stay (by decide) (by decide) fun h => absurd h (by decide)) trivial
      · intro L a w1 hL hS hb hd
        have p70 := (hd ⟨18, .data⟩ (by simp) rfl).2 _ _ rfl rfl
        have e70 : a.tmps[70]?.getD undef = (.pointer (some ⟨g, o + k, none⟩)) := Rq.slot p70
        have g66 := (hd ⟨14, .guard⟩ (by simp) rfl).2 _ _ rfl rfl
        exact Rq.does_pure (Rq.wanted_some rfl rfl rfl g66) (by simp [execOp, e70, (HCA L w1 hS).2.2.1, go_sem]) rfl (hS.stay (by decide) (by decide) fun h => absurd h (by decide)) trivial
      · intro L a w1 hL hS hb hd
        have p71 := (hd ⟨19, .data⟩ (by simp) rfl).2 _ _ rfl rfl
        have e71 : a.tmps[71]?.getD undef = (.int .u8 x') := Rq.slot p71
        have g66 := (hd ⟨14, .guard⟩ (by simp) rfl).2 _ _ rfl rfl
        exact Rq.does_pure (Rq.wanted_some rfl rfl rfl g66) (by simp [execOp, e71, hx32', go_sem]) rfl (hS.stay (by decide) (by decide) fun h => absurd h (by decide)) trivial
      · intro L a w1 hL hS hb hd
        have e1 := hb 1 (Rq.nw (by decide))
        simp [Act.eval] at e1
        have g66 := (hd ⟨14, .guard⟩ (by simp) rfl).2 _ _ rfl rfl
        exact Rq.does_pure (Rq.wanted_some rfl rfl rfl g66) (by simp [execOp, e1, go_sem]) rfl (hS.stay (by decide) (by decide) fun h => absurd h (by decide)) trivial
      · intro L a w1 hL hS hb hd
        have e13 := hb 13 (Rq.nw (by decide))
        simp [Act.eval] at e13
        have g66 := (hd ⟨14, .guard⟩ (by simp) rfl).2 _ _ rfl rfl
        exact Rq.does_pure (Rq.wanted_some rfl rfl rfl g66) (by simp [execOp, e13, go_sem]) rfl (hS.stay (by decide) (by decide) fun h => absurd h (by decide)) trivial
      · intro L a w1 hL hS hb hd
        have p73 := (hd ⟨21, .data⟩ (by simp) rfl).2 _ _ rfl rfl
        have e73 : a.tmps[73]?.getD undef = (.slice (some ⟨g', o', none⟩) n' c') := Rq.slot p73
        have p74 := (hd ⟨22, .data⟩ (by simp) rfl).2 _ _ rfl rfl
        have e74 : a.tmps[74]?.getD undef = (.int .i64 (k : Int)) := Rq.slot p74
        have g66 := (hd ⟨14, .guard⟩ (by simp) rfl).2 _ _ rfl rfl
        exact Rq.does_pure (Rq.wanted_some rfl rfl rfl g66) (by simp [execOp, e73, e74, z3, z5, go_sem]) rfl (hS.stay (by decide) (by decide) fun h => absurd h (by decide)) trivial
      · intro L a w1 hL hS hb hd
        have p75 := (hd ⟨23, .data⟩ (by simp) rfl).2 _ _ rfl rfl
        have e75 : a.tmps[75]?.getD undef = (.pointer (some ⟨g', o' + k, none⟩)) := Rq.slot p75
        have g66 := (hd ⟨14, .guard⟩ (by simp) rfl).2 _ _ rfl rfl
        exact Rq.does_pure (Rq.wanted_some rfl rfl rfl g66) (by simp [execOp, e75, (HCA L w1 hS).2.2.2, go_sem]) rfl (hS.stay (by decide) (by decide) fun h => absurd h (by decide)) trivial
      · intro L a w1 hL hS hb hd
        have p76 := (hd ⟨24, .data⟩ (by simp) rfl).2 _ _ rfl rfl
        have e76 : a.tmps[76]?.getD undef = (.int .u16 (y' : Int)) := Rq.slot p76
        have g66 := (hd ⟨14, .guard⟩ (by simp) rfl).2 _ _ rfl rfl
        exact Rq.does_pure (Rq.wanted_some rfl rfl rfl g66) (by simp [execOp, e76, hrem', go_sem]) rfl (hS.stay (by decide) (by decide) fun h => absurd h (by decide)) trivial
      · intro L a w1 hL hS hb hd
        have p77 := (hd ⟨25, .data⟩ (by simp) rfl).2 _ _ rfl rfl
        have e77 : a.tmps[77]?.getD undef = (.int .u16 (ty' : Int)) := Rq.slot p77
        have g66 := (hd ⟨14, .guard⟩ (by simp) rfl).2 _ _ rfl rfl
        exact Rq.does_pure (Rq.wanted_some rfl rfl rfl g66) (by simp [execOp, e77, hcv', go_sem]) rfl (hS.stay (by decide) (by decide) fun h => absurd h (by decide)) trivial
      · intro L a w1 hL hS hb hd
        have p67 := (hd ⟨15, .data⟩ (by simp) rfl).2 _ _ rfl rfl
        have e67 : a.tmps[67]?.getD undef = (.pointer (some ⟨q, 0, none⟩)) := Rq.slot p67
        have p72 := (hd ⟨20, .data⟩ (by simp) rfl).2 _ _ rfl rfl
        have e72 : a.tmps[72]?.getD undef = (.int .u32 x') := Rq.slot p72
        have p78 := (hd ⟨26, .data⟩ (by simp) rfl).2 _ _ rfl rfl
        have e78 : a.tmps[78]?.getD undef = (.int .u64 (ty' : Int)) := Rq.slot p78
        have g66 := (hd ⟨14, .guard⟩ (by simp) rfl).2 _ _ rfl rfl
        refine Rq.does_call (f := 11) (args := #[.pointer (some ⟨q, 0, none⟩), .int .u32 x', .int .u64 (ty' : Int)]) (Rq.wanted_some rfl rfl rfl g66) (by simp [e67, e72, e78, go_sem]) ?_
        exact (HC2 L w1 (hS.2.2.2.2.2 14 (Or.inr rfl) (hd ⟨14, .chain⟩ (by simp) rfl).1) hL hS).mono fun e w3 ⟨h0, h1⟩ => ⟨_, h0, rfl, BkI.second (by decide) (hS.2.2.2.2.2 14 (Or.inr rfl) (hd ⟨14, .chain⟩ (by simp) rfl).1) h1, trivial⟩
      · intro L a w1 hL hS hb hd
        have p79 := (hd ⟨27, .data⟩ (by simp) rfl).2 _ _ rfl rfl
        have e79 : a.tmps[79]?.getD undef = (.int .i64 0) := Rq.slot p79
        have g66 := (hd ⟨14, .guard⟩ (by simp) rfl).2 _ _ rfl rfl
        exact Rq.does_pure (Rq.wanted_some rfl rfl rfl g66) (by simp [execOp, e79, go_sem]) rfl (hS.stay (by decide) (by decide) fun h => absurd h (by decide)) trivial
      · intro L a w1 hL hS hb hd
        have p66 := (hd ⟨14, .data⟩ (by simp) rfl).2 _ _ rfl rfl
        have e66 : a.tmps[66]?.getD undef = (.bool false) := Rq.slot p66
        have p80 := (hd ⟨28, .data⟩ (by simp) rfl).2 _ _ rfl rfl
        have e80 : a.tmps[80]?.getD undef = (.bool false) := Rq.slot p80
        exact Rq.does_pure (Rq.wanted_none rfl) (by simp [execOp, e66, e80, go_sem]) rfl (hS.stay (by decide) (by decide) fun h => absurd h (by decide)) trivial
      intro L v w3 hS hall hv
      have h81 : v 29 = .bool false := hv 29 _ _ rfl rfl
      have HS3 := Lib.hid (hS.2.2.2.2.1 (hall 12 (by decide)) (hall 27 (by decide)))
      simp only [Rq.putAll, Nat.zero_add, Nat.reduceAdd]
      simp only [Act.put, List.setIfInBounds_toArray, List.set_cons_succ, List.set_cons_zero]
      rw [h81]
      clear h81 hS hall hv HCA HC1 HC2 HS z0 z1 z2 z3 z4 z5 hx32 hx32' hrem hrem' hcv hcv'
      go_wp2_with fail
      go_roundw
      case rel => exact ⟨j + 1, M2, M2', by go_num, HJN.out.1, HM2.out, HM2'.out, HS3.out⟩
      case measure => simp [intOf]; (have := HMS.out; omega)
    · have z6 : decide ((j : Int) < (N : Int)) = false := decide_eq_false (by omega)
      have z6n : decide (j < N) = false := decide_eq_false hlt
      obtain rfl : j = N := by omega
      rw [List.take_of_length_le (by rw [ents_len]; exact Nat.le_refl _)] at hm
      rw [List.take_of_length_le (by rw [List.length_reverse, ents_len]; exact Nat.le_refl _)] at hm'
      have hMM := Pl.bk_same hm hm' (fun p => by rw [List.mem_reverse])
      subst hMM
      have hlen : M.length ≤ 12 := by have := hm.2.1; rw [ents_len] at this; have := HNN.out; omega
      have HBD := Lib.hid (show ∀ p ∈ M, (0 ≤ p.1 ∧ p.1 < 256) ∧ 64 ≤ p.2 ∧ p.2 < 1064 from fun p hp => bk_bound (by rw [HROW.out.len]; exact HNN.out.1) hm HBY.out hp)
      have HUP := Lib.hid hm.1
      have HMK := Lib.hid (Pl.make_back hm.1 (by omega) (fun p hp => by have := HBD.out p hp; omega))
      have HA := Lib.hid (all_any hs.x.at_)
      unfold RetLl at HA
      obtain ⟨m, hmm⟩ : ∃ m, m = M.length := ⟨_, rfl⟩
      rw [← hmm] at HA
      have HMM := Lib.hid (show m = M.length ∧ m ≤ 12 from ⟨hmm, by omega⟩)
      clear hm hm' hs hlen hmm hlt hj
      go_wp2_with fail
      refine HA.out.mono ?_
      rintro e w3 ⟨Al, cl, rfl, hr3, _, hb3⟩
      have HR3 := Lib.hid hr3
      have HS3 := Lib.hid (HS.out.then_ hb3)
      have HA2 := Lib.hid (all_any HS3.out.y.at_)
      unfold RetLl at HA2
      rw [← HMM.out.1] at HA2
      clear hr3 hb3 HA HS
      go_wp2_with fail
      refine HA2.out.mono ?_
      rintro e w4 ⟨Am, cm, rfl, hr4, _, hb4⟩
      have HRL := Lib.hid (Rws.then_ HR3.out hb4)
      have HRM := Lib.hid hr4
      have HB4 := Lib.hid (below_then HS3.out.below hb4)
      have hlcap := HRL.out.cap
      have hlle := HRL.out.le
      have hmcap := HRM.out.cap
      have hmle := HRM.out.le
      unfold maxLen at hlcap hmcap
      clear hr4 hb4 HA2 HS3 HR3
      go_wp2_with fail
      go_loopw [16, 17] (fun tu i w9 => BkT w4 m M tu i w9) (fun _ i _ => m - (intOf i).toNat)
      case atStart => exact ⟨0, none, 0, rfl, rfl, Nat.zero_le _, OwnR.nil_ _ _ _ _ _, Below.refl _ _⟩
      case round =>
        obtain ⟨j, At, ct, rfl, rfl, hj, ho, hb⟩ := hrel
        have HO := Lib.hid ho
        have HB := Lib.hid hb
        by_cases hlt : j < m
        · have z1 : (j : Int) < (m : Int) := Int.ofNat_lt.2 hlt
          have z0 : (0 : Int) ≤ (j : Int) := Int.natCast_nonneg _
          have z12 : (m : Int) ≤ 12 := by have := HMM.out; omega
          obtain ⟨k, hk⟩ : ∃ k, k = m - 1 - j := ⟨_, rfl⟩
          have hkm : k < m := by omega
          have z2 : (0 : Int) ≤ (k : Int) := Int.natCast_nonneg _
          have z3 : (k : Int) < (m : Int) := Int.ofNat_lt.2 hkm
          obtain ⟨g, o, rfl, hg, hc⟩ := Rws.at_ encLs_len (Rws.then_ HRL.out hb) hlt
          obtain ⟨g', o', rfl, hg', hc'⟩ := Rws.at_ encLs_len (Rws.then_ HRM.out hb) hlt
          have HTK := Lib.hid (show M.reverse.take (j + 1) = M.reverse.take j ++ [M.getD k default] by rw [Pl.take_rev (by have := HMM.out; omega), hk, HMM.out.1])
          have HMS := Lib.hid (show m - (j + 1) < m - j by omega)
          have HLT := Lib.hid hlt
          have c0 := hc k hkm 0 _ (by decide) rfl
          have c1 := hc k hkm 1 _ (by decide) rfl
          obtain ⟨⟨xk, vk⟩, hxk⟩ : ∃ q, q = M.getD k default := ⟨_, rfl⟩
          rw [← hxk] at c0 c1 HTK
          simp only [Nat.add_zero, ← Nat.add_assoc] at c0 c1
          rw [hk] at c0 c1
          have HCJ := Lib.hid (show ∀ i, i < m → ∀ w9, Below w4.heap.size w4 w9 → (w9.cell? ⟨g, o + i * 2, none⟩ = some (.int .u32 (M.getD i default).1) ∧ w9.cell? ⟨g, o + i * 2 + 1, none⟩ = some (.int .u64 (M.getD i default).2)) ∧ w9.cell? ⟨g', o' + i * 2, none⟩ = some (.int .u32 (M.getD i default).1) ∧ w9.cell? ⟨g', o' + i * 2 + 1, none⟩ = some (.int .u64 (M.getD i default).2) from fun i hi w9 h9 => by
            obtain ⟨g1, o1, e1, _, hc1⟩ := Rws.at_ encLs_len (Rws.then_ HRL.out h9) hlt
            obtain ⟨g2, o2, e2, _, hc2⟩ := Rws.at_ encLs_len (Rws.then_ HRM.out h9) hlt
            cases e1
            cases e2
            have k0 := hc1 i hi 0 _ (by decide) rfl
            have k1 := hc1 i hi 1 _ (by decide) rfl
            have k2 := hc2 i hi 0 _ (by decide) rfl
            have k3 := hc2 i hi 1 _ (by decide) rfl
            simp only [Nat.add_zero, ← Nat.add_assoc] at k0 k1 k2 k3
            exact ⟨⟨k0, k1⟩, k2, k3⟩)
          have hlit := OwnR.lit (e := 28) encLs_len wr [(xk, vk)] (by simp [maxLen])
          have hab := below_alloc (Below.refl wr.heap.size wr) (.cells #[.int .u32 xk, .int .u64 vk] 28)
          have HOW := Lib.hid (OwnR.then_ HO.out hab)
          have HRW := Lib.hid (hlit.rws encLs_len).2
          have HB5 := Lib.hid (below_then HB.out hab)
          have hsz := HB5.out.size
          clear hc hc' hg hg' hk hxk hlit hab ho hb hlt hkm hj
          go_wp2_with (at_builtin; refine wpList_append_rws encLs_len encLs_one Try.underlying24 infoLn (by decide) (by decide) (wr.alloc (.cells #[.int .u32 xk, .int .u64 vk] 28)) rfl (.tmp 92) (.tmp 101) rfl w4.heap.size At j ct (M.reverse.take j) (by rfl) HOW.out _ (some ⟨wr.heap.size, 0, none⟩) 1 1 [(xk, vk)] (by rfl) HRW.out (by unfold maxLen; omega) (by omega) hsz ?_)
          intro A6 c6 w6 h6 hg6 _
          rw [← HTK.out] at h6
          have HO6 := Lib.hid h6
          have HB6 := Lib.hid (OwnR.grownBelow HOW.out hg6 HB5.out hsz)
          clear h6 hg6 c0 c1 hsz
          obtain ⟨⟨a0, a1⟩, b0, b1⟩ := HCJ.out j HLT.out w6 HB6.out
          have HRS := Lib.hid (fun i (hi : 0 < i) (hj : i < m) => by
            have h := List.pairwise_iff_getElem.1 HUP.out (i - 1) i (by have := HMM.out; omega) (by have := HMM.out; omega) (by omega)
            have e1 : M.getD (i - 1) default = M[i - 1]'(by have := HMM.out; omega) := by rw [List.getD_eq_getElem?_getD, List.getElem?_eq_getElem (by have := HMM.out; omega)]; rfl
            have e2 : M.getD i default = M[i]'(by have := HMM.out; omega) := by rw [List.getD_eq_getElem?_getD, List.getElem?_eq_getElem (by have := HMM.out; omega)]; rfl
            exact (show (M.getD (i - 1) default).1 < (M.getD i default).1 by rw [e1, e2]; exact h))
          obtain ⟨⟨xj, vj⟩, hxj⟩ : ∃ q, q = M.getD j default := ⟨_, rfl⟩
          rw [← hxj] at a0 a1 b0 b1
          simp only at a0 a1 b0 b1
          have q1 := neq_ln xj vj
          have q2 := guard_ln
          have zeq : ((m : Int) != (m : Int)) = false := by simp
          by_cases hj0 : 0 < j
          · have y1 : decide ((0 : Int) < (j : Int)) = true := decide_eq_true (by omega)
            have y1n : decide (0 < j) = true := decide_eq_true hj0
            obtain ⟨j1, hj1⟩ : ∃ z, z = j - 1 := ⟨_, rfl⟩
            have z4 : j1 < m := by have := HLT.out; omega
            have z5 : (0 : Int) ≤ (j1 : Int) := Int.natCast_nonneg _
            have z6 : (j1 : Int) < (m : Int) := Int.ofNat_lt.2 z4
            have z7 : (0 : Int) < (j : Int) := by omega
            have z8 : (j : Int) - 1 < (m : Int) := by omega
            have z9 : (0 : Int) ≤ (j : Int) - 1 := by omega
            obtain ⟨⟨d0, _⟩, _⟩ := HCJ.out j1 z4 w6 HB6.out
            have hr := HRS.out j hj0 HLT.out
            rw [← hj1] at hr
            obtain ⟨xi, hxi⟩ : ∃ z, z = (M.getD j1 default).1 := ⟨_, rfl⟩
            rw [← hxi] at d0 hr
            rw [← hxj] at hr
            simp only at hr
            have y2 : decide (xj ≤ xi) = false := decide_eq_false (by omega)
            rw [hj1] at d0
            clear hxi hr hxj hj1 z4 z5 z6
            go_wp2_with fail
            go_quiet (fail)
            go_wp2_with fail
            go_roundw
            case rel => exact ⟨j + 1, A6, c6, by go_num, rfl, HLT.out, HO6.out, below_drewN HB6.out _⟩
            case measure => simp [intOf]; (have := HMS.out; omega)
          · have y1 : decide ((0 : Int) < (j : Int)) = false := decide_eq_false (by omega)
            have y1n : decide (0 < j) = false := decide_eq_false hj0
            clear hxj hj0
            go_wp2_with fail
            go_quiet (fail)
            go_wp2_with fail
            go_roundw
            case rel => exact ⟨j + 1, A6, c6, by go_num, rfl, HLT.out, HO6.out, below_drewN HB6.out _⟩
            case measure => simp [intOf]; (have := HMS.out; omega)
        · have hjm : j = m := by omega
          rw [hjm, List.take_of_length_le (by rw [List.length_reverse, HMM.out.1]; exact Nat.le_refl _)] at ho
          have hNW := new_any (OwnR.rws encLs_len ho).2 (by have := HMM.out; omega) (fun q hq => by have := HBD.out q (List.mem_reverse.1 hq); omega)
          unfold RetNl at hNW
          have HNW := Lib.hid hNW
          have HB5 := Lib.hid (below_then HB4.out hb)
          have HRL5 := Lib.hid (Rws.then_ HRL.out hb)
          obtain rfl : m = j := hjm.symm
          clear ho hb hNW hlt hj HO HB HRL HRM hmcap hmle
          go_wp2_with fail
          refine HNW.out.mono ?_
          rintro e w5 ⟨hn5, _, hb5⟩
          obtain ⟨pc, bc, rfl, hc5⟩ := hn5 HMK.out.1
          rw [HMK.out.2] at hc5
          have HC5 := Lib.hid (hc5.lower HB5.out.size)
          have HAP := Lib.hid (show Apart (fun i => i = bc) Al m from fun hn ad e h => by
            obtain ⟨g, o, e1, hg, _⟩ := Rws.at_ encLs_len HRL5.out hn
            have hbc := hc5.b_
            rw [e] at e1
            cases e1
            simp only at h
            omega)
          have HRL6 := Lib.hid (Rws.then_ HRL5.out hb5)
          have HB6 := Lib.hid (below_then HB5.out hb5)
          have HA5 := Lib.hid (all_any hc5.at_)
          unfold RetLl at HA5
          rw [← HMM.out.1] at HA5
          have zeq : ((m : Int) != (m : Int)) = false := by simp
          clear hn5 hb5 hc5 HNW HRL5 HB5
          go_wp2_with fail
          refine HA5.out.mono ?_
          rintro e w6 ⟨A6, c6, rfl, _, _, hb6⟩
          have HC6 := Lib.hid (HC5.out.then_ hb6)
          have HRL7 := Lib.hid (Rws.then_ HRL6.out hb6)
          have HB7 := Lib.hid (below_then HB6.out hb6)
          clear hb6 HA5 HC5 HRL6 HB6
          go_wp2_with fail
          clear zeq
          go_loopw [20] (fun i w9 => Bk3 w6 m i w9) (fun i _ => m - (intOf i).toNat)
          case atStart => exact ⟨0, rfl, Nat.zero_le _, Below.refl _ _⟩
          case round =>
            obtain ⟨j, rfl, hj, hb⟩ := hrel
            have HB := Lib.hid hb
            by_cases hlt : j < m
            · have z1 : (j : Int) < (m : Int) := Int.ofNat_lt.2 hlt
              have z0 : (0 : Int) ≤ (j : Int) := Int.natCast_nonneg _
              obtain ⟨⟨x, v⟩, hxv⟩ : ∃ q, q = M.getD j default := ⟨_, rfl⟩
              have HLT := Lib.hid hlt
              have HXV := Lib.hid hxv
              have hA9 : ∀ w9, Below wr.heap.size wr w9 → Calls Try.prog 20 #[.pointer (some ⟨pc, 0, none⟩)] w9 (RetLl w9 M) := fun w9 h9 => all_any ((HC6.out.then_ hb).then_ h9).at_
              unfold RetLl at hA9
              rw [← HMM.out.1] at hA9
              have HAL := Lib.hid hA9
              obtain ⟨g, o, rfl, hg, hc⟩ := Rws.at_ encLs_len (Rws.then_ HRL7.out hb) hlt
              have HCA := Lib.hid (show ∀ w9, Below wr.heap.size wr w9 → w9.cell? ⟨g, o + j * 2, none⟩ = some (.int .u32 x) ∧ w9.cell? ⟨g, o + j * 2 + 1, none⟩ = some (.int .u64 v) from fun w9 h9 => by
                have k0 := hc j hlt 0 _ (by decide) rfl
                have k1 := hc j hlt 1 _ (by decide) rfl
                rw [← hxv] at k0 k1
                simp only [Nat.add_zero, ← Nat.add_assoc] at k0 k1
                exact ⟨(h9.cell (p := ⟨g, o + j * 2, none⟩) hg).trans k0, (h9.cell (p := ⟨g, o + j * 2 + 1, none⟩) hg).trans k1⟩)
              have HMS := Lib.hid (show m - (j + 1) < m - j by omega)
              have q1 := neq_ln x v
              have q2 := guard_ln
              clear hc hg hxv hA9 hb hlt hj
              go_wp2_with fail
              have HAL := HAL.out
              have HCA := HCA.out
              refine Rg.wp_region_inv (Below wr.heap.size wr) (Rg.Wd.at [.is (.pointer (some ⟨pc, 0, none⟩)), .pred (CmL m M) CmL.stb, .is (.int .i64 (j : Int)), .pred (CmA x v) CmA.stb, .is (.agg #[.int .u32 x, .int .u64 v]), .is (.slice (some ⟨g, o, none⟩) m cl), .is (.int .i64 (j : Int)), .is (.pointer (some ⟨g, o + j * 2, none⟩)), .is (.agg #[.int .u32 x, .int .u64 v]), .is (.bool false)]) (by kernel_rfl) (by kernel_rfl) (Rg.Wd.stays _ _) ((below_drawn (Below.refl _ _))) ⟨?_, ?_, ?_, ?_, ?_, ?_, ?_, ?_, ?_, ?_, trivial⟩ ?_
              · intro a w1 hS hb hd
                have e18 := hb 18 (Rg.nw (by decide))
                simp [Act.eval] at e18
                exact Rg.does_pure (Rg.wanted_none rfl) (by simp [execOp, e18, go_sem]) hS rfl
              · intro a w1 hS hb hd
                have e158 := hd ⟨0, .data⟩ (by simp) rfl _ _ rfl rfl
                have e158 : a.tmps[158]?.getD undef = (.pointer (some ⟨pc, 0, none⟩)) := Rg.slot e158
                refine Rg.does_call (f := 20) (args := #[.pointer (some ⟨pc, 0, none⟩)]) (Rg.wanted_none rfl) (by simp [e158, go_sem]) ?_
                refine (HAL w1 hS).mono ?_; rintro e w3 ⟨A3, c3, rfl, hr, _, hb⟩; exact ⟨_, rfl, ⟨A3, c3, rfl, hr⟩, below_then hS hb, hb⟩
              · intro a w1 hS hb hd
                have e20 := hb 20 (Rg.nw (by decide))
                simp [Act.eval] at e20
                exact Rg.does_pure (Rg.wanted_none rfl) (by simp [execOp, e20, go_sem]) hS rfl
              · intro a w1 hS hb hd
                have e159 := hd ⟨1, .data⟩ (by simp) rfl _ _ rfl rfl
                have e160 := hd ⟨2, .data⟩ (by simp) rfl _ _ rfl rfl
                have e160 : a.tmps[160]?.getD undef = (.int .i64 (j : Int)) := Rg.slot e160
                obtain ⟨A3, c3, e1, hr⟩ := e159; have e3 := Rg.slot e1; obtain ⟨g3, o3, rfl, h3, hc3⟩ := Rws.at_ encLs_len hr HLT.out; have k0 := hc3 j HLT.out 0 _ (by decide) rfl; have k1 := hc3 j HLT.out 1 _ (by decide) rfl; rw [← HXV.out] at k0 k1; simp only [Nat.add_zero, ← Nat.add_assoc] at k0 k1; exact Rg.does_pure (x := .pointer (some ⟨g3, o3 + j * 2, none⟩)) (Rg.wanted_none rfl) (by simp [execOp, e160, e3, z0, z1, go_sem]) hS ⟨g3, o3 + j * 2, rfl, h3, k0, k1⟩
              · intro a w1 hS hb hd
                have e161 := hd ⟨3, .data⟩ (by simp) rfl _ _ rfl rfl
                obtain ⟨g3, o3, e1, h3, k0, k1⟩ := e161; have e3 := Rg.slot e1; exact Rg.does_pure (Rg.wanted_none rfl) (by simp [execOp, e3, k0, k1, go_sem]) hS rfl
              · intro a w1 hS hb hd
                have e14 := hb 14 (Rg.nw (by decide))
                simp [Act.eval] at e14
                exact Rg.does_pure (Rg.wanted_none rfl) (by simp [execOp, e14, go_sem]) hS rfl
              · intro a w1 hS hb hd
                have e20 := hb 20 (Rg.nw (by decide))
                simp [Act.eval] at e20
                exact Rg.does_pure (Rg.wanted_none rfl) (by simp [execOp, e20, go_sem]) hS rfl
              · intro a w1 hS hb hd
                have e163 := hd ⟨5, .data⟩ (by simp) rfl _ _ rfl rfl
                have e163 : a.tmps[163]?.getD undef = (.slice (some ⟨g, o, none⟩) m cl) := Rg.slot e163
                have e164 := hd ⟨6, .data⟩ (by simp) rfl _ _ rfl rfl
                have e164 : a.tmps[164]?.getD undef = (.int .i64 (j : Int)) := Rg.slot e164
                exact Rg.does_pure (Rg.wanted_none rfl) (by simp [execOp, e163, e164, z0, z1, go_sem]) hS rfl
              · intro a w1 hS hb hd
                have e165 := hd ⟨7, .data⟩ (by simp) rfl _ _ rfl rfl
                have e165 : a.tmps[165]?.getD undef = (.pointer (some ⟨g, o + j * 2, none⟩)) := Rg.slot e165
                exact Rg.does_pure (Rg.wanted_none rfl) (by simp [execOp, e165, (HCA w1 hS).1, (HCA w1 hS).2, go_sem]) hS rfl
              · intro a w1 hS hb hd
                have e162 := hd ⟨4, .data⟩ (by simp) rfl _ _ rfl rfl
                have e162 : a.tmps[162]?.getD undef = (.agg #[.int .u32 x, .int .u64 v]) := Rg.slot e162
                have e166 := hd ⟨8, .data⟩ (by simp) rfl _ _ rfl rfl
                have e166 : a.tmps[166]?.getD undef = (.agg #[.int .u32 x, .int .u64 v]) := Rg.slot e166
                exact Rg.does_pure (Rg.wanted_none rfl) (by simp [execOp, e162, e166, q1, q2, go_sem]) hS rfl
              · intro u w9 hS hu
                have u167 := hu 9 _ _ rfl rfl
                have HB9 := Lib.hid (below_then HB.out hS)
                clear hS hu HAL HCA
                simp only [Rg.putAll, Nat.zero_add, Nat.reduceAdd]
                simp only [Act.put, List.setIfInBounds_toArray, List.set_cons_succ, List.set_cons_zero]
                rw [u167]
                clear u167 q1 q2
                go_wp2_with fail
                go_roundw
                case rel => exact ⟨j + 1, by go_num, HLT.out, HB9.out⟩
                case measure => simp [intOf]; (have := HMS.out; omega)
            · have z1 : decide ((j : Int) < (m : Int)) = false := decide_eq_false (by omega)
              have z1n : decide (j < m) = false := decide_eq_false hlt
              have hC9 := HC6.out.then_ hb
              have HRL9 := Lib.hid (Rws.then_ HRL7.out hb)
              have HB9 := Lib.hid (below_then HB7.out hb)
              have HC9 := Lib.hid hC9
              have hdr := drop_any hC9.at_ (c := (g0 : Int)) (by omega)
              rw [Pl.drop_had] at hdr
              obtain ⟨f, hf⟩ : ∃ f, f = (Pl.delM M (g0 : Int)).length := ⟨_, rfl⟩
              rw [← hf, ← HMM.out.1] at hdr
              have HF := Lib.hid hf
              obtain ⟨hd, hhd⟩ : ∃ hd, hd = decide (f < m) := ⟨_, rfl⟩
              obtain ⟨r, hr⟩ : ∃ r : Int, r = if f < m then 0 else 6 := ⟨_, rfl⟩
              rw [← hr] at hdr
              have hrd : (r == 0) = hd := by
                rw [hr, hhd]
                by_cases h : f < m
                · rw [if_pos h, decide_eq_true h]; rfl
                · rw [if_neg h, decide_eq_false h]; rfl
              have HHD := Lib.hid hhd
              have HDR := Lib.hid hdr
              have hcg : IntKind.u32.wrap (g0 : Int) = (g0 : Int) := by rw [IntKind.wrap_u32]; omega
              clear hC9 hdr hf hr hhd hb hlt hj HB HC6 HRL7 HB7
              go_wp2_with fail
              refine HDR.out.mono ?_
              rintro e w7 ⟨rfl, hc7, ht7⟩
              obtain ⟨D, hD⟩ : ∃ D, D = Pl.delM M (g0 : Int) := ⟨_, rfl⟩
              rw [← hD] at hc7
              have HDE := Lib.hid hD
              have HC7 := Lib.hid (show LeasesO w7 W.heap.size pc bc D from ⟨HC9.out.p_, HC9.out.b_, hc7⟩)
              have HB7 := Lib.hid (HC9.out.below HB9.out ht7)
              have HRL7 := Lib.hid (Rws.tn HRL9.out ht7 HAP.out)
              clear hD hc7 ht7 HDR z1 z1n HB9 HRL9 HC9
              go_wp2_with fail
              clear hrd hcg
              go_loopw [22, 23] (fun lf i w9 => Bk4 w7 m M (g0 : Int) lf i w9) (fun _ i _ => m - (intOf i).toNat)
              case atStart => exact ⟨0, 0, rfl, rfl, rfl, Nat.zero_le _, Below.refl _ _⟩
              case round =>
                obtain ⟨j, l, rfl, rfl, hl, hj, hb⟩ := hrel
                have HB := Lib.hid hb
                by_cases hlt : j < m
                · have z1 : (j : Int) < (m : Int) := Int.ofNat_lt.2 hlt
                  have z0 : (0 : Int) ≤ (j : Int) := Int.natCast_nonneg _
                  have z12 : (m : Int) ≤ 12 := by have := HMM.out; omega
                  have hl12 : (l : Int) ≤ 12 := by
                    have h1 : (Pl.delM (M.take j) (g0 : Int)).length ≤ (M.take j).length := Pl.len_del_le _ _
                    rw [List.length_take] at h1
                    have := HMM.out
                    omega
                  obtain ⟨g, o, rfl, _, hc⟩ := Rws.at_ encLs_len (Rws.then_ HRL7.out hb) hlt
                  have c0 := hc j hlt 0 _ (by decide) rfl
                  have c1 := hc j hlt 1 _ (by decide) rfl
                  have hjM : j < M.length := by have := HMM.out; omega
                  have hdt := Pl.del_take hjM (g0 : Int)
                  have hmem := Pl.getD_mem hjM
                  obtain ⟨⟨x, v⟩, hxv⟩ : ∃ q, q = M.getD j default := ⟨_, rfl⟩
                  rw [← hxv] at c0 c1 hdt hmem
                  simp only [Nat.add_zero, ← Nat.add_assoc] at c0 c1 hdt
                  have hbd := HBD.out _ hmem
                  simp only at hbd
                  have HMS := Lib.hid (show m - (j + 1) < m - j by omega)
                  have HLT := Lib.hid hlt
                  have hcg : IntKind.u32.wrap (g0 : Int) = (g0 : Int) := by rw [IntKind.wrap_u32]; omega
                  by_cases hx : x = (g0 : Int)
                  · have y1 : (x != (g0 : Int)) = false := by simp [hx]
                    have HL := Lib.hid (show l = (Pl.delM (M.take (j + 1)) (g0 : Int)).length by rw [hdt, if_pos hx, hl]; exact (Nat.add_zero _).symm)
                    clear hc hjM hdt hmem hxv hbd hx hl hb hlt hj c1
                    go_wp2_with fail
                    go_roundw
                    case rel => exact ⟨j + 1, l, by go_num, rfl, HL.out, HLT.out, HB.out⟩
                    case measure => simp [intOf]; (have := HMS.out; omega)
                  · have y1 : (x != (g0 : Int)) = true := by simpa using hx
                    have HL := Lib.hid (show l + 1 = (Pl.delM (M.take (j + 1)) (g0 : Int)).length by rw [hdt, if_neg hx, hl])
                    obtain ⟨v1, hv1⟩ : ∃ z, z = v - 1 := ⟨_, rfl⟩
                    have hwv : IntKind.u64.wrap (v - 1) = v1 := by rw [IntKind.wrap_u64]; omega
                    have hyj := HC7.out.at_.then_ hb
                    have hq1 := Pl.live_left HUP.out hmem hx v1
                    have hq2 := Pl.live_left HUP.out hmem hx v
                    simp only at hq1 hq2
                    rw [← HDE.out, decide_eq_true (by omega)] at hq1
                    rw [← HDE.out, decide_eq_false (by omega)] at hq2
                    have HLV := Lib.hid (show ∀ (n : Nat) (t : Int) (r : Bool), (t = v1 ∧ r = true ∨ t = v ∧ r = false) → Calls Try.prog 21 #[.pointer (some ⟨pc, 0, none⟩), .int .u32 x, .int .u64 t] (wr.drewN n) fun e w' => e = .returned (.bool r) ∧ w' = wr.drewN n from fun n t r h => by
                      have hL : LeasesW (wr.drewN n) pc bc D := ⟨hyj.blk, hyj.own, hyj.ok, hyj.few⟩
                      rcases h with ⟨rfl, rfl⟩ | ⟨rfl, rfl⟩
                      · have := live_any hL (c := x) (by omega) t (by omega)
                        rwa [hq1] at this
                      · have := live_any hL (c := x) (by omega) t (by omega)
                        rwa [hq2] at this)
                    clear hc hjM hdt hmem hxv hbd hx hl hb hlt hj hv1 hyj hq1 hq2
                    go_wp2_with fail
                    go_quiet ((go_at_call 21; exact quiet_of (HLV.out _ _ _ (by first | exact Or.inl ⟨rfl, rfl⟩ | exact Or.inr ⟨rfl, rfl⟩))))
                    go_wp2_with fail
                    go_roundw
                    case rel => exact ⟨j + 1, l + 1, by go_num, by go_num, HL.out, HLT.out, below_drewN HB.out _⟩
                    case measure => simp [intOf]; (have := HMS.out; omega)
                · have hjm : j = m := by omega
                  rw [hjm, List.take_of_length_le (by rw [HMM.out.1]; exact Nat.le_refl _), ← HF.out] at hl
                  have HC9 := Lib.hid (HC7.out.then_ hb)
                  have HB9 := Lib.hid (below_then HB7.out hb)
                  have hA := all_any HC9.out.at_
                  unfold RetLl at hA
                  rw [HDE.out, ← HF.out, ← HDE.out] at hA
                  have HA := Lib.hid hA
                  obtain rfl : m = j := hjm.symm
                  obtain rfl : l = f := hl
                  have zff : ((l : Int) == (l : Int)) = true := by simp
                  have hcg : IntKind.u32.wrap (g0 : Int) = (g0 : Int) := by rw [IntKind.wrap_u32]; omega
                  have hhd : hd = decide (l < m) := HHD.out
                  have hhd2 : decide ((l : Int) < (m : Int)) = hd := by rw [HHD.out]; by_cases h : l < m <;> simp [h]
                  have hee : (hd == hd) = true := by simp
                  clear hb hlt hj hA HC7 HB7 hhd
                  go_wp2_with fail
                  refine HA.out.mono ?_
                  rintro e w8 ⟨A8, c8, rfl, _, _, hb8⟩
                  have HV := Lib.hid (live_own (HC9.out.then_ hb8) (c := (g0 : Int)) (by omega) (now := 0) (by decide) (r := false) (by rw [HDE.out]; exact Pl.live_gone HUP.out _ _))
                  have HB8 := Lib.hid (below_then HB9.out hb8)
                  clear hb8 HA HC9 HB9
                  go_wp2_with fail
                  refine HV.out.mono ?_
                  rintro e w9 ⟨rfl, hw⟩
                  rw [hw]
                  clear hw w9 HV
                  go_wp2_with fail
                  refine (HWK _).out.mono ?_
                  rintro e w9 ⟨rfl, hb9⟩
                  have HB9 := Lib.hid (below_then HB8.out hb9)
                  clear hb9
                  go_wp2_with fail
                  go_ret
                  exact ⟨rfl, HB9.out⟩
end Go.Proofs.Ytjplchajopkpcaa.leaseBack
