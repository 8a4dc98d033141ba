/-
  LeaseExpires's walk: to let those go that are not there changes nothing of who is, at that tick or behind: it returns true; nothing that was there turns. Conditions: what the law is given can be read as data.
-/
import Derived.Test.YtjplchajopkpcaaLsW
import Derived.Test.YtjplchajopkpcaaLsO
import Derived.Deep.CutBlock
import Derived.Deep.DeepCutAuto
namespace Go.Proofs.Ytjplchajopkpcaa.leaseExpires
open Go.RowKit

/-- clients 0, 1, .. -/
def seqM (L : List Int) (k : Nat) : Pl.Mks := (List.range k).map fun i : Nat => ((i : Int), L.getD i 0 + 64)
theorem seq_len (L : List Int) (k : Nat) : (seqM L k).length = k := by simp [seqM]
theorem seq_succ (L : List Int) (k : Nat) : seqM L (k + 1) = seqM L k ++ [((k : Int), L.getD k 0 + 64)] := by unfold seqM; rw [List.range_succ, List.map_append]; rfl
theorem seq_mem {L : List Int} {k : Nat} {p : Int × Int} (h : p ∈ seqM L k) : ∃ i : Nat, i < k ∧ p = ((i : Int), L.getD i 0 + 64) := by
  obtain ⟨i, hi, rfl⟩ := List.mem_map.1 h
  exact ⟨i, List.mem_range.1 hi, rfl⟩
theorem ins_last (x : Int × Int) : ∀ M : Pl.Mks, (∀ p ∈ M, p.1 < x.1) → Pl.insM x M = M ++ [x]
  | [], _ => rfl
  | y :: r, h => by
    unfold Pl.insM
    rw [if_neg (by have := h y (List.mem_cons_self ..); omega), ins_last x r (fun p hp => h p (List.mem_cons_of_mem _ hp))]
    rfl
theorem put_last {M : Pl.Mks} {c v : Int} (h : ∀ p ∈ M, p.1 < c) : Pl.putM M c v = M ++ [(c, v)] := by
  have e : Pl.delM M c = M := List.filter_eq_self.2 fun p hp => by
    have := h p hp
    have e : (p.1 == c) = false := by rw [beq_eq_false_iff_ne]; omega
    rw [e]; rfl
  unfold Pl.putM
  rw [e, ins_last _ _ h]
theorem set_seq {L : List Int} {k : Nat} (hk : k < 16) {v : Int} (hv : L.getD k 0 = v) (hv2 : v < 65536) : Pl.setL (seqM L k) (k : Int) v = (0, seqM L (k + 1)) := by
  have hlt : ∀ p ∈ seqM L k, p.1 < (k : Int) := fun p hp => by obtain ⟨i, hi, rfl⟩ := seq_mem hp; simp only; omega
  rw [Pl.setL_new (by omega) (Pl.get_none.2 fun p hp => by have := hlt p hp; omega) (by rw [seq_len]; omega), put_last hlt, seq_succ, hv]
theorem len_parts (t : Int) : ∀ M : Pl.Mks, (Pl.whichM false t M).length + (Pl.thereM t M).length = M.length
  | [] => rfl
  | y :: r => by
    have ih := len_parts t r
    unfold Pl.whichM Pl.thereM at ih ⊢
    rw [List.length_map] at ih ⊢
    rw [List.filter_cons, List.filter_cons, List.length_cons]
    cases h : decide (t < y.2) <;> simp [List.length_cons] at ih ⊢ <;> omega
theorem none_gone (t : Int) (M : Pl.Mks) : Pl.whichM false t (Pl.thereM t M) = [] := by
  unfold Pl.whichM Pl.thereM
  rw [List.map_eq_nil_iff, List.filter_filter, List.filter_eq_nil_iff]
  intro p _
  cases decide (t < p.2) <;> simp
theorem there_twice (t : Int) (M : Pl.Mks) : Pl.thereM t (Pl.thereM t M) = Pl.thereM t M := by
  unfold Pl.thereM
  rw [List.filter_filter]
  congr 1
  funext p
  exact Bool.and_self _
theorem which_later {t s : Int} (h : t ≤ s) (M : Pl.Mks) : Pl.whichM true s M = Pl.whichM true s (Pl.thereM t M) := by
  unfold Pl.whichM Pl.thereM
  rw [List.filter_filter]
  congr 2
  funext p
  by_cases hs : s < p.2
  · rw [decide_eq_true hs, decide_eq_true (show t < p.2 by omega)]; rfl
  · rw [decide_eq_false hs]; rfl
theorem which_len (t : Int) (M : Pl.Mks) : (Pl.whichM true t (Pl.thereM t M)).length = (Pl.thereM t M).length := by
  unfold Pl.whichM
  rw [List.length_map]
  congr 1
  exact List.filter_eq_self.2 fun p hp => by
    have := (List.mem_filter.1 hp).2
    rw [this]; rfl
theorem gone_of {t : Int} {M : Pl.Mks} (hr : Pl.Rising M) {c : Int} (h : c ∈ Pl.whichM false t M) : Pl.liveM M c t = false ∧ Pl.getM (Pl.thereM t M) c = none := by
  obtain ⟨p, hp, rfl⟩ := List.mem_map.1 h
  obtain ⟨h1, h2⟩ := List.mem_filter.1 hp
  have hd : decide (t < p.2) = false := by cases hd : decide (t < p.2) with | true => rw [hd] at h2; cases h2 | false => rfl
  have hg := (Pl.get_iff hr).2 (show (p.1, p.2) ∈ M from h1)
  refine ⟨by rw [Pl.live_some hg]; exact hd, Pl.get_none.2 fun q hq e => ?_⟩
  obtain ⟨q1, q2⟩ := List.mem_filter.1 hq
  have hq2 := (Pl.get_iff hr).2 (show (q.1, q.2) ∈ M from q1)
  rw [e, hg] at hq2
  rw [← Option.some.inj hq2, hd] at q2
  cases q2
theorem left_of {t : Int} {M : Pl.Mks} (hr : Pl.Rising M) {p : Int × Int} (h : p ∈ Pl.thereM t M) : p ∈ M ∧ Pl.liveM (Pl.thereM t M) p.1 t = true := by
  obtain ⟨h1, h2⟩ := List.mem_filter.1 h
  have hg := (Pl.get_iff (Pl.rising_there hr t)).2 (show (p.1, p.2) ∈ Pl.thereM t M from h)
  exact ⟨h1, by rw [Pl.live_some hg]; exact h2⟩
/-- leases, and others that live apart and alone may turn -/
structure LtS (W w : World) (p b q d : Nat) (M N : Pl.Mks) : Prop where
  x : LeasesO w W.heap.size p b M
  y : LeasesO w W.heap.size q d N
  ap : p ≠ d ∧ b ≠ d
  below : Below W.heap.size W w
section
variable {W w w' : World} {p b q d : Nat} {M N N' : Pl.Mks}
theorem LtS.then_ (h : LtS W w p b q d M N) (hb : Below w.heap.size w w') : LtS W w' p b q d M N := ⟨h.x.then_ hb, h.y.then_ hb, h.ap, below_then h.below hb⟩
theorem LtS.turn (h : LtS W w p b q d M N) (hy : LeasesW w' q d N') (ht : Tn (fun i => i = d) w w') : LtS W w' p b q d M N' :=
  ⟨⟨h.x.p_, h.x.b_, h.x.at_.tn ht (fun e => h.ap.1 e) (fun e => h.ap.2 e)⟩, ⟨h.y.p_, h.y.b_, hy⟩, h.ap, h.y.below h.below ht⟩
end
/-- while leases are set -/
def ExF (W : World) (p b n : Nat) (L : List Int) (i : Value) (wr : World) : Prop := ∃ j : Nat, i = .int .i64 (j : Int) ∧ j ≤ n ∧ j ≤ 16 ∧ LeasesO wr W.heap.size p b (seqM L j) ∧ Below W.heap.size W wr
/-- while those that are left are asked -/
def ExL (w1 : World) (n : Nat) (i : Value) (wr : World) : Prop := ∃ j : Nat, i = .int .i64 (j : Int) ∧ j ≤ n ∧ Below w1.heap.size w1 wr
/-- while those that went are asked -/
def ExG (W : World) (p b q d n : Nat) (M N : Pl.Mks) (A : Option Addr) (c : Nat) (cs : List Int) (i : Value) (wr : World) : Prop := ∃ j : Nat, i = .int .i64 (j : Int) ∧ j ≤ n ∧ LtS W wr p b q d M N ∧ OwnCl wr W.heap.size (.slice A n c) cs ∧ (∀ g, Value.ownBlock (.slice A n c) = some g → g ≠ d)
set_option maxRecDepth 100000 in
set_option maxHeartbeats 4000000 in
theorem walk (W : World) (A : Option Addr) (n c : Nat) (L : List Int) (hL : Rws encS W W.heap.size A n c L ∧ ∀ o ∈ L, 0 ≤ o ∧ o < 65536) (t0 : Nat) (ht0 : t0 < 65536) (s0 : Nat) (hs0 : s0 < 65536) :
    Calls Try.prog 5 #[.slice A n c, .int .u16 (t0 : Int), .int .u16 (s0 : Int)] W fun e w' => e = .returned (.bool true) ∧ Below W.heap.size W w' := by
  obtain ⟨hrow, hby⟩ := hL
  have hle := hrow.le
  have hcap := hrow.cap
  unfold maxLen at hcap
  have HROW := Lib.hid hrow
  have HBY := Lib.hid hby
  have HN := Lib.hid (new_none W)
  have HWK := fun w => Lib.hid (wakes_any w)
  clear hrow hby
  go_enter Try.func5, Try.ntmps5
  go_wp2_with fail
  refine HN.out.mono ?_
  rintro e w1 ⟨p, b, rfl, h1, hb1⟩
  have HX := Lib.hid (show ExF W p b n L (.int .i64 ((0 : Nat) : Int)) w1 from ⟨0, rfl, Nat.zero_le _, Nat.zero_le _, h1, hb1⟩)
  clear h1 hb1 HN
  go_upto_block 0 with fail
  go_cut [9] (fun _ wx => ∃ k : Nat, k = min n 16 ∧ LeasesO wx W.heap.size p b (seqM L k) ∧ Below W.heap.size W wx)
  case first =>
    go_wp2_with fail
    go_loopw [9] (fun i wr => ExF W p b n L i wr) (fun i _ => n - (intOf i).toNat)
    case atStart => exact HX.out
    case round =>
      obtain ⟨j, rfl, hj, hj16, hl, hb⟩ := hrel
      have HLJ := Lib.hid hl
      have HBJ := Lib.hid hb
      by_cases hlt : j < n
      · have z1 : decide ((j : Int) < (n : Int)) = true := decide_eq_true (by omega)
        have z3 : (j : Int) < (n : Int) := by omega
        have z0 : (0 : Int) ≤ (j : Int) := Int.natCast_nonneg _
        by_cases h16 : j < 16
        · have z2 : decide ((j : Int) < 16) = true := decide_eq_true (by omega)
          have hrw := Rws.then_ HROW.out hb
          obtain ⟨g, o, rfl, _, hc⟩ := Rws.at_ encS_len hrw hlt
          have a0 := hc j hlt 0 _ (by decide) rfl
          have hy := HBY.out (L.getD j default) (by rw [List.getD_eq_getElem?_getD, List.getElem?_eq_getElem (by rw [hrw.len]; exact hlt)]; exact List.getElem_mem _)
          obtain ⟨v, hv⟩ : ∃ v, v = L.getD j 0 := ⟨_, rfl⟩
          rw [show L.getD j default = L.getD j 0 from rfl, ← hv] at a0 hy
          simp only [Nat.mul_one, Nat.add_zero] at a0
          have HS := Lib.hid (set_own hl hb (c := (j : Int)) (by omega) (now := v) hy.1 (set_seq h16 hv.symm hy.2))
          have hwv : IntKind.u64.wrap v = v := by rw [IntKind.wrap_u64]; omega
          have hwj : IntKind.u32.wrap (j : Int) = (j : Int) := by rw [IntKind.wrap_u32]; omega
          have HMS := Lib.hid (show n - (j + 1) < n - j by omega)
          have HLT := Lib.hid (And.intro hlt h16)
          clear hl hb hrw hc hy hv hlt
          go_wp2_with fail
          refine HS.out.mono ?_
          rintro e w5 ⟨rfl, h5, hb5⟩
          have H5 := Lib.hid h5
          have HB5 := Lib.hid hb5
          clear h5 hb5 HS
          go_wp2_with fail
          go_roundw
          case rel => exact ⟨j + 1, by go_num, HLT.out.1, HLT.out.2, H5.out, HB5.out⟩
          case measure => simp [intOf]; (have := HMS.out; omega)
        · have z2 : decide ((j : Int) < 16) = false := decide_eq_false (by omega)
          have hk : j = min n 16 := by omega
          clear hl hb
          go_wp2_with fail
          go_meet
          exact ⟨j, hk, HLJ.out, HBJ.out⟩
      · have z1 : decide ((j : Int) < (n : Int)) = false := decide_eq_false (by omega)
        have z1n : decide (j < n) = false := decide_eq_false hlt
        have hk : j = min n 16 := by omega
        clear hl hb
        go_wp2_with fail
        go_meet
        exact ⟨j, hk, HLJ.out, HBJ.out⟩
  case rest =>
    obtain ⟨k, hk, hlx, hbx⟩ := hcut
    obtain ⟨M, hM⟩ : ∃ M, M = seqM L k := ⟨_, rfl⟩
    have HMK := Lib.hid (show M.length = k by rw [hM, seq_len])
    have HMM := Lib.hid (show ∀ q ∈ M, ∃ i : Nat, i < k ∧ q = ((i : Int), L.getD i 0 + 64) from fun q hq => by rw [hM] at hq; exact seq_mem hq)
    rw [← hM] at hlx
    have HKN := Lib.hid (show k ≤ n ∧ k ≤ 16 by omega)
    have hmin : (if (16 : Int) < (n : Int) then (16 : Int) else (n : Int)) = (k : Int) := by split <;> omega
    have HUP := Lib.hid hlx.at_.ok.up
    have HCP := Lib.hid (copy_any hlx.at_)
    have HLX := Lib.hid hlx
    have HBX := Lib.hid hbx
    have hwt : IntKind.u64.wrap (t0 : Int) = (t0 : Int) := by rw [IntKind.wrap_u64]; omega
    clear hk hM hlx hbx HX
    go_wp2_with fail
    refine HCP.out.mono ?_
    rintro e w2 ⟨q, d, rfl, hq, hd, hy, hb2⟩
    have HS2 := Lib.hid (show LtS W w2 p b q d M M from ⟨HLX.out.then_ hb2, ⟨Nat.le_trans HBX.out.size hq, Nat.le_trans HBX.out.size hd, hy⟩, ⟨by have := HLX.out.at_.lt; omega, by have := HLX.out.at_.own.lt; omega⟩, below_then HBX.out hb2⟩)
    clear hq hd hy hb2 HCP HLX HBX
    have HE2 := Lib.hid (expire_any HS2.out.y.at_ (t0 : Int) (by omega))
    obtain ⟨G, hG⟩ : ∃ G, G = Pl.whichM false (t0 : Int) M := ⟨_, rfl⟩
    obtain ⟨N, hN⟩ : ∃ N, N = Pl.thereM (t0 : Int) M := ⟨_, rfl⟩
    have HGL := Lib.hid (show G.length + N.length = k by rw [hG, hN, len_parts, HMK.out])
    have HGG := Lib.hid (show ∀ c ∈ G, Pl.liveM M c (t0 : Int) = false ∧ Pl.dropL N c = (6, N) ∧ (0 ≤ c ∧ c < 4294967296) from fun c hc => by
      rw [hG] at hc
      have := gone_of HUP.out hc
      rw [← hN] at this
      obtain ⟨q, hq, rfl⟩ := List.mem_map.1 hc
      obtain ⟨i, hi, rfl⟩ := HMM.out q (List.mem_filter.1 hq).1
      exact ⟨this.1, if_pos this.2, by simp only; have := HKN.out; omega⟩)
    have HNN := Lib.hid (show ∀ q ∈ N, q ∈ M ∧ Pl.liveM N q.1 (t0 : Int) = true from fun q hq => by
      rw [hN] at hq ⊢
      exact left_of HUP.out hq)
    have HN0 := Lib.hid (show Pl.whichM false (t0 : Int) N = [] ∧ Pl.thereM (t0 : Int) N = N from by rw [hN]; exact ⟨none_gone _ _, there_twice _ _⟩)
    have HNW := Lib.hid (show (∀ s, (t0 : Int) ≤ s → Pl.whichM true s M = Pl.whichM true s N) ∧ (Pl.whichM true (t0 : Int) N).length = N.length from by rw [hN]; exact ⟨fun s hs => which_later hs M, which_len _ _⟩)
    rw [← hG, ← hN] at HE2
    obtain ⟨gn, hgn⟩ : ∃ z, z = G.length := ⟨_, rfl⟩
    obtain ⟨zn, hzn⟩ : ∃ z, z = N.length := ⟨_, rfl⟩
    rw [← hgn] at HE2 HGL
    rw [← hzn] at HGL HNW
    have HGN := Lib.hid hgn
    have HZN := Lib.hid hzn
    clear hG hN hgn hzn
    go_wp2_with fail
    refine HE2.out.mono ?_
    rintro e w3 ⟨A3, c3, rfl, ho3, hy3, ht3⟩
    have hs3 := HS2.out.turn hy3 ht3
    have HS3 := Lib.hid hs3
    have HO3 := Lib.hid (OwnR.lower ho3 HS2.out.below.size)
    have HG3 := Lib.hid (show ∀ g, Value.ownBlock (.slice A3 gn c3) = some g → g ≠ d from fun g hg => by have := (OwnR.lt ho3 g hg).1; have := HS2.out.y.at_.own.lt; omega)
    have HA3 := Lib.hid (all_any hs3.y.at_)
    clear ho3 hy3 ht3 hs3 HE2
    go_wp2_with fail
    refine HA3.out.mono ?_
    rintro e w4 ⟨A4, c4, rfl, hr4, hn4, hb4⟩
    rw [← HZN.out] at hr4 ⊢
    have HS4 := Lib.hid (HS3.out.then_ hb4)
    have HO4 := Lib.hid (OwnR.then_ HO3.out hb4)
    have HR4 := Lib.hid hr4
    have HN4 := Lib.hid (show ∀ a, A4 = some a → a.block ≠ d from fun a e => by have := hn4.1 a e; have := HS3.out.y.at_.own.lt; omega)
    have hE4 := expire_any HS4.out.y.at_ (t0 : Int) (by omega)
    rw [HN0.out.1, HN0.out.2] at hE4
    have HE4 := Lib.hid hE4
    have hgz : wrap64 ((gn : Int) + (zn : Int)) = (k : Int) := by have := HGL.out; have := HKN.out; unfold wrap64; omega
    have hkk : ((k : Int) != (k : Int)) = false := by simp
    clear hr4 hn4 hb4 hE4 HA3 HS3 HO3
    go_wp2_with fail
    refine HE4.out.mono ?_
    rintro e w5 ⟨A5, c5, rfl, _, hy5, ht5⟩
    have HS5 := Lib.hid (HS4.out.turn hy5 ht5)
    have HO5 := Lib.hid (OwnR.tn HO4.out ht5 (fun g hg e => HG3.out g hg e))
    have HR5 := Lib.hid (Rws.tn HR4.out ht5 (fun _ ad e hi => HN4.out ad e hi))
    have hzcap := HR5.out.cap
    have hzle := HR5.out.le
    unfold maxLen at hzcap
    clear hy5 ht5 HE4 HS4 HO4 HR4 hgz hkk
    simp only [List.length_nil]
    go_wp2_with fail
    clear hmin
    go_loopw [14] (fun i wr => ExL w5 zn i wr) (fun i _ => zn - (intOf i).toNat)
    case atStart => exact ⟨0, rfl, Nat.zero_le _, Below.refl _ _⟩
    case round =>
      obtain ⟨j, rfl, hj, hb⟩ := hrel
      have HB := Lib.hid hb
      by_cases hlt : j < zn
      · obtain ⟨g, o, rfl, _, hc⟩ := Rws.at_ encLs_len (Rws.then_ HR5.out hb) hlt
        have a0 := hc j hlt 0 _ (by decide) rfl
        have a1 := hc j hlt 1 _ (by decide) rfl
        have hjN : j < N.length := by have := HZN.out; omega
        have hm := HNN.out _ (Pl.getD_mem hjN)
        obtain ⟨⟨cl, v⟩, hcl⟩ : ∃ p, p = N.getD j default := ⟨_, rfl⟩
        rw [← hcl] at a0 a1 hm
        simp only [Nat.add_zero, ← Nat.add_assoc] at a0 a1 hm
        obtain ⟨i, hi, hpi⟩ := HMM.out _ hm.1
        obtain ⟨rfl, hv⟩ := Prod.mk.inj hpi
        have hin : i < n := by have := HKN.out; omega
        have hrw := Rws.then_ (Rws.then_ HROW.out HS5.out.below) hb
        obtain ⟨g2, o2, rfl, _, hc2⟩ := Rws.at_ encS_len hrw hin
        have b0 := hc2 i hin 0 _ (by decide) rfl
        have hy := HBY.out (L.getD i default) (by rw [List.getD_eq_getElem?_getD, List.getElem?_eq_getElem (by rw [hrw.len]; exact hin)]; exact List.getElem_mem _)
        obtain ⟨u, hu⟩ : ∃ u : Nat, L.getD i 0 = (u : Int) := ⟨(L.getD i default).toNat, by have : L.getD i 0 = L.getD i default := rfl; omega⟩
        rw [show L.getD i default = L.getD i 0 from rfl, hu] at b0 hy
        rw [hu] at hv
        simp only [Nat.mul_one, Nat.add_zero] at b0
        have hw1 : IntKind.u64.wrap ((u : Int) + 64) = v := by rw [IntKind.wrap_u64]; omega
        have hw2 : IntKind.u64.wrap (u : Int) = (u : Int) := by rw [IntKind.wrap_u64]; omega
        have z0 : (0 : Int) ≤ (j : Int) := Int.natCast_nonneg _
        have z1 : (j : Int) < (zn : Int) := Int.ofNat_lt.2 hlt
        have z2 : (0 : Int) ≤ (i : Int) := Int.natCast_nonneg _
        have z3 : (i : Int) < (n : Int) := Int.ofNat_lt.2 hin
        have hyj := HS5.out.y.at_.then_ hb
        have HLV := Lib.hid (fun m => live_any (show LeasesW (wr.drewN m) q d N from ⟨hyj.blk, hyj.own, hyj.ok, hyj.few⟩) (c := (i : Int)) (by have := HKN.out; omega) (t0 : Int) (by omega))
        rw [hm.2] at HLV
        have HMS := Lib.hid (show zn - (j + 1) < zn - j by omega)
        have HJ := Lib.hid hlt
        clear hc hjN hm hcl hpi hv hin hrw hc2 hy hu hyj hb hi
        go_wp2_with fail
        go_quiet ((go_at_call 21; exact quiet_of (HLV.out _)))
        obtain ⟨wq, hwq⟩ : ∃ x, x = wr.drewN nq := ⟨_, rfl⟩
        rw [← hwq]
        have HBQ := Lib.hid (show Below w5.heap.size w5 wq by rw [hwq]; exact below_drewN HB.out _)
        clear hwq
        go_wp2_with fail
        go_roundw
        case rel => exact ⟨j + 1, by go_num, HJ.out, HBQ.out⟩
        case measure => simp [intOf]; (have := HMS.out; omega)
      · have HS6 := Lib.hid (HS5.out.then_ hb)
        have HO6 := Lib.hid (OwnR.then_ HO5.out hb)
        have hgcap := (OwnR.rws encC_len HO6.out).2.cap
        have hgle := (OwnR.rws encC_len HO6.out).2.le
        unfold maxLen at hgcap
        have hjz : j = zn := by omega
        clear hb
        go_wp2_with fail
        clear hjz hlt hj
        go_loopw [15] (fun i w9 => ExG W p b q d gn M N A3 c3 G i w9) (fun i _ => gn - (intOf i).toNat)
        case atStart => exact ⟨0, rfl, Nat.zero_le _, HS6.out, HO6.out, HG3.out⟩
        case round =>
          obtain ⟨r, rfl, hr, hs, ho, _⟩ := hrel
          have HSR := Lib.hid hs
          have HOR := Lib.hid ho
          by_cases hlt : r < gn
          · obtain ⟨g, o, rfl, _, hc⟩ := Rws.at_ encC_len (OwnR.rws encC_len ho).2 hlt
            have a0 := hc r hlt 0 _ (by decide) rfl
            simp only [Nat.mul_one, Nat.add_zero] at a0
            have hrG : r < G.length := by have := HGN.out; omega
            have hgm := HGG.out (G.getD r 0) (by rw [List.getD_eq_getElem?_getD, List.getElem?_eq_getElem hrG]; exact List.getElem_mem _)
            obtain ⟨x, hx⟩ : ∃ x, x = G.getD r 0 := ⟨_, rfl⟩
            rw [show G.getD r default = G.getD r 0 from rfl, ← hx] at a0
            rw [← hx] at hgm
            have hkx := hgm.2.2
            have HLV := Lib.hid (live_own hs.x hkx (now := (t0 : Int)) (by omega) hgm.1)
            have hdr := drop_any hs.y.at_ hkx
            rw [hgm.2.1] at hdr
            have HDR := Lib.hid hdr
            have z0 : (0 : Int) ≤ (r : Int) := Int.natCast_nonneg _
            have z1 : (r : Int) < (gn : Int) := Int.ofNat_lt.2 hlt
            have HMS := Lib.hid (show gn - (r + 1) < gn - r by omega)
            have HJ := Lib.hid hlt
            clear hc hrG hgm hx hkx hdr hs ho
            go_wp2_with fail
            refine HLV.out.mono ?_
            rintro e w7 ⟨rfl, hw⟩
            rw [hw]
            clear hw w7 HLV
            go_wp2_with fail
            refine HDR.out.mono ?_
            rintro e w7 ⟨rfl, hy7, ht7⟩
            have HS7 := Lib.hid (HSR.out.turn hy7 ht7)
            have HO7 := Lib.hid (OwnR.tn HOR.out ht7 (fun g hg e => HG3.out g hg e))
            clear hy7 ht7 HDR
            go_wp2_with fail
            go_roundw
            case rel => exact ⟨r + 1, by go_num, HJ.out, HS7.out, HO7.out, HG3.out⟩
            case measure => simp [intOf]; (have := HMS.out; omega)
          · have hrg : r = gn := by omega
            obtain ⟨la, hla⟩ : ∃ z : Int, z = (t0 : Int) + (s0 : Int) := ⟨_, rfl⟩
            have hwl : IntKind.u64.wrap ((t0 : Int) + (s0 : Int)) = la := by rw [IntKind.wrap_u64]; omega
            have hws : IntKind.u64.wrap (s0 : Int) = (s0 : Int) := by rw [IntKind.wrap_u64]; omega
            have HLA := Lib.hid (show (t0 : Int) ≤ la ∧ 0 ≤ la by omega)
            have HT1 := Lib.hid (there_any hs.x.at_ (t0 : Int) (by omega))
            rw [HNW.out.1 _ (Int.le_refl _)] at HT1
            unfold RetC at HT1
            rw [HNW.out.2] at HT1
            clear hs ho hla
            go_wp2_with fail
            refine HT1.out.mono ?_
            rintro e w7 ⟨A7, c7, rfl, ho7, hb7⟩
            have HS7 := Lib.hid (HSR.out.then_ hb7)
            have HO7 := Lib.hid (OwnR.rws encC_len ho7).2
            have HT2 := Lib.hid (there_any HS7.out.y.at_ (t0 : Int) (by omega))
            unfold RetC at HT2
            rw [HNW.out.2] at HT2
            clear ho7 hb7 HT1 HSR
            go_wp2_with fail
            refine HT2.out.mono ?_
            rintro e w8 ⟨A8, c8, rfl, ho8, hb8⟩
            have HS8 := Lib.hid (HS7.out.then_ hb8)
            have HSM := Lib.hid (rsame_yes (Rws.then_ HO7.out hb8) (OwnR.rws encC_len ho8).2 rfl)
            clear ho8 hb8 HT2 HS7 HO7
            go_wp2_with fail
            refine (show Calls Try.prog 16 _ _ _ from HSM.out).mono ?_
            rintro e w9 ⟨rfl, hb9⟩
            have HS9 := Lib.hid (HS8.out.then_ hb9)
            have HT1 := Lib.hid (there_any HS9.out.x.at_ la HLA.out.2)
            rw [HNW.out.1 _ HLA.out.1] at HT1
            unfold RetC at HT1
            obtain ⟨ln, hln⟩ : ∃ z, z = (Pl.whichM true la N).length := ⟨_, rfl⟩
            rw [← hln] at HT1
            have HLN := Lib.hid hln
            clear hb9 HSM HS8 hln
            go_wp2_with fail
            refine HT1.out.mono ?_
            rintro e w7 ⟨A7, c7, rfl, ho7, hb7⟩
            have HS7 := Lib.hid (HS9.out.then_ hb7)
            have HO7 := Lib.hid (OwnR.rws encC_len ho7).2
            have HT2 := Lib.hid (there_any HS7.out.y.at_ la HLA.out.2)
            unfold RetC at HT2
            rw [← HLN.out] at HT2
            clear ho7 hb7 HT1 HS9
            go_wp2_with fail
            refine HT2.out.mono ?_
            rintro e w8 ⟨A8, c8, rfl, ho8, hb8⟩
            have HS8 := Lib.hid (HS7.out.then_ hb8)
            have HSM := Lib.hid (rsame_yes (Rws.then_ HO7.out hb8) (OwnR.rws encC_len ho8).2 rfl)
            clear ho8 hb8 HT2 HS7 HO7
            go_wp2_with fail
            refine (show Calls Try.prog 16 _ _ _ from HSM.out).mono ?_
            rintro e w9 ⟨rfl, hb9⟩
            have HS9 := Lib.hid (HS8.out.then_ hb9)
            have HT2 := Lib.hid (there_any HS9.out.y.at_ (t0 : Int) (by omega))
            unfold RetC at HT2
            rw [HNW.out.2] at HT2
            clear hb9 HSM HS8
            go_wp2_with fail
            refine HT2.out.mono ?_
            rintro e w8 ⟨A8, c8, rfl, _, hb8⟩
            have HB8 := Lib.hid (below_then HS9.out.below hb8)
            clear hb8 HT2 HS9
            go_wp2_with fail
            refine (HWK _).out.mono ?_
            rintro e w9 ⟨rfl, hb9⟩
            have HB9 := Lib.hid (below_then HB8.out hb9)
            clear hb9
            go_wp2_with fail
            go_ret
            exact ⟨rfl, HB9.out⟩
end Go.Proofs.Ytjplchajopkpcaa.leaseExpires
