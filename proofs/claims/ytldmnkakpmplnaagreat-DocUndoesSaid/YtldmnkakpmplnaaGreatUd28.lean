/-
  Expire over the landed text: those who are not there are told, and each is deleted. Conditions: none but the leases'.
  New over the landed text. Conditions: none but that the row can be read.
-/
import Derived.Test.YtldmnkakpmplnaaGreatUd27
import Derived.Test.YtldmnkakpmplnaaGreatShelf
set_option maxRecDepth 100000
namespace Go.Proofs.YtldmnkakpmplnaaGreat.Ls
open Go.RowKit
theorem drops_add {M : Pl.Mks} {G : List Int} {j : Nat} {x : Int} (h : G[j]? = some x) : Pl.dropsM M (G.take (j + 1)) = Pl.delM (Pl.dropsM M (G.take j)) x := by
  unfold Pl.dropsM
  rw [List.take_add_one, h, List.foldl_append]
  rfl
def EpI (w5 : World) (p b base : Nat) (A : Option Addr) (n c : Nat) (M : Pl.Mks) (G : List Int) (i : Value) (wr : World) : Prop := ∃ j : Nat, i = .int .i64 (j : Int) ∧ j ≤ n ∧ OwnCl wr base (.slice A n c) G ∧ LeasesW wr p b (Pl.dropsM M (G.take j)) ∧ Tn (fun i => i = b) w5 wr
set_option maxHeartbeats 2000000 in
theorem expire_any {w : World} {p b : Nat} {M : Pl.Mks} (h : LeasesW w p b M) (now : Int) (_ : 0 ≤ now) : Calls Tryz.prog 152 #[.pointer (some ⟨p, 0, none⟩), .int .u64 now] w fun e w' => ∃ A c, e = .returned (.slice A (Pl.whichM false now M).length c) ∧ OwnCl w' w.heap.size (.slice A (Pl.whichM false now M).length c) (Pl.whichM false now M) ∧ LeasesW w' p b (Pl.thereM now M) ∧ Tn (fun i => i = b) w w' := by
  have HA := Lib.hid (clients_any h now false)
  have HL := Lib.hid h
  have HD := Lib.hid (Pl.drops_which h.ok.up now)
  have hkeys : ∀ x ∈ Pl.whichM false now M, 0 ≤ x ∧ x < 4294967296 := fun x hx => by
    unfold Pl.whichM at hx
    obtain ⟨q, hq, rfl⟩ := List.mem_map.1 hx
    exact h.ok.key q (List.mem_filter.1 hq).1
  have hn9 : (Pl.whichM false now M).length ≤ 1000 := Nat.le_trans (which_len false now M) (by have := h.few; omega)
  obtain ⟨G, hG⟩ : ∃ G, G = Pl.whichM false now M := ⟨_, rfl⟩
  rw [← hG] at HA HD hkeys hn9 ⊢
  obtain ⟨n, hn⟩ : ∃ n, n = G.length := ⟨_, rfl⟩
  rw [← hn] at HA hn9 ⊢
  have HN := Lib.hid hn
  have HK := Lib.hid hkeys
  clear h hn hkeys hG
  go_enter Tryz.func152, Tryz.ntmps152
  go_wp2_with fail
  refine HA.out.mono ?_
  rintro e w5 ⟨A, c, rfl, ho5, hb5⟩
  have HO5 := Lib.hid ho5
  have HB5 := Lib.hid hb5
  have HL5 := Lib.hid (HL.out.then_ hb5)
  have HBW := Lib.hid (show b < w.heap.size from HL.out.own.lt)
  clear ho5 hb5 HA
  go_wp2_with fail
  go_loopw [13] (fun i wr => EpI w5 p b w.heap.size A n c M G i wr) (fun i _ => n - (intOf i).toNat)
  case atStart => exact ⟨0, rfl, Nat.zero_le _, HO5.out, HL5.out, Tn.refl _ _⟩
  case round =>
    obtain ⟨j, rfl, hj, ho, hl, ht⟩ := hrel
    have HO := Lib.hid ho
    have HLJ := Lib.hid hl
    have HT := Lib.hid ht
    clear ho hl ht
    by_cases hlt : j < n
    · have hjG : j < G.length := by rw [← HN.out]; exact hlt
      obtain ⟨y, hy⟩ : ∃ y, y = G[j] := ⟨_, rfl⟩
      have hy1 : G[j]? = some y := by rw [List.getElem?_eq_getElem hjG, hy]
      have hky := HK.out y (by rw [hy]; exact List.getElem_mem hjG)
      obtain ⟨g, o, hA, _, hc⟩ := Rws.at_ encC_len (OwnR.rws encC_len HO.out).2 hlt
      have a0 := hc j hlt 0 _ (by decide) rfl
      rw [show G.getD j default = y by rw [List.getD_eq_getElem?_getD, hy1]; rfl] at a0
      subst hA
      simp only [Nat.mul_one, Nat.add_zero] at a0
      have z0 : (0 : Int) ≤ (j : Int) := Int.natCast_nonneg _
      have z1 : (j : Int) < (n : Int) := Int.ofNat_lt.2 hlt
      have HMS := Lib.hid (show n - (j + 1) < n - j by omega)
      have HG := Lib.hid (drops_add (M := M) hy1)
      have c0 := HLJ.out.cell
      have hown := HLJ.out.own
      have hkey := keyC hky
      clear hc hy hy1 hjG hky
      go_wp2_with (at_delete; refine wpList_delete_own _ rfl _ _ 178 28 rfl 27 keyedC Tryz.underlying178 _ _ _ _ rfl hown _ _ rfl hkey ?_; intro w1 hown1 hturn1)
      rw [delL_dat] at hown1
      have ht := turned_tn hturn1
      have hgb : ∀ i, Value.ownBlock (.slice (some ⟨g, o, none⟩) n c) = some i → ¬ i = b := fun i hi e => by
        have h1 := (OwnR.lt HO.out i hi).1
        have h2 := HBW.out
        omega
      go_roundw
      case rel => exact ⟨j + 1, by go_num, hlt, OwnR.tn HO.out ht hgb, by rw [HG.out]; exact ⟨ht.old HLJ.out.blk HLJ.out.ne, own_tight hown1, HLJ.out.ok.del y, Nat.le_trans (Pl.len_del_le _ _) HLJ.out.few⟩, HT.out.trans ht (fun _ _ h => h)⟩
      case measure => simp [intOf]; (have := HMS.out; omega)
    · have hjn : j = n := by omega
      have he : G.take j = G := by rw [hjn, HN.out, List.take_length]
      rw [he, HD.out] at HLJ
      have HTZ := Lib.hid ((Tn.of (fun i => i = b) HB5.out).trans HT.out (fun _ _ h => h))
      clear he
      go_wp2_with fail
      go_ret
      exact ⟨A, c, rfl, HO.out, HLJ.out, HTZ.out⟩
end Go.Proofs.YtldmnkakpmplnaaGreat.Ls
namespace Go.Proofs.YtldmnkakpmplnaaGreat.Ls
open Go.RowKit
def RetNl0 (w : World) (l : Pl.Mks) (e : Ending) (w' : World) : Prop :=
  (Lp.newL l = 0 → ∃ p b, e = .returned (.tuple #[.pointer (some ⟨p, 0, none⟩), .int .i64 0]) ∧ w.heap.size ≤ p ∧ w.heap.size ≤ b ∧ LeasesW w' p b (Pl.makeM l []).2) ∧ (Lp.newL l ≠ 0 → e = .returned (.tuple #[.pointer none, .int .i64 (Lp.newL l)])) ∧ Below w.heap.size w w'
theorem RetNl0.bad {w w' : World} {l M : Pl.Mks} (h : Pl.makeM l [] = (1, M)) (hb : Below w.heap.size w w') : RetNl0 w l (.returned (.tuple #[.pointer none, .int .i64 1])) w' := by
  have e : Lp.newL l = 1 := by unfold Lp.newL; rw [h]; exact if_pos (by simp)
  refine ⟨fun h0 => ?_, fun _ => by rw [e], hb⟩
  rw [e] at h0
  cases h0
theorem RetNl0.full {w w' : World} {l M : Pl.Mks} (h : Pl.makeM l [] = (0, M)) (hl : 16 < l.length) (hb : Below w.heap.size w w') : RetNl0 w l (.returned (.tuple #[.pointer none, .int .i64 7])) w' := by
  have e : Lp.newL l = 7 := by unfold Lp.newL; rw [h, if_neg (by simp), if_pos hl]
  refine ⟨fun h0 => ?_, fun _ => by rw [e], hb⟩
  rw [e] at h0
  cases h0
theorem RetNl0.good {w w' : World} {l M : Pl.Mks} {p b : Nat} (h : Pl.makeM l [] = (0, M)) (hl : ¬ 16 < l.length) (hp : w.heap.size ≤ p) (hb2 : w.heap.size ≤ b) (hL : LeasesW w' p b M) (hb : Below w.heap.size w w') : RetNl0 w l (.returned (.tuple #[.pointer (some ⟨p, 0, none⟩), .int .i64 0])) w' := by
  have e : Lp.newL l = 0 := by unfold Lp.newL; rw [h, if_neg (by simp), if_neg hl]
  refine ⟨fun _ => ⟨p, b, rfl, hp, hb2, ?_⟩, fun h0 => absurd e h0, hb⟩
  rw [h]
  exact hL
theorem len_put_new {M : Pl.Mks} {c v : Int} (hg : Pl.getM M c = none) : (Pl.putM M c v).length = M.length + 1 := by
  unfold Pl.putM
  rw [Pl.len_ins]
  congr 1
  unfold Pl.delM
  rw [List.filter_eq_self.2 fun p hp => ?_]
  unfold Pl.getM at hg
  rw [Option.map_eq_none_iff, List.find?_eq_none] at hg
  simpa using hg p hp
def NwL (w : World) (b n : Nat) (l : Pl.Mks) (i : Value) (wr : World) : Prop := ∃ (j : Nat) (M : Pl.Mks), i = .int .i64 (j : Int) ∧ j ≤ n ∧ wr.ownsMap Tryz.prog 28 (plainElem (H := Unit) Tryz.prog 27) b M.length (datL M) ∧ Lp.LsOk M ∧ Pl.makeM l [] = Pl.makeM (l.drop j) M ∧ Below w.heap.size w wr ∧ M.length = j
set_option maxHeartbeats 1000000 in
theorem new_any0 {w : World} {A : Option Addr} {n c : Nat} {l : Pl.Mks} (h : Rws encLs w w.heap.size A n c l) (hs : n ≤ 1000) (hl : ∀ o ∈ l, (0 ≤ o.1 ∧ o.1 < 4294967296) ∧ 0 ≤ o.2) :
    Calls Tryz.prog 47 #[.slice A n c] w (RetNl0 w l) := by
  have HR := Lib.hid h
  have HL := Lib.hid hl
  have hmm := @run_makeMap Tryz.prog
  clear h hl
  go_enter Tryz.func47, Tryz.ntmps47
  go_wp2_with fail
  have HX := Lib.hid (show NwL w w.heap.size n l (.int .i64 ((0 : Nat) : Int)) (w.alloc (.map #[] 0)) from ⟨0, [], rfl, Nat.zero_le _, World.ownsMap_made w _ _ _, Lp.LsOk.nil, rfl, below_alloc (Below.refl _ _) _, rfl⟩)
  generalize w.alloc (.map #[] 0) = W1 at HX ⊢
  clear hmm
  go_loopw [12] (fun i wr => NwL w w.heap.size n l i wr) (fun i _ => n - (intOf i).toNat)
  case atStart => exact HX.out
  case round =>
    obtain ⟨j, M, rfl, hj, ho, hok, hmk, hb, hmj⟩ := hrel
    have HMJ := Lib.hid hmj
    clear hmj
    have HO := Lib.hid ho
    have HK := Lib.hid hok
    have HB := Lib.hid hb
    by_cases hlt : j < n
    · have hjL : j < l.length := by rw [HR.out.len]; exact hlt
      obtain ⟨g, o, rfl, _, hc⟩ := Rws.at_ encLs_len (Rws.then_ HR.out hb) hlt
      have a0 := hc j hlt 0 _ (by decide) rfl
      have a1 := hc j hlt 1 _ (by decide) rfl
      have hbd := HL.out _ (Pl.getD_mem hjL)
      rw [make_at hjL] at hmk
      obtain ⟨⟨y, v⟩, hy⟩ : ∃ p, p = l.getD j default := ⟨_, rfl⟩
      rw [← hy] at a0 a1 hbd hmk
      simp only [Nat.add_zero, ← Nat.add_assoc] at a0 a1 hbd hmk
      have z0 : (0 : Int) ≤ (j : Int) := Int.natCast_nonneg _
      have z1 : (j : Int) < (n : Int) := Int.ofNat_lt.2 hlt
      have HMS := Lib.hid (show n - (j + 1) < n - j by omega)
      have HBa := Lib.hid (below_alloc HB.out (.cells #[.int .u32 y, .int .u64 v] 179))
      have hoa := HO.out.alloc (.cells #[.int .u32 y, .int .u64 v] 179)
      have hlk := look_ok hoa hbd.1
      cases hg : Pl.getM M y with
      | some u =>
        rw [hg] at hmk hlk
        rw [if_pos (show (some u).isSome = true ∨ 1099511627840 < v from Or.inl rfl)] at hmk
        have HMK := Lib.hid hmk
        clear hc hy ho hok hb hmk hjL hbd hg hoa hlt hj
        go_wp2_with fail
        go_returns
        exact RetNl0.bad HMK.out HBa.out
      | none =>
        rw [hg] at hmk hlk
        by_cases hv : 1099511627840 < v
        · rw [if_pos (show (none : Option Int).isSome = true ∨ 1099511627840 < v from Or.inr hv)] at hmk
          have HMK := Lib.hid hmk
          have y1 : decide (v > 1099511627840) = true := decide_eq_true hv
          have y2 : decide (1099511627840 < v) = true := decide_eq_true hv
          clear hc hy ho hok hb hmk hjL hbd hg hoa hlt hj hv
          go_wp2_with fail
          go_returns
          exact RetNl0.bad HMK.out HBa.out
        · rw [if_neg (show ¬ ((none : Option Int).isSome = true ∨ 1099511627840 < v) from fun h => h.elim (fun h => by cases h) hv)] at hmk
          have y1 : decide (v > 1099511627840) = false := decide_eq_false hv
          have y2 : decide (1099511627840 < v) = false := decide_eq_false hv
          obtain ⟨w6, hst, ho6, ht6⟩ := storeL hoa hok.len hbd.1 (v := v) (by omega)
          have HMK := Lib.hid hmk
          have HO6 := Lib.hid ho6
          have HK6 := Lib.hid (hok.put hbd.1 (show 0 ≤ v ∧ v ≤ 1099511627840 by omega))
          have HL6 := Lib.hid (show (Pl.putM M y v).length = j + 1 by rw [len_put_new hg, HMJ.out])
          have HB6 := Lib.hid (ht6.below HBa.out HBa.out.size (fun i e => by rw [e]; exact Nat.le_refl _))
          clear hc hy ho hok hb hmk hjL hbd hg hoa hj hv ho6 ht6
          go_wp2_with fail
          go_roundw
          case rel => exact ⟨j + 1, Pl.putM M y v, by go_num, hlt, HO6.out, HK6.out, HMK.out, HB6.out, HL6.out⟩
          case measure => simp [intOf]; (have := HMS.out; omega)
    · have hjn : j = n := by omega
      rw [hjn, List.drop_of_length_le (by rw [HR.out.len]; exact Nat.le_refl _)] at hmk
      have HMK := Lib.hid (show Pl.makeM l [] = (0, M) from hmk)
      have HLN := Lib.hid HR.out.len
      have hln := fun ty => HO.out.len Tryz.underlying178 ty
      simp only [sizeL_dat, HMJ.out, hjn] at hln
      by_cases hf : 16 < n
      · have y1 : decide ((n : Int) > 16) = true := decide_eq_true (by omega)
        have y2 : decide ((16 : Int) < (n : Int)) = true := decide_eq_true (by omega)
        have HF := Lib.hid (show 16 < l.length by rw [HR.out.len]; exact hf)
        clear ho hok hb hmk hf
        go_wp2_with fail
        go_returns
        exact RetNl0.full HMK.out HF.out HB.out
      · have y1 : decide ((n : Int) > 16) = false := decide_eq_false (by omega)
        have y2 : decide ((16 : Int) < (n : Int)) = false := decide_eq_false (by omega)
        have HF := Lib.hid (show ¬ 16 < l.length by rw [HR.out.len]; exact hf)
        have HF16 := Lib.hid (show M.length ≤ 16 by rw [HMJ.out, hjn]; omega)
        clear ho hok hb hmk hf
        go_wp2_with fail
        go_returns
        exact RetNl0.good HMK.out HF.out HB.out.size (Nat.le_refl _) ⟨heap_new rfl, HO.out.alloc _, HK.out, HF16.out⟩ (below_alloc HB.out _)
end Go.Proofs.YtldmnkakpmplnaaGreat.Ls
