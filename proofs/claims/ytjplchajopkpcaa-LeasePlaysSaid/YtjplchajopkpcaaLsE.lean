/-
  Expire over the landed text: those who are not there are told, and each is deleted. Conditions: none but the leases'.
-/
import Derived.Test.YtjplchajopkpcaaLsC
namespace Go.Proofs.Ytjplchajopkpcaa
open Go.RowKit

theorem drops_add {M : Pl.Mks} {G : List Int} {j : Nat} {x : Int} (h : G[j]? = some x) : Pl.dropsM M (G.take (j + 1)) = Pl.delM (Pl.dropsM M (G.take j)) x := by
  unfold Pl.dropsM
  rw [List.take_add_one, h, List.foldl_append]
  rfl
/-- between one and the next of Expire -/
def EpI (w5 : World) (p b base : Nat) (A : Option Addr) (n c : Nat) (M : Pl.Mks) (G : List Int) (i : Value) (wr : World) : Prop := ∃ j : Nat, i = .int .i64 (j : Int) ∧ j ≤ n ∧ OwnCl wr base (.slice A n c) G ∧ LeasesW wr p b (Pl.dropsM M (G.take j)) ∧ Tn (fun i => i = b) w5 wr
set_option maxRecDepth 100000 in
set_option maxHeartbeats 2000000 in
theorem expire_any {w : World} {p b : Nat} {M : Pl.Mks} (h : LeasesW w p b M) (now : Int) (_ : 0 ≤ now) : Calls Try.prog 15 #[.pointer (some ⟨p, 0, none⟩), .int .u64 now] w fun e w' => ∃ A c, e = .returned (.slice A (Pl.whichM false now M).length c) ∧ OwnCl w' w.heap.size (.slice A (Pl.whichM false now M).length c) (Pl.whichM false now M) ∧ LeasesW w' p b (Pl.thereM now M) ∧ Tn (fun i => i = b) w w' := by
  have HA := Lib.hid (clients_any h now false)
  have HL := Lib.hid h
  have HD := Lib.hid (Pl.drops_which h.ok.up now)
  have hkeys : ∀ x ∈ Pl.whichM false now M, 0 ≤ x ∧ x < 4294967296 := fun x hx => by
    unfold Pl.whichM at hx
    obtain ⟨q, hq, rfl⟩ := List.mem_map.1 hx
    exact h.ok.key q (List.mem_filter.1 hq).1
  have hn9 : (Pl.whichM false now M).length ≤ 1000 := Nat.le_trans (which_len false now M) (by have := h.few; omega)
  obtain ⟨G, hG⟩ : ∃ G, G = Pl.whichM false now M := ⟨_, rfl⟩
  rw [← hG] at HA HD hkeys hn9 ⊢
  obtain ⟨n, hn⟩ : ∃ n, n = G.length := ⟨_, rfl⟩
  rw [← hn] at HA hn9 ⊢
  have HN := Lib.hid hn
  have HK := Lib.hid hkeys
  clear h hn hkeys hG
  go_enter Try.func15, Try.ntmps15
  go_wp2_with fail
  refine HA.out.mono ?_
  rintro e w5 ⟨A, c, rfl, ho5, hb5⟩
  have HO5 := Lib.hid ho5
  have HB5 := Lib.hid hb5
  have HL5 := Lib.hid (HL.out.then_ hb5)
  have HBW := Lib.hid (show b < w.heap.size from HL.out.own.lt)
  clear ho5 hb5 HA
  go_wp2_with fail
  go_loopw [13] (fun i wr => EpI w5 p b w.heap.size A n c M G i wr) (fun i _ => n - (intOf i).toNat)
  case atStart => exact ⟨0, rfl, Nat.zero_le _, HO5.out, HL5.out, Tn.refl _ _⟩
  case round =>
    obtain ⟨j, rfl, hj, ho, hl, ht⟩ := hrel
    have HO := Lib.hid ho
    have HLJ := Lib.hid hl
    have HT := Lib.hid ht
    clear ho hl ht
    by_cases hlt : j < n
    · have hjG : j < G.length := by rw [← HN.out]; exact hlt
      obtain ⟨y, hy⟩ : ∃ y, y = G[j] := ⟨_, rfl⟩
      have hy1 : G[j]? = some y := by rw [List.getElem?_eq_getElem hjG, hy]
      have hky := HK.out y (by rw [hy]; exact List.getElem_mem hjG)
      obtain ⟨g, o, hA, _, hc⟩ := Rws.at_ encC_len (OwnR.rws encC_len HO.out).2 hlt
      have a0 := hc j hlt 0 _ (by decide) rfl
      rw [show G.getD j default = y by rw [List.getD_eq_getElem?_getD, hy1]; rfl] at a0
      subst hA
      simp only [Nat.mul_one, Nat.add_zero] at a0
      have z0 : (0 : Int) ≤ (j : Int) := Int.natCast_nonneg _
      have z1 : (j : Int) < (n : Int) := Int.ofNat_lt.2 hlt
      have HMS := Lib.hid (show n - (j + 1) < n - j by omega)
      have HG := Lib.hid (drops_add (M := M) hy1)
      have c0 := HLJ.out.cell
      have hown := HLJ.out.own
      have hkey := keyC hky
      clear hc hy hy1 hjG hky
      go_wp2_with (at_delete; refine wpList_delete_own _ rfl _ _ 61 25 rfl 26 keyedC Try.underlying61 _ _ _ _ rfl hown _ _ rfl hkey ?_; intro w1 hown1 hturn1)
      rw [delL_dat] at hown1
      have ht := turned_tn hturn1
      have hgb : ∀ i, Value.ownBlock (.slice (some ⟨g, o, none⟩) n c) = some i → ¬ i = b := fun i hi e => by
        have h1 := (OwnR.lt HO.out i hi).1
        have h2 := HBW.out
        omega
      go_roundw
      case rel => exact ⟨j + 1, by go_num, hlt, OwnR.tn HO.out ht hgb, by rw [HG.out]; exact ⟨ht.old HLJ.out.blk HLJ.out.ne, own_tight hown1, HLJ.out.ok.del y, Nat.le_trans (Pl.len_del_le _ _) HLJ.out.few⟩, HT.out.trans ht (fun _ _ h => h)⟩
      case measure => simp [intOf]; (have := HMS.out; omega)
    · have hjn : j = n := by omega
      have he : G.take j = G := by rw [hjn, HN.out, List.take_length]
      rw [he, HD.out] at HLJ
      have HTZ := Lib.hid ((Tn.of (fun i => i = b) HB5.out).trans HT.out (fun _ _ h => h))
      clear he
      go_wp2_with fail
      go_ret
      exact ⟨A, c, rfl, HO.out, HLJ.out, HTZ.out⟩
set_option maxRecDepth 100000 in
set_option maxHeartbeats 400000 in
theorem expire_non0 {w : World} {v : Value} (h : NonL w v) (now : Int) :
    Calls Try.prog 15 #[v, .int .u64 now] w fun e w' => e = .returned (.slice none 0 0) ∧ Below w.heap.size w w' := by
  have HC := Lib.hid (clients_non h now false)
  clear h
  go_enter Try.func15, Try.ntmps15
  go_wp2_with fail
  refine HC.out.mono ?_
  rintro e w5 ⟨rfl, hb5⟩
  have HB5 := Lib.hid hb5
  clear hb5 HC
  go_wp2_with fail
  go_loopw [13] (fun i wr => i = .int .i64 0 ∧ wr = w5) (fun _ _ => 0)
  case atStart => exact ⟨rfl, rfl⟩
  case round =>
    obtain ⟨rfl, rfl⟩ := hrel
    go_wp2_with fail
    go_ret
    exact ⟨rfl, HB5.out⟩
end Go.Proofs.Ytjplchajopkpcaa
