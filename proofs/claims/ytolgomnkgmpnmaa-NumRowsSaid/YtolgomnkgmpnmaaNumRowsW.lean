/-
  The walk of copybooklaw01.NumRows: it returns true for every slice of numbers of 64 bits, and turns nothing that was there. No conditions.
-/
import Derived.Test.YtolgomnkgmpnmaaNumRowsP
namespace Go.Proofs.Ytolgomnkgmpnmaa.numRows
open Go.RowKit

/-- the first loop at its round j: the bytes of the first j numbers -/
def L1 (w : World) (ys : List Nat) (N : Nat) (t i : Value) (wr : World) : Prop :=
  ∃ (j : Nat) (A : Option Addr) (k c : Nat), i = .int .i64 (j : Int) ∧ j ≤ N ∧ t = .slice A k c ∧ Bys wr wr.heap.size A k c (Pl.encs (ys.take j)) ∧ Below w.heap.size w wr

set_option maxRecDepth 100000 in
set_option maxHeartbeats 1000000 in
theorem walk (w : World) (A : Option Addr) (n c : Nat) (zs : List Nat) (hl : Us w w.heap.size A n c zs) :
    Calls Try.prog 8 #[.slice A n c] w fun e w' => e = .returned (.bool true) ∧ Below w.heap.size w w' := by
  have hmz := map_add_zero A
  have hcap := hl.cap
  have hle := hl.le
  unfold maxLen at hcap
  obtain ⟨N, hN1, hN2, e3⟩ : ∃ N : Nat, N ≤ 30 ∧ N ≤ n ∧ min (n : Int) 30 = (N : Int) := ⟨min n 30, by omega, by omega, by omega⟩
  have HL := Lib.hid (hl.upto (k := N) (by omega))
  have E3 := Lib.hid e3
  generalize zs.take N = ys at HL
  clear hl e3
  go_enter Try.func8, Try.ntmps8
  go_wp2
  simp only [E3.out, Int.toNat_natCast]
  rw [show max (N : Int) 0 = (N : Int) by omega]
  clear E3 hmz
  go_loopw [3, 23] (fun t i wr => L1 w ys N t i wr) (fun _ i _ => N - (intOf i).toNat)
  case atStart => exact ⟨0, none, 0, 0, rfl, by omega, rfl, Bys.none_ _ _, Below.refl _ _⟩
  case round =>
    obtain ⟨j, A1, k1, c1, rfl, hj, rfl, hB1, hb1⟩ := hrel
    by_cases hlt : j < N
    · obtain ⟨g, o, rfl, hg, hc⟩ := HL.out.at_ hlt
      have hcj : wr.cell? ⟨g, o + j, none⟩ = some (.int .u64 ((ys.getD j 0 : Nat) : Int)) := (hb1.cell (p := ⟨g, o + j, none⟩) hg).trans (hc j hlt)
      have hyU := HL.out.getU j
      have HS := Lib.hid (Pl.encs_snoc ys j (by rw [HL.out.len]; exact hlt))
      obtain ⟨y, hy⟩ : ∃ y, y = ys.getD j 0 := ⟨_, rfl⟩
      rw [← hy] at hcj hyU HS
      have hk300 : k1 ≤ 300 := by
        have h1 := hB1.len
        have h2 := Pl.len_encs (ys.take j) (fun x hx => HL.out.us x (List.mem_of_mem_take hx))
        rw [List.length_take] at h2
        omega
      have HP := Lib.hid (put_any A1 k1 c1 y (Pl.encs (ys.take j)) wr hB1 (by omega) hyU)
      clear hc hg hy hyU hB1
      go_wp2_with (go_at_call 11; refine HP.out.mono ?_; rintro e w2 ⟨g2, c2, rfl, hO2, hb2⟩)
      go_roundw
      case rel =>
        refine ⟨j + 1, some ⟨g2, 0, none⟩, _, c2, by go_num, by omega, rfl, ?_, hb1.trans (hb2.mono hb1.size)⟩
        have h1 := hO2.bys
        rw [← HS.out] at h1
        rw [← List.length_append, ← HS.out]
        exact h1
      case measure => simp [intOf]; omega
    · have hjN : j = N := by omega
      subst hjN
      rw [List.take_of_length_le (by rw [HL.out.len]; omega)] at hB1
      have hc1 := hB1.cap
      have hk1 := hB1.le
      unfold maxLen at hc1
      have HB := Lib.hid hB1
      clear hB1
      go_wp2
      go_loop [6, 33] (fun t i => ∃ q : Nat, i = .int .i64 (q : Int) ∧ q ≤ j ∧ t = .int .i64 ((Pl.pos ys q : Nat) : Int)) (fun _ i => j - (intOf i).toNat)
      case atStart => exact ⟨0, rfl, by omega, rfl⟩
      case round =>
        obtain ⟨q, rfl, hq, rfl⟩ := hrel
        by_cases hqj : q < j
        · obtain ⟨g, o, rfl, hg, hc⟩ := HL.out.at_ hqj
          have hcq : wr.cell? ⟨g, o + q, none⟩ = some (.int .u64 ((ys.getD q 0 : Nat) : Int)) := (hb1.cell (p := ⟨g, o + q, none⟩) hg).trans (hc q hqj)
          have hyU := HL.out.getU q
          have hlq : q < ys.length := by rw [HL.out.len]; exact hqj
          have HPS := Lib.hid (Pl.pos_succ ys q hlq)
          have hroom := Pl.pos_room ys q hlq
          have HAT := Lib.hid (Pl.encs_at ys q hlq)
          rw [HB.out.len] at hroom
          obtain ⟨y, hy⟩ : ∃ y, y = ys.getD q 0 := ⟨_, rfl⟩
          rw [← hy] at hcq hyU HPS hroom HAT
          have hs1 := Pl.sz_pos y
          have hs10 := Pl.sz_le10 hyU.out
          obtain ⟨p, hp⟩ : ∃ p, p = Pl.pos ys q := ⟨_, rfl⟩
          have HAT2 := Lib.hid (show (Pl.encs ys).drop (Pl.pos ys q) = Pl.enc y ++ Pl.encs (ys.drop (q + 1)) from HAT.out)
          rw [← hp] at hroom HPS HAT2
          rw [← hp]
          obtain ⟨g1, o1, hA1, _, _⟩ := HB.out.at_ (i := 0) (by omega)
          subst hA1
          have HFR := Lib.hid (HB.out.from_ (k := p) (by omega))
          have HG := Lib.hid (get_at _ _ _ _ wr HFR.out y (Pl.sz y) 0 (by rw [HAT2.out]; exact Pl.get_enc y _ hyU.out))
          have HU := Lib.hid hyU
          have hpc : ¬ c1 = p := by omega
          have hz1 : decide (((Pl.sz y : Nat) : Int) < 1) = false := decide_eq_false (by omega)
          clear hc hg hy hyU HAT hp
          go_wp2_with (go_at_call 25; refine HG.out.mono ?_; rintro e w' ⟨rfl, rfl⟩)
          go_loop [12] (fun t => ∃ r : Nat, t = .int .i64 (r : Int) ∧ 1 ≤ r ∧ r ≤ Pl.sz y) (fun t => Pl.sz y - (intOf t).toNat)
          case atStart => exact ⟨1, rfl, by omega, by omega⟩
          case round =>
            obtain ⟨r, rfl, hr1, hr2⟩ := hrel
            by_cases hrs : r < Pl.sz y
            · have hT := HFR.out.upto (k := r) (by omega)
              have HT := Lib.hid (get_at _ _ _ _ wr hT 0 0 4 (by rw [HAT2.out, List.take_append_of_le_length (by rw [Pl.len_enc]; omega)]; exact Pl.enc_prefix_get y r hrs HU.out.out))
              clear hT
              go_wp2_with (go_at_call 25; refine HT.out.mono ?_; rintro e w' ⟨rfl, rfl⟩)
              go_round
              case rel => exact ⟨r + 1, by go_num, by omega, by omega⟩
              case measure => simp [intOf]; omega
            · go_wp2_with fail
              go_round
              case rel => exact ⟨q + 1, by go_num, by omega, by rw [HPS.out]; go_num⟩
              case measure => simp [intOf]; omega
        · have hqj2 : q = j := by omega
          have HPA := Lib.hid (Pl.pos_all ys)
          rw [HL.out.len] at HPA
          have HKL := Lib.hid HB.out.len
          go_wp2_with (go_at_call 19; refine (awake_any _).mono ?_; rintro e w3 ⟨rfl, hb3⟩)
          go_ret
          refine ⟨ret_bool ?_, hb1.trans (hb3.mono hb1.size)⟩
          rw [beq_iff_eq, HPA.out, HKL.out]

end Go.Proofs.Ytolgomnkgmpnmaa.numRows
