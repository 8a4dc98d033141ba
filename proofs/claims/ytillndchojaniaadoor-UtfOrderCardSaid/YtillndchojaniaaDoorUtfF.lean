/-
  Contract of utf.first: it tells the first code point and its size, whatever the bytes. Condition: the tables stand.
-/
import Derived.Test.YtillndchojaniaaDoorUtfE
import Derived.BigQuiet
namespace Go.Proofs.YtillndchojaniaaDoor
open Go.RowKit

theorem ret2 {k l : IntKind} {a b c d : Int} (h : a = b) (h' : c = d) : Ending.returned (.tuple #[.int k a, .int l c]) = .returned (.tuple #[.int k b, .int l d]) := by rw [h, h']
/-- what first tells -/
def FstRet (w : World) (bs : List Nat) (e : Ending) (w' : World) : Prop :=
  e = .returned (.tuple #[.int .i32 (((Pl.fst bs).1 : Nat) : Int), .int .i64 (((Pl.fst bs).2 : Nat) : Int)]) ∧ Below w.heap.size w w'
theorem FstRet.mk {w w' : World} {bs : List Nat} {c n : Nat} (h : Pl.fst bs = (c, n)) (hb : Below w.heap.size w w') : FstRet w bs (.returned (.tuple #[.int .i32 (c : Int), .int .i64 (n : Int)])) w' := ⟨by rw [h], hb⟩
/-- first's loop: i further bytes are read -/
def FRel (b : Nat) (r : List Nat) (s : Nat) (c i : Value) : Prop :=
  ∃ (j y : Nat), i = .int .i64 (j : Int) ∧ j + 1 ≤ s ∧ c = .int .i32 (y : Int) ∧ y = Pl.acc (b - Pl.mb b) (r.take j) ∧ y < 256 * 64 ^ j ∧ ∀ t, t < j → Pl.Cont (r.getD t 0)

set_option maxRecDepth 100000 in
set_option maxHeartbeats 1000000 in
theorem first_any (A : Option Addr) (n c : Nat) (bs : List Nat) (w : World) (hT : Tab w) (hB : Bys w w.heap.size A n c bs) :
    Calls Tryd.prog 30 #[.slice A n c] w (FstRet w bs) := by
  have hle := hB.le
  have hcap := hB.cap
  unfold maxLen at hcap
  cases bs with
  | nil =>
    obtain rfl : n = 0 := hB.len.symm
    clear hT hB
    go_enter Tryd.func30, Tryd.ntmps30
    go_wp2_with fail
    go_ret2
    exact FstRet.mk (c := 0) (n := 0) rfl (Below.refl _ _)
  | cons b r =>
    have HL := Lib.hid (show r.length + 1 = n by have := hB.len; simpa using this)
    have hn0 : 0 < n := by have := HL.out; omega
    obtain ⟨g, o, rfl, hg, hc0⟩ := hB.at_ hn0
    have hb := (Pl.oct_cons hB.oct).1
    have hc1 := hc0 0 hn0
    simp at hc1
    have HB := Lib.hid hB
    obtain ⟨q, hq⟩ : ∃ q, q = b / 8 := ⟨_, rfl⟩
    have hq1 : (b : Int) / 8 = (q : Int) := by omega
    have hq2 : q < 32 := by omega
    have hs := hT.sz hq2
    have HS := Lib.hid (show Pl.szTab.getD q 0 = Pl.sb b by rw [hq]; rfl)
    rw [HS.out] at hs
    have hsb4 : Pl.sb b ≤ 4 := by rcases Pl.sb_cases hb with h | h | h | h | h | h <;> omega
    have hm := hT.mk (i := Pl.sb b) (by omega)
    have HMB := Lib.hid (show Pl.mkTab.getD (Pl.sb b) 0 = Pl.mb b from rfl)
    rw [HMB.out] at hm
    have hmb : Pl.mb b < 256 := by rcases Pl.sb_cases hb with h | h | h | h | h | h <;> omega
    have HBAD := Lib.hid (Pl.fst_bad b r hb)
    have HBYTE := Lib.hid hb
    have HX := Lib.hid (Pl.xor_mb hb)
    obtain ⟨s, hs0⟩ : ∃ s, s = Pl.sb b := ⟨_, rfl⟩
    have HSB := Lib.hid hs0
    rw [← hs0] at hs hm hsb4 HBAD HX
    obtain ⟨mk, hmk⟩ : ∃ mk, mk = Pl.mb b := ⟨_, rfl⟩
    have HMK := Lib.hid hmk
    rw [← hmk] at hm hmb HX
    clear hs0 hmk hB hT hc0 HS HMB hq
    by_cases h0 : s = 0
    · subst h0
      have HF := Lib.hid (HBAD.out (Or.inl rfl))
      clear hm hmb hsb4
      go_enter Tryd.func30, Tryd.ntmps30
      go_wp2_with fail
      go_ret2
      exact FstRet.mk (c := 0) (n := 0) HF.out (Below.refl _ _)
    · by_cases h1 : n < s
      · have HF := Lib.hid (HBAD.out (Or.inr (by have := HL.out; omega)))
        have hz : ((s : Int) == 0) = false := by rw [beq_eq_false_iff_ne]; omega
        clear hm hmb
        go_enter Tryd.func30, Tryd.ntmps30
        go_wp2_with fail
        go_ret2
        exact FstRet.mk (c := 0) (n := 0) HF.out (Below.refl _ _)
      · have hz : ((s : Int) == 0) = false := by rw [beq_eq_false_iff_ne]; omega
        have hx := HX.out h0
        obtain ⟨y0, hy0⟩ : ∃ y0, y0 = b - mk := ⟨_, rfl⟩
        have hxx : bits .xor .u8 (b : Int) (mk : Int) = (y0 : Int) := by
          rw [u8_xor_nat b mk hb hmb, hx, hy0]
        have hy256 : y0 < 256 := by omega
        have HY0 := Lib.hid (show y0 = b - Pl.mb b by rw [hy0, HMK.out])
        obtain ⟨A2, hB2, hcut⟩ := HB.out.mid (k := 1) (m := s) (by omega) (by omega) 1 (s : Int) rfl rfl
        have e1 : ((b :: r).drop 1).take (s - 1) = r.take (s - 1) := rfl
        rw [e1] at hB2
        have HB2 := Lib.hid hB2
        have HNC := Lib.hid (fun i hi hc => Pl.fst_notcont b r hb i hi (by have := HL.out; have := HSB.out; omega) hc)
        have HMADE := Lib.hid (Pl.fst_made b r hb (by rw [← HSB.out]; exact h0) (by have := HL.out; have := HSB.out; omega))
        rw [← HSB.out] at HNC HMADE
        have hs1 : (1 : Int) ≤ (s : Int) := by omega
        have hs2 : (s : Int) ≤ (n : Int) := by omega
        have hs3 : (s : Int) < 5 := by omega
        clear hx hy0 hB2 e1
        go_enter Tryd.func30, Tryd.ntmps30
        go_wp2_with fail
        go_region_held3 (fun w' => w'.cell? ⟨g, o, none⟩ = some (.int .u8 (b : Int)) ∧ w'.cell? ⟨0, s, none⟩ = some (.int .u8 (mk : Int))) (go_keep) (fail)
        go_wp2_with fail
        clear hc1 hq1 hs hm hxx hcut hz
        have HD := Lib.hid (show Below w.heap.size w w.drew from below_drawn (Below.refl _ w))
        have HBW := Lib.hid (show Bys w.drew w.drew.heap.size A2 (s - 1) (c - 1) (r.take (s - 1)) from HB2.out)
        generalize w.drew = wd at *
        go_loop [5, 37] (fun c i => FRel b r s c i) (fun _ i => s - (intOf i).toNat)
        case atStart => exact ⟨0, y0, rfl, by omega, congrArg (Value.int .i32) (IntWalk.i32_in _ (by omega)), HY0.out, by simp; omega, fun t ht => by omega⟩
        case round =>
          obtain ⟨j, y, rfl, hj, rfl, hy, hyl, hct⟩ := hrel
          have HY := Lib.hid (And.intro hy hct)
          have hy25 : y < 67108864 := by
            have h3 : j ≤ 3 := by omega
            have : 64 ^ j ≤ 64 ^ 3 := Nat.pow_le_pow_right (by decide) h3
            omega
          have HYL := Lib.hid hyl
          clear hy hct hyl
          by_cases hlt : j + 1 < s
          · obtain ⟨g2, o2, rfl, hg2, hc2⟩ := HBW.out.at_ (i := j) (by omega)
            have hc3 := hc2 j (by omega)
            have ex : (r.take (s - 1)).getD j 0 = r.getD j 0 := by
              rw [List.getD_eq_getElem?_getD, List.getD_eq_getElem?_getD, List.getElem?_take, if_pos (by omega)]
            rw [ex] at hc3
            have HCT := Lib.hid (show Pl.Cont (r.getD j 0) → ∀ t, t < j + 1 → Pl.Cont (r.getD t 0) from fun h t ht => by
              rcases Nat.lt_or_ge t j with h1 | h1
              · exact HY.out.2 t h1
              · obtain rfl : t = j := by omega
                exact h)
            have HAC := Lib.hid (show Pl.acc (b - Pl.mb b) (r.take (j + 1)) = y * 64 + r.getD j 0 % 64 by
              rw [Pl.acc_snoc _ _ _ (by have := HL.out; omega), ← HY.out.1])
            have hx256 : r.getD j 0 < 256 := Pl.oct_getD (Pl.oct_cons HB.out.oct).2 j
            have HN := Lib.hid (HNC.out j hlt)
            have hy19 : y < 1048576 := by
              have h3 : j ≤ 2 := by omega
              have : 64 ^ j ≤ 64 ^ 2 := Nat.pow_le_pow_right (by decide) h3
              have := HYL.out
              omega
            clear hc2 ex
            obtain ⟨x, hx⟩ : ∃ x, x = r.getD j 0 := ⟨_, rfl⟩
            rw [← hx] at hc3 HCT HAC hx256 HN
            have han : bits .andNot .u8 (x : Int) 63 = ((x &&& 192 : Nat) : Int) := u8_andNot_nat x 63 hx256 (by omega)
            have hci := Pl.cont_and hx256
            clear hx
            obtain ⟨v, hv⟩ : ∃ v, v = x &&& 192 := ⟨_, rfl⟩
            rw [← hv] at han hci
            clear hv
            by_cases hcx : Pl.Cont x
            · have hv := hci.2 hcx
              subst hv
              have HC2 := Lib.hid (HCT.out hcx)
              clear hci hcx hy25
              go_wp2_with fail
              go_round
              case rel =>
                refine ⟨j + 1, y * 64 + x % 64, by go_num, by omega, ?_, HAC.out.symm, ?_, HC2.out⟩
                · exact congrArg (Value.int .i32) (by omega)
                · have := HYL.out
                  rw [Nat.pow_succ]; omega
              case measure => simp [intOf]; omega
            · have hv : v ≠ 128 := fun h => hcx (hci.1 h)
              have HNN := Lib.hid (HN.out hcx)
              clear hci hcx hy25
              have hvb : ((v : Int) != 128) = true := by rw [bne_iff_ne]; omega
              go_wp2_with fail
              go_ret2
              exact FstRet.mk (c := 0) (n := 0) HNN.out HD.out
          · have hjs : j + 1 = s := by omega
            have HF := Lib.hid (HMADE.out (fun t ht => HY.out.2 t (by omega)) y (by rw [HY.out.1, show s - 1 = j by omega]))
            have HSZ := Lib.hid (size_any (y : Int) wd (by unfold Pl.J; omega))
            have hs4 := Pl.size_le (y : Int)
            obtain ⟨z, hz⟩ : ∃ z, z = Pl.size (y : Int) := ⟨_, rfl⟩
            rw [← hz] at HF HSZ hs4
            clear hz
            by_cases hzs : z = s
            · subst hzs
              have HF2 := Lib.hid (show Pl.fst (b :: r) = (y, z) by rw [HF.out, if_pos rfl])
              go_wp2_with fail
              refine HSZ.out.mono ?_
              rintro e w' ⟨rfl, rfl⟩
              go_wp2_with fail
              go_ret2
              exact FstRet.mk HF2.out HD.out
            · have HF2 := Lib.hid (show Pl.fst (b :: r) = (0, 0) by rw [HF.out, if_neg hzs])
              have hzb : ((z : Int) != (s : Int)) = true := by rw [bne_iff_ne]; omega
              go_wp2_with fail
              refine HSZ.out.mono ?_
              rintro e w' ⟨rfl, rfl⟩
              go_wp2_with fail
              go_ret2
              exact FstRet.mk (c := 0) (n := 0) HF2.out HD.out
end Go.Proofs.YtillndchojaniaaDoor
