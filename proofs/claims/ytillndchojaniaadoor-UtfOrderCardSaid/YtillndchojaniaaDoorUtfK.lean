/-
  Contracts of copybookref04.first, Whole and Decode: what each returns for all bytes; nothing that was there turned. Conditions: Decode: four bytes for each byte read are within the model's reach.
-/
import Derived.Test.YtillndchojaniaaDoorUtfJ
import Derived.Test.YtillndchojaniaaDoorBaseR
namespace Go.Proofs.YtillndchojaniaaDoor
open Go.RowKit

theorem str_beq {a b : List Nat} (ha : Pl.Oct a) (hb : Pl.Oct b) : ((strOfNums (ints a)).toList == (strOfNums (ints b)).toList) = decide (a = b) := by
  rw [Bool.eq_iff_iff, beq_iff_eq, decide_eq_true_iff, ByteArray.toList_eq, ByteArray.toList_eq]
  exact ⟨fun e => bytes_inj ha hb (WideShapes.bytes_inj e), fun e => by rw [e]⟩
def Lies (bs : List Nat) (v : Value) (w : World) : Prop := ∃ A c, v = .slice A bs.length c ∧ Bys w w.heap.size A bs.length c bs
theorem lies_stb (bs : List Nat) : Rg.Stb (Lies bs) := fun _ _ _ ⟨A, c, h1, h2⟩ hb => ⟨A, c, h1, (h2.below hb (Nat.le_refl _)).more hb.size⟩
/-- the outer loop: no number of bytes below k makes a code point -/
def ORel (w : World) (bs : List Nat) (i : Value) (wr : World) : Prop := ∃ k : Nat, i = .int .i64 (k : Int) ∧ 1 ≤ k ∧ k ≤ 5 ∧ Below w.heap.size w wr ∧ ∀ m, 1 ≤ m → m < k → ¬ Pl.Hit bs m
/-- the inner loop: j bytes are reckoned -/
def IRel (c0 : Int) (l : List Nat) (k : Nat) (c i : Value) : Prop := ∃ (j : Nat) (y : Int), i = .int .i64 (j : Int) ∧ 1 ≤ j ∧ j ≤ k ∧ c = .int .i64 y ∧ y = Pl.rc c0 (l.take (j - 1)) ∧ -(256 * 65 ^ (j - 1)) ≤ y ∧ y ≤ 256 * 65 ^ (j - 1)
theorem pow65 {j : Nat} (h : j ≤ 4) : (65 : Int) ^ (j - 1) ≤ 274625 := by
  rcases (show j = 0 ∨ j = 1 ∨ j = 2 ∨ j = 3 ∨ j = 4 by omega) with rfl | rfl | rfl | rfl | rfl <;> decide
theorem irel_next {c0 y : Int} {l : List Nat} {j x : Nat} (hj : 1 ≤ j) (hl : j - 1 < l.length) (hx : l.getD (j - 1) 0 = x) (hx6 : x < 256) (hy : y = Pl.rc c0 (l.take (j - 1))) (h1 : -(256 * 65 ^ (j - 1)) ≤ y) (h2 : y ≤ 256 * 65 ^ (j - 1)) :
    64 * y + (x : Int) - 128 = Pl.rc c0 (l.take j) ∧ -(256 * 65 ^ j) ≤ 64 * y + (x : Int) - 128 ∧ 64 * y + (x : Int) - 128 ≤ 256 * 65 ^ j := by
  have e : j - 1 + 1 = j := by omega
  have hs := Pl.rc_snoc c0 l (j - 1) hl
  rw [e, ← hy, hx] at hs
  have hp : (65 : Int) ^ j = 65 ^ (j - 1) * 65 := by rw [← e, Int.pow_succ]; simp
  have hq : (0 : Int) < 65 ^ (j - 1) := Int.pow_pos (by decide)
  refine ⟨hs.symm, ?_, ?_⟩ <;> rw [hp] <;> omega

set_option maxRecDepth 100000 in
set_option maxHeartbeats 4000000 in
theorem rfirst_any (A : Option Addr) (n c : Nat) (bs : List Nat) (w : World) (hB : Bys w w.heap.size A n c bs) :
    Calls Tryd.prog 26 #[.slice A n c] w (FstRet w bs) := by
  have hle := hB.le
  have hcap := hB.cap
  unfold maxLen at hcap
  have HL := Lib.hid hB.len
  have HB := Lib.hid hB
  clear hB
  go_enter Tryd.func26, Tryd.ntmps26
  go_wp2_with fail
  go_loopw [4] (fun i wr => ORel w bs i wr) (fun i _ => 5 - (intOf i).toNat)
  case atStart => exact ⟨1, rfl, by omega, by omega, Below.refl _ _, fun m h1 h2 => by omega⟩
  case round =>
    obtain ⟨k, rfl, hk1, hk5, hb, hnh⟩ := hrel
    have HBL := Lib.hid hb
    have HNH := Lib.hid hnh
    clear hb hnh
    by_cases hlt : k ≤ 4 ∧ k ≤ n
    · obtain ⟨hk4, hkn⟩ := hlt
      have HBR := Lib.hid (HB.out.then_ HBL.out)
      obtain ⟨g, o, rfl, hg, hc0⟩ := HBR.out.at_ (i := 0) (by omega)
      have hcell : ∀ i, i < n → wr.cell? ⟨g, o + i, none⟩ = some (.int .u8 ((bs.getD i 0 : Nat) : Int)) := fun i hi => hc0 i hi
      have HC := Lib.hid hcell
      have hb0 := hc0 0 (by omega)
      rw [Nat.add_zero] at hb0
      have hb256 := Pl.oct_getD HBR.out.oct 0
      have HXT := Lib.hid (show ¬ Pl.Hit bs k → ∀ m, 1 ≤ m → m < k + 1 → ¬ Pl.Hit bs m from fun h m h1 h2 => by
        rcases Nat.lt_or_ge m k with h3 | h3
        · exact HNH.out m h1 h3
        · obtain rfl : m = k := by omega
          exact h)
      have HHIT := Lib.hid (fun h => Pl.hit_fst (bs := bs) (n := k) (by have := HL.out; omega) h)
      clear hc0 hcell
      have HRC := Lib.hid (show Pl.rcv bs k = Pl.rc ((bs.getD 0 0 : Nat) - Pl.off k) ((bs.drop 1).take (k - 1)) from rfl)
      have HTL := Lib.hid (show ((bs.drop 1).take (k - 1)).length = k - 1 ∧ ∀ i, i + 1 < k → ((bs.drop 1).take (k - 1)).getD i 0 = bs.getD (i + 1) 0 by
        refine ⟨by rw [List.length_take, List.length_drop, HL.out]; omega, fun i hi => ?_⟩
        rw [List.getD_eq_getElem?_getD, List.getD_eq_getElem?_getD, List.getElem?_take, if_pos (by omega), List.getElem?_drop, Nat.add_comm])
      obtain ⟨l, hl0⟩ : ∃ l, l = (bs.drop 1).take (k - 1) := ⟨_, rfl⟩
      rw [← hl0] at HRC HTL
      obtain ⟨b0, hb00⟩ : ∃ b0, b0 = bs.getD 0 0 := ⟨_, rfl⟩
      rw [← hb00] at HRC hb0 hb256
      clear hl0 hb00 hk5
      rcases (show k = 1 ∨ k = 2 ∨ k = 3 ∨ k = 4 by omega) with rfl | rfl | rfl | rfl
      · have HOF := Lib.hid (show Pl.off 1 = 0 from rfl)
        go_wp2_with fail
        go_loop [5, 6] (fun c i => IRel ((b0 : Int) - 0) l 1 c i) (fun _ i => 1 - (intOf i).toNat)
        case atStart => exact ⟨1, (b0 : Int) - 0, rfl, by omega, by omega, by simp, rfl, by simp <;> omega, by simp <;> omega⟩
        case round =>
          obtain ⟨j, y, rfl, hj1, hjk, rfl, hy, hy1, hy2⟩ := hrel
          have hp := pow65 (show j ≤ 4 by omega)
          have hyl : -70304000 ≤ y ∧ y ≤ 70304000 := by omega
          have HY := Lib.hid (And.intro hy (And.intro hy1 hy2))
          obtain ⟨hyl1, hyl2⟩ := hyl
          clear hy hy1 hy2 hp
          by_cases hlt : j < 1
          · exfalso; omega
          · obtain rfl : j = 1 := by omega
            have HV := Lib.hid (show Pl.rcv bs 1 = y by
              rw [HRC.out, HY.out.1, HOF.out, List.take_of_length_le (by rw [HTL.out.1]; omega)])
            have hw : IntKind.i32.wrap y = y := IntWalk.i32_in _ (by omega)
            have HJ := Lib.hid (show Pl.J y by unfold Pl.J; omega)
            have HM0 := Lib.hid (fun w1 : World => rmay_any y w1 HJ.out)
            clear hjk hj1 hyl1 hyl2 hlt
            by_cases hm : Pl.May y
            · have HM1 := fun w1 : World => HM0.out w1
              rw [decide_eq_true hm] at HM1
              have HO1 := fun w1 : World => rone_any y w1 hm
              have hsl : ∀ w', (Instr.sliceAt 23 (.slice (some ⟨g, o, none⟩) n c) none (some (.int .i64 1)) none).run Tryd.prog w' = .ok (.slice (some ⟨g, o, none⟩) 1 c) w' := slice_to (some ⟨g, o, none⟩) n c 1 (by omega)
              have hup := HBR.out.upto hkn
              have y2 := fun (w' : World) (hk : Below wr.heap.size wr w') => (hup.then_ hk).conv
              have hst := str_beq (Pl.oct_uno hm) hup.oct
              obtain ⟨s1, hs1⟩ : ∃ s, s = strOfNums (ints (Pl.uno y)) := ⟨_, rfl⟩
              have HS1 := Lib.hid hs1
              obtain ⟨s2, hs2⟩ : ∃ s, s = strOfNums (ints (bs.take 1)) := ⟨_, rfl⟩
              rw [← hs2] at y2
              rw [← hs1, ← hs2] at hst
              obtain ⟨d, hd0⟩ : ∃ d, d = decide (Pl.uno y = bs.take 1) := ⟨_, rfl⟩
              rw [← hd0] at hst
              have HD := Lib.hid hd0
              have HALL := Lib.hid (And.intro HM1 (And.intro HO1 (And.intro hsl (And.intro y2 (And.intro hst hw)))))
              have HMAY := Lib.hid hm
              clear hs1 hs2 hd0 hup hm HM1 HO1 hsl y2 hst hw
              go_wp2_with fail
              obtain ⟨HM1, HO1, hsl, y2, hst, hw⟩ := HALL.out
              refine Rg.wp_region_inv (fun w' => Below wr.heap.size wr w') (Rg.Wd.at [.is (.int .i64 y), .is (.int .i32 y), .is (.bool true), .is (.bool true), .is (.int .i64 y), .is (.int .i32 y), .pred (Lies (Pl.uno y)) (lies_stb _), .is (.string s1), .is (.slice (some ⟨g, o, none⟩) n c), .is (.int .i64 1), .is (.slice (some ⟨g, o, none⟩) 1 c), .is (.string s2), .is (.bool d), .is (.bool d)]) (by kernel_rfl) (by kernel_rfl) (Rg.Wd.stays _ _) (below_drawn (Below.refl _ wr)) ⟨?_, ?_, ?_, ?_, ?_, ?_, ?_, ?_, ?_, ?_, ?_, ?_, ?_, ?_, trivial⟩ ?_
              · intro a w1 hS hb hd
                have e5 := hb 5 (Rg.nw (by decide))
                simp [Act.eval] at e5
                exact Rg.does_pure (Rg.wanted_none rfl) (by simp [execOp, e5, go_sem]) hS rfl
              · intro a w1 hS hb hd
                have e47 := hd ⟨0, .data⟩ (by simp) rfl _ _ rfl rfl
                have e47 : a.tmps[47]?.getD undef = (.int .i64 y) := Rg.slot e47
                exact Rg.does_pure (Rg.wanted_none rfl) (by simp [execOp, e47, hw, go_sem]) hS rfl
              · intro a w1 hS hb hd
                have e48 := hd ⟨1, .data⟩ (by simp) rfl _ _ rfl rfl
                have e48 : a.tmps[48]?.getD undef = (.int .i32 y) := Rg.slot e48
                refine Rg.does_call (f := 17) (args := #[.int .i32 y]) (Rg.wanted_none rfl) (by simp [e48, go_sem]) ?_
                exact (HM1 w1).mono fun e w' ⟨h1, h2⟩ => h2 ▸ ⟨_, h1, rfl, hS, Below.refl _ _⟩
              · intro a w1 hS hb hd
                have e49 := hd ⟨2, .data⟩ (by simp) rfl _ _ rfl rfl
                have e49 : a.tmps[49]?.getD undef = (.bool true) := Rg.slot e49
                exact Rg.does_pure (Rg.wanted_none rfl) (by simp [execOp, e49, go_sem]) hS rfl
              · intro a w1 hS hb hd
                have e5 := hb 5 (Rg.nw (by decide))
                simp [Act.eval] at e5
                have e50 := hd ⟨3, .guard⟩ (by simp) rfl _ _ rfl rfl
                exact Rg.does_pure (Rg.wanted_some rfl rfl rfl e50) (by simp [execOp, e5, go_sem]) hS rfl
              · intro a w1 hS hb hd
                have e51 := hd ⟨4, .data⟩ (by simp) rfl _ _ rfl rfl
                have e51 : a.tmps[51]?.getD undef = (.int .i64 y) := Rg.slot e51
                have e50 := hd ⟨3, .guard⟩ (by simp) rfl _ _ rfl rfl
                exact Rg.does_pure (Rg.wanted_some rfl rfl rfl e50) (by simp [execOp, e51, hw, go_sem]) hS rfl
              · intro a w1 hS hb hd
                have e52 := hd ⟨5, .data⟩ (by simp) rfl _ _ rfl rfl
                have e52 : a.tmps[52]?.getD undef = (.int .i32 y) := Rg.slot e52
                have e50 := hd ⟨3, .guard⟩ (by simp) rfl _ _ rfl rfl
                refine Rg.does_call (f := 23) (args := #[.int .i32 y]) (Rg.wanted_some rfl rfl rfl e50) (by simp [e52, go_sem]) ?_
                exact (HO1 w1).mono fun e w' ⟨g, cap, h1, h2, h3⟩ => ⟨_, h1, ⟨_, _, rfl, h2.bys⟩, below_then hS h3, h3⟩
              · intro a w1 hS hb hd
                have e53 := hd ⟨6, .data⟩ (by simp) rfl _ _ rfl rfl
                have e50 := hd ⟨3, .guard⟩ (by simp) rfl _ _ rfl rfl
                obtain ⟨Am, cm, em, hm⟩ := e53; have em := Rg.slot em; have ym := hm.conv; rw [← HS1.out] at ym; exact Rg.does_pure (Rg.wanted_some rfl rfl rfl e50) (by simp [execOp, em, ym, go_sem]) hS rfl
              · intro a w1 hS hb hd
                have e0 := hb 0 (Rg.nw (by decide))
                simp [Act.eval] at e0
                have e50 := hd ⟨3, .guard⟩ (by simp) rfl _ _ rfl rfl
                exact Rg.does_pure (Rg.wanted_some rfl rfl rfl e50) (by simp [execOp, e0, go_sem]) hS rfl
              · intro a w1 hS hb hd
                have e4 := hb 4 (Rg.nw (by decide))
                simp [Act.eval] at e4
                have e50 := hd ⟨3, .guard⟩ (by simp) rfl _ _ rfl rfl
                exact Rg.does_pure (Rg.wanted_some rfl rfl rfl e50) (by simp [execOp, e4, go_sem]) hS rfl
              · intro a w1 hS hb hd
                have e55 := hd ⟨8, .data⟩ (by simp) rfl _ _ rfl rfl
                have e55 : a.tmps[55]?.getD undef = (.slice (some ⟨g, o, none⟩) n c) := Rg.slot e55
                have e56 := hd ⟨9, .data⟩ (by simp) rfl _ _ rfl rfl
                have e56 : a.tmps[56]?.getD undef = (.int .i64 1) := Rg.slot e56
                have e50 := hd ⟨3, .guard⟩ (by simp) rfl _ _ rfl rfl
                exact Rg.does_pure (Rg.wanted_some rfl rfl rfl e50) (by simp [execOp, e55, e56, hsl, go_sem]) hS rfl
              · intro a w1 hS hb hd
                have e57 := hd ⟨10, .data⟩ (by simp) rfl _ _ rfl rfl
                have e57 : a.tmps[57]?.getD undef = (.slice (some ⟨g, o, none⟩) 1 c) := Rg.slot e57
                have e50 := hd ⟨3, .guard⟩ (by simp) rfl _ _ rfl rfl
                exact Rg.does_pure (Rg.wanted_some rfl rfl rfl e50) (by simp [execOp, e57, y2 w1 hS, go_sem]) hS rfl
              · intro a w1 hS hb hd
                have e54 := hd ⟨7, .data⟩ (by simp) rfl _ _ rfl rfl
                have e54 : a.tmps[54]?.getD undef = (.string s1) := Rg.slot e54
                have e58 := hd ⟨11, .data⟩ (by simp) rfl _ _ rfl rfl
                have e58 : a.tmps[58]?.getD undef = (.string s2) := Rg.slot e58
                have e50 := hd ⟨3, .guard⟩ (by simp) rfl _ _ rfl rfl
                exact Rg.does_pure (Rg.wanted_some rfl rfl rfl e50) (by simp [execOp, e54, e58, hst, go_sem]) hS rfl
              · intro a w1 hS hb hd
                have e50 := hd ⟨3, .data⟩ (by simp) rfl _ _ rfl rfl
                have e50 : a.tmps[50]?.getD undef = (.bool true) := Rg.slot e50
                have e59 := hd ⟨12, .data⟩ (by simp) rfl _ _ rfl rfl
                have e59 : a.tmps[59]?.getD undef = (.bool d) := Rg.slot e59
                exact Rg.does_pure (Rg.wanted_none rfl) (by simp [execOp, e50, e59, go_sem]) hS rfl
              intro v w6 hS6 hF
              have h13 : v 13 = .bool d := hF 13 _ _ rfl rfl
              have H8 : v 8 = .slice (some ⟨g, o, none⟩) n c := hF 8 _ _ rfl rfl
              simp only [Rg.putAll, h13]
              simp only [Act.put, List.setIfInBounds_toArray, List.set_cons_succ, List.set_cons_zero]
              have HB6 := Lib.hid (HBL.out.trans (hS6.mono HBL.out.size))
              clear HM1 HO1 hsl y2 hst hF h13 H8 HALL hS6
              cases d with
              | true =>
                have HF := Lib.hid (show Pl.fst bs = (y.toNat, 1) by
                  have h1 : Pl.Hit bs 1 := ⟨by rw [HV.out]; exact HMAY.out, by rw [HV.out]; exact of_decide_eq_true HD.out.symm⟩
                  rw [HHIT.out h1, HV.out])
                have HYN := Lib.hid (show ((y.toNat : Nat) : Int) = y by have := HMAY.out.le; omega)
                go_wp2_with fail
                go_ret2
                have := FstRet.mk HF.out HB6.out
                rw [HYN.out] at this
                exact this
              | false =>
                have HNO := Lib.hid (HXT.out (fun h => absurd HD.out.symm (by rw [decide_eq_true (by have := h.2; rwa [HV.out] at this)]; decide)))
                go_wp2_with fail
                go_roundw
                case rel => exact ⟨2, by go_num, by omega, by omega, HB6.out, HNO.out⟩
                case measure => simp [intOf]
            · have HM1 := fun w1 : World => HM0.out w1
              rw [decide_eq_false hm] at HM1
              have HNO := Lib.hid (HXT.out (fun h => hm (by have := h.1; rwa [HV.out] at this)))
              have HALL := Lib.hid (And.intro HM1 hw)
              clear hm HM1 hw
              go_wp2_with fail
              obtain ⟨HM1, hw⟩ := HALL.out
              refine Rg.wp_region_inv (fun w' => Below wr.heap.size wr w') (Rg.Wd.at [.is (.int .i64 y), .is (.int .i32 y), .is (.bool false), .is (.bool false), .any, .any, .any, .any, .any, .any, .any, .any, .any, .is (.bool false)]) (by kernel_rfl) (by kernel_rfl) (Rg.Wd.stays _ _) (below_drawn (Below.refl _ wr)) ⟨?_, ?_, ?_, ?_, ?_, ?_, ?_, ?_, ?_, ?_, ?_, ?_, ?_, ?_, trivial⟩ ?_
              · intro a w1 hS hb hd
                have e5 := hb 5 (Rg.nw (by decide))
                simp [Act.eval] at e5
                exact Rg.does_pure (Rg.wanted_none rfl) (by simp [execOp, e5, go_sem]) hS rfl
              · intro a w1 hS hb hd
                have e47 := hd ⟨0, .data⟩ (by simp) rfl _ _ rfl rfl
                have e47 : a.tmps[47]?.getD undef = (.int .i64 y) := Rg.slot e47
                exact Rg.does_pure (Rg.wanted_none rfl) (by simp [execOp, e47, hw, go_sem]) hS rfl
              · intro a w1 hS hb hd
                have e48 := hd ⟨1, .data⟩ (by simp) rfl _ _ rfl rfl
                have e48 : a.tmps[48]?.getD undef = (.int .i32 y) := Rg.slot e48
                refine Rg.does_call (f := 17) (args := #[.int .i32 y]) (Rg.wanted_none rfl) (by simp [e48, go_sem]) ?_
                exact (HM1 w1).mono fun e w' ⟨h1, h2⟩ => h2 ▸ ⟨_, h1, rfl, hS, Below.refl _ _⟩
              · intro a w1 hS hb hd
                have e49 := hd ⟨2, .data⟩ (by simp) rfl _ _ rfl rfl
                have e49 : a.tmps[49]?.getD undef = (.bool false) := Rg.slot e49
                exact Rg.does_pure (Rg.wanted_none rfl) (by simp [execOp, e49, go_sem]) hS rfl
              · intro a w1 hS hb hd
                have e50 := hd ⟨3, .guard⟩ (by simp) rfl _ _ rfl rfl
                exact Or.inr ⟨Rg.unwanted rfl rfl rfl e50, trivial⟩
              · intro a w1 hS hb hd
                have e50 := hd ⟨3, .guard⟩ (by simp) rfl _ _ rfl rfl
                exact Or.inr ⟨Rg.unwanted rfl rfl rfl e50, trivial⟩
              · intro a w1 hS hb hd
                have e50 := hd ⟨3, .guard⟩ (by simp) rfl _ _ rfl rfl
                exact Or.inr ⟨Rg.unwanted rfl rfl rfl e50, trivial⟩
              · intro a w1 hS hb hd
                have e50 := hd ⟨3, .guard⟩ (by simp) rfl _ _ rfl rfl
                exact Or.inr ⟨Rg.unwanted rfl rfl rfl e50, trivial⟩
              · intro a w1 hS hb hd
                have e50 := hd ⟨3, .guard⟩ (by simp) rfl _ _ rfl rfl
                exact Or.inr ⟨Rg.unwanted rfl rfl rfl e50, trivial⟩
              · intro a w1 hS hb hd
                have e50 := hd ⟨3, .guard⟩ (by simp) rfl _ _ rfl rfl
                exact Or.inr ⟨Rg.unwanted rfl rfl rfl e50, trivial⟩
              · intro a w1 hS hb hd
                have e50 := hd ⟨3, .guard⟩ (by simp) rfl _ _ rfl rfl
                exact Or.inr ⟨Rg.unwanted rfl rfl rfl e50, trivial⟩
              · intro a w1 hS hb hd
                have e50 := hd ⟨3, .guard⟩ (by simp) rfl _ _ rfl rfl
                exact Or.inr ⟨Rg.unwanted rfl rfl rfl e50, trivial⟩
              · intro a w1 hS hb hd
                have e50 := hd ⟨3, .guard⟩ (by simp) rfl _ _ rfl rfl
                exact Or.inr ⟨Rg.unwanted rfl rfl rfl e50, trivial⟩
              · intro a w1 hS hb hd
                have e50 := hd ⟨3, .data⟩ (by simp) rfl _ _ rfl rfl
                have e50 : a.tmps[50]?.getD undef = (.bool false) := Rg.slot e50
                exact Rg.does_pure (Rg.wanted_none rfl) (by simp [execOp, e50, go_sem]) hS rfl
              intro v w6 hS6 hF
              have h13 : v 13 = .bool false := hF 13 _ _ rfl rfl
              simp only [Rg.putAll, h13]
              simp only [Act.put, List.setIfInBounds_toArray, List.set_cons_succ, List.set_cons_zero]
              have HB6 := Lib.hid (HBL.out.trans (hS6.mono HBL.out.size))
              clear HM1 hF h13 HALL hS6 hw
              go_wp2_with fail
              go_roundw
              case rel => exact ⟨2, by go_num, by omega, by omega, HB6.out, HNO.out⟩
              case measure => simp [intOf]
      · have HOF := Lib.hid (show Pl.off 2 = 192 from rfl)
        go_wp2_with fail
        go_loop [5, 6] (fun c i => IRel ((b0 : Int) - 192) l 2 c i) (fun _ i => 2 - (intOf i).toNat)
        case atStart => exact ⟨1, (b0 : Int) - 192, rfl, by omega, by omega, rfl, rfl, by simp <;> omega, by simp <;> omega⟩
        case round =>
          obtain ⟨j, y, rfl, hj1, hjk, rfl, hy, hy1, hy2⟩ := hrel
          have hp := pow65 (show j ≤ 4 by omega)
          have hyl : -70304000 ≤ y ∧ y ≤ 70304000 := by omega
          have HY := Lib.hid (And.intro hy (And.intro hy1 hy2))
          obtain ⟨hyl1, hyl2⟩ := hyl
          clear hy hy1 hy2 hp
          by_cases hlt : j < 2
          · have hcj := HC.out j (by omega)
            have hx6 := Pl.oct_getD HBR.out.oct j
            have HN := Lib.hid (irel_next (x := bs.getD j 0) hj1 (by rw [HTL.out.1]; omega) (by have := HTL.out.2 (j - 1) (by omega); rwa [show j - 1 + 1 = j by omega] at this) hx6 HY.out.1 HY.out.2.1 HY.out.2.2)
            obtain ⟨x, hx⟩ : ∃ x, x = bs.getD j 0 := ⟨_, rfl⟩
            rw [← hx] at hcj hx6 HN
            clear hx
            go_wp2_with fail
            go_round
            case rel => exact ⟨j + 1, _, by go_num, by omega, by omega, rfl, by rw [Nat.add_sub_cancel]; exact HN.out.1, by rw [Nat.add_sub_cancel]; exact HN.out.2.1, by rw [Nat.add_sub_cancel]; exact HN.out.2.2⟩
            case measure => simp [intOf]; omega
          · obtain rfl : j = 2 := by omega
            have HV := Lib.hid (show Pl.rcv bs 2 = y by
              rw [HRC.out, HY.out.1, HOF.out, List.take_of_length_le (by rw [HTL.out.1]; omega)])
            have hw : IntKind.i32.wrap y = y := IntWalk.i32_in _ (by omega)
            have HJ := Lib.hid (show Pl.J y by unfold Pl.J; omega)
            have HM0 := Lib.hid (fun w1 : World => rmay_any y w1 HJ.out)
            clear hjk hj1 hyl1 hyl2 hlt
            by_cases hm : Pl.May y
            · have HM1 := fun w1 : World => HM0.out w1
              rw [decide_eq_true hm] at HM1
              have HO1 := fun w1 : World => rone_any y w1 hm
              have hsl : ∀ w', (Instr.sliceAt 23 (.slice (some ⟨g, o, none⟩) n c) none (some (.int .i64 2)) none).run Tryd.prog w' = .ok (.slice (some ⟨g, o, none⟩) 2 c) w' := slice_to (some ⟨g, o, none⟩) n c 2 (by omega)
              have hup := HBR.out.upto hkn
              have y2 := fun (w' : World) (hk : Below wr.heap.size wr w') => (hup.then_ hk).conv
              have hst := str_beq (Pl.oct_uno hm) hup.oct
              obtain ⟨s1, hs1⟩ : ∃ s, s = strOfNums (ints (Pl.uno y)) := ⟨_, rfl⟩
              have HS1 := Lib.hid hs1
              obtain ⟨s2, hs2⟩ : ∃ s, s = strOfNums (ints (bs.take 2)) := ⟨_, rfl⟩
              rw [← hs2] at y2
              rw [← hs1, ← hs2] at hst
              obtain ⟨d, hd0⟩ : ∃ d, d = decide (Pl.uno y = bs.take 2) := ⟨_, rfl⟩
              rw [← hd0] at hst
              have HD := Lib.hid hd0
              have HALL := Lib.hid (And.intro HM1 (And.intro HO1 (And.intro hsl (And.intro y2 (And.intro hst hw)))))
              have HMAY := Lib.hid hm
              clear hs1 hs2 hd0 hup hm HM1 HO1 hsl y2 hst hw
              go_wp2_with fail
              obtain ⟨HM1, HO1, hsl, y2, hst, hw⟩ := HALL.out
              refine Rg.wp_region_inv (fun w' => Below wr.heap.size wr w') (Rg.Wd.at [.is (.int .i64 y), .is (.int .i32 y), .is (.bool true), .is (.bool true), .is (.int .i64 y), .is (.int .i32 y), .pred (Lies (Pl.uno y)) (lies_stb _), .is (.string s1), .is (.slice (some ⟨g, o, none⟩) n c), .is (.int .i64 2), .is (.slice (some ⟨g, o, none⟩) 2 c), .is (.string s2), .is (.bool d), .is (.bool d)]) (by kernel_rfl) (by kernel_rfl) (Rg.Wd.stays _ _) (below_drawn (Below.refl _ wr)) ⟨?_, ?_, ?_, ?_, ?_, ?_, ?_, ?_, ?_, ?_, ?_, ?_, ?_, ?_, trivial⟩ ?_
              · intro a w1 hS hb hd
                have e5 := hb 5 (Rg.nw (by decide))
                simp [Act.eval] at e5
                exact Rg.does_pure (Rg.wanted_none rfl) (by simp [execOp, e5, go_sem]) hS rfl
              · intro a w1 hS hb hd
                have e47 := hd ⟨0, .data⟩ (by simp) rfl _ _ rfl rfl
                have e47 : a.tmps[47]?.getD undef = (.int .i64 y) := Rg.slot e47
                exact Rg.does_pure (Rg.wanted_none rfl) (by simp [execOp, e47, hw, go_sem]) hS rfl
              · intro a w1 hS hb hd
                have e48 := hd ⟨1, .data⟩ (by simp) rfl _ _ rfl rfl
                have e48 : a.tmps[48]?.getD undef = (.int .i32 y) := Rg.slot e48
                refine Rg.does_call (f := 17) (args := #[.int .i32 y]) (Rg.wanted_none rfl) (by simp [e48, go_sem]) ?_
                exact (HM1 w1).mono fun e w' ⟨h1, h2⟩ => h2 ▸ ⟨_, h1, rfl, hS, Below.refl _ _⟩
              · intro a w1 hS hb hd
                have e49 := hd ⟨2, .data⟩ (by simp) rfl _ _ rfl rfl
                have e49 : a.tmps[49]?.getD undef = (.bool true) := Rg.slot e49
                exact Rg.does_pure (Rg.wanted_none rfl) (by simp [execOp, e49, go_sem]) hS rfl
              · intro a w1 hS hb hd
                have e5 := hb 5 (Rg.nw (by decide))
                simp [Act.eval] at e5
                have e50 := hd ⟨3, .guard⟩ (by simp) rfl _ _ rfl rfl
                exact Rg.does_pure (Rg.wanted_some rfl rfl rfl e50) (by simp [execOp, e5, go_sem]) hS rfl
              · intro a w1 hS hb hd
                have e51 := hd ⟨4, .data⟩ (by simp) rfl _ _ rfl rfl
                have e51 : a.tmps[51]?.getD undef = (.int .i64 y) := Rg.slot e51
                have e50 := hd ⟨3, .guard⟩ (by simp) rfl _ _ rfl rfl
                exact Rg.does_pure (Rg.wanted_some rfl rfl rfl e50) (by simp [execOp, e51, hw, go_sem]) hS rfl
              · intro a w1 hS hb hd
                have e52 := hd ⟨5, .data⟩ (by simp) rfl _ _ rfl rfl
                have e52 : a.tmps[52]?.getD undef = (.int .i32 y) := Rg.slot e52
                have e50 := hd ⟨3, .guard⟩ (by simp) rfl _ _ rfl rfl
                refine Rg.does_call (f := 23) (args := #[.int .i32 y]) (Rg.wanted_some rfl rfl rfl e50) (by simp [e52, go_sem]) ?_
                exact (HO1 w1).mono fun e w' ⟨g, cap, h1, h2, h3⟩ => ⟨_, h1, ⟨_, _, rfl, h2.bys⟩, below_then hS h3, h3⟩
              · intro a w1 hS hb hd
                have e53 := hd ⟨6, .data⟩ (by simp) rfl _ _ rfl rfl
                have e50 := hd ⟨3, .guard⟩ (by simp) rfl _ _ rfl rfl
                obtain ⟨Am, cm, em, hm⟩ := e53; have em := Rg.slot em; have ym := hm.conv; rw [← HS1.out] at ym; exact Rg.does_pure (Rg.wanted_some rfl rfl rfl e50) (by simp [execOp, em, ym, go_sem]) hS rfl
              · intro a w1 hS hb hd
                have e0 := hb 0 (Rg.nw (by decide))
                simp [Act.eval] at e0
                have e50 := hd ⟨3, .guard⟩ (by simp) rfl _ _ rfl rfl
                exact Rg.does_pure (Rg.wanted_some rfl rfl rfl e50) (by simp [execOp, e0, go_sem]) hS rfl
              · intro a w1 hS hb hd
                have e4 := hb 4 (Rg.nw (by decide))
                simp [Act.eval] at e4
                have e50 := hd ⟨3, .guard⟩ (by simp) rfl _ _ rfl rfl
                exact Rg.does_pure (Rg.wanted_some rfl rfl rfl e50) (by simp [execOp, e4, go_sem]) hS rfl
              · intro a w1 hS hb hd
                have e55 := hd ⟨8, .data⟩ (by simp) rfl _ _ rfl rfl
                have e55 : a.tmps[55]?.getD undef = (.slice (some ⟨g, o, none⟩) n c) := Rg.slot e55
                have e56 := hd ⟨9, .data⟩ (by simp) rfl _ _ rfl rfl
                have e56 : a.tmps[56]?.getD undef = (.int .i64 2) := Rg.slot e56
                have e50 := hd ⟨3, .guard⟩ (by simp) rfl _ _ rfl rfl
                exact Rg.does_pure (Rg.wanted_some rfl rfl rfl e50) (by simp [execOp, e55, e56, hsl, go_sem]) hS rfl
              · intro a w1 hS hb hd
                have e57 := hd ⟨10, .data⟩ (by simp) rfl _ _ rfl rfl
                have e57 : a.tmps[57]?.getD undef = (.slice (some ⟨g, o, none⟩) 2 c) := Rg.slot e57
                have e50 := hd ⟨3, .guard⟩ (by simp) rfl _ _ rfl rfl
                exact Rg.does_pure (Rg.wanted_some rfl rfl rfl e50) (by simp [execOp, e57, y2 w1 hS, go_sem]) hS rfl
              · intro a w1 hS hb hd
                have e54 := hd ⟨7, .data⟩ (by simp) rfl _ _ rfl rfl
                have e54 : a.tmps[54]?.getD undef = (.string s1) := Rg.slot e54
                have e58 := hd ⟨11, .data⟩ (by simp) rfl _ _ rfl rfl
                have e58 : a.tmps[58]?.getD undef = (.string s2) := Rg.slot e58
                have e50 := hd ⟨3, .guard⟩ (by simp) rfl _ _ rfl rfl
                exact Rg.does_pure (Rg.wanted_some rfl rfl rfl e50) (by simp [execOp, e54, e58, hst, go_sem]) hS rfl
              · intro a w1 hS hb hd
                have e50 := hd ⟨3, .data⟩ (by simp) rfl _ _ rfl rfl
                have e50 : a.tmps[50]?.getD undef = (.bool true) := Rg.slot e50
                have e59 := hd ⟨12, .data⟩ (by simp) rfl _ _ rfl rfl
                have e59 : a.tmps[59]?.getD undef = (.bool d) := Rg.slot e59
                exact Rg.does_pure (Rg.wanted_none rfl) (by simp [execOp, e50, e59, go_sem]) hS rfl
              intro v w6 hS6 hF
              have h13 : v 13 = .bool d := hF 13 _ _ rfl rfl
              have H8 : v 8 = .slice (some ⟨g, o, none⟩) n c := hF 8 _ _ rfl rfl
              simp only [Rg.putAll, h13]
              simp only [Act.put, List.setIfInBounds_toArray, List.set_cons_succ, List.set_cons_zero]
              have HB6 := Lib.hid (HBL.out.trans (hS6.mono HBL.out.size))
              clear HM1 HO1 hsl y2 hst hF h13 H8 HALL hS6
              cases d with
              | true =>
                have HF := Lib.hid (show Pl.fst bs = (y.toNat, 2) by
                  have h1 : Pl.Hit bs 2 := ⟨by rw [HV.out]; exact HMAY.out, by rw [HV.out]; exact of_decide_eq_true HD.out.symm⟩
                  rw [HHIT.out h1, HV.out])
                have HYN := Lib.hid (show ((y.toNat : Nat) : Int) = y by have := HMAY.out.le; omega)
                go_wp2_with fail
                go_ret2
                have := FstRet.mk HF.out HB6.out
                rw [HYN.out] at this
                exact this
              | false =>
                have HNO := Lib.hid (HXT.out (fun h => absurd HD.out.symm (by rw [decide_eq_true (by have := h.2; rwa [HV.out] at this)]; decide)))
                go_wp2_with fail
                go_roundw
                case rel => exact ⟨3, by go_num, by omega, by omega, HB6.out, HNO.out⟩
                case measure => simp [intOf]
            · have HM1 := fun w1 : World => HM0.out w1
              rw [decide_eq_false hm] at HM1
              have HNO := Lib.hid (HXT.out (fun h => hm (by have := h.1; rwa [HV.out] at this)))
              have HALL := Lib.hid (And.intro HM1 hw)
              clear hm HM1 hw
              go_wp2_with fail
              obtain ⟨HM1, hw⟩ := HALL.out
              refine Rg.wp_region_inv (fun w' => Below wr.heap.size wr w') (Rg.Wd.at [.is (.int .i64 y), .is (.int .i32 y), .is (.bool false), .is (.bool false), .any, .any, .any, .any, .any, .any, .any, .any, .any, .is (.bool false)]) (by kernel_rfl) (by kernel_rfl) (Rg.Wd.stays _ _) (below_drawn (Below.refl _ wr)) ⟨?_, ?_, ?_, ?_, ?_, ?_, ?_, ?_, ?_, ?_, ?_, ?_, ?_, ?_, trivial⟩ ?_
              · intro a w1 hS hb hd
                have e5 := hb 5 (Rg.nw (by decide))
                simp [Act.eval] at e5
                exact Rg.does_pure (Rg.wanted_none rfl) (by simp [execOp, e5, go_sem]) hS rfl
              · intro a w1 hS hb hd
                have e47 := hd ⟨0, .data⟩ (by simp) rfl _ _ rfl rfl
                have e47 : a.tmps[47]?.getD undef = (.int .i64 y) := Rg.slot e47
                exact Rg.does_pure (Rg.wanted_none rfl) (by simp [execOp, e47, hw, go_sem]) hS rfl
              · intro a w1 hS hb hd
                have e48 := hd ⟨1, .data⟩ (by simp) rfl _ _ rfl rfl
                have e48 : a.tmps[48]?.getD undef = (.int .i32 y) := Rg.slot e48
                refine Rg.does_call (f := 17) (args := #[.int .i32 y]) (Rg.wanted_none rfl) (by simp [e48, go_sem]) ?_
                exact (HM1 w1).mono fun e w' ⟨h1, h2⟩ => h2 ▸ ⟨_, h1, rfl, hS, Below.refl _ _⟩
              · intro a w1 hS hb hd
                have e49 := hd ⟨2, .data⟩ (by simp) rfl _ _ rfl rfl
                have e49 : a.tmps[49]?.getD undef = (.bool false) := Rg.slot e49
                exact Rg.does_pure (Rg.wanted_none rfl) (by simp [execOp, e49, go_sem]) hS rfl
              · intro a w1 hS hb hd
                have e50 := hd ⟨3, .guard⟩ (by simp) rfl _ _ rfl rfl
                exact Or.inr ⟨Rg.unwanted rfl rfl rfl e50, trivial⟩
              · intro a w1 hS hb hd
                have e50 := hd ⟨3, .guard⟩ (by simp) rfl _ _ rfl rfl
                exact Or.inr ⟨Rg.unwanted rfl rfl rfl e50, trivial⟩
              · intro a w1 hS hb hd
                have e50 := hd ⟨3, .guard⟩ (by simp) rfl _ _ rfl rfl
                exact Or.inr ⟨Rg.unwanted rfl rfl rfl e50, trivial⟩
              · intro a w1 hS hb hd
                have e50 := hd ⟨3, .guard⟩ (by simp) rfl _ _ rfl rfl
                exact Or.inr ⟨Rg.unwanted rfl rfl rfl e50, trivial⟩
              · intro a w1 hS hb hd
                have e50 := hd ⟨3, .guard⟩ (by simp) rfl _ _ rfl rfl
                exact Or.inr ⟨Rg.unwanted rfl rfl rfl e50, trivial⟩
              · intro a w1 hS hb hd
                have e50 := hd ⟨3, .guard⟩ (by simp) rfl _ _ rfl rfl
                exact Or.inr ⟨Rg.unwanted rfl rfl rfl e50, trivial⟩
              · intro a w1 hS hb hd
                have e50 := hd ⟨3, .guard⟩ (by simp) rfl _ _ rfl rfl
                exact Or.inr ⟨Rg.unwanted rfl rfl rfl e50, trivial⟩
              · intro a w1 hS hb hd
                have e50 := hd ⟨3, .guard⟩ (by simp) rfl _ _ rfl rfl
                exact Or.inr ⟨Rg.unwanted rfl rfl rfl e50, trivial⟩
              · intro a w1 hS hb hd
                have e50 := hd ⟨3, .guard⟩ (by simp) rfl _ _ rfl rfl
                exact Or.inr ⟨Rg.unwanted rfl rfl rfl e50, trivial⟩
              · intro a w1 hS hb hd
                have e50 := hd ⟨3, .data⟩ (by simp) rfl _ _ rfl rfl
                have e50 : a.tmps[50]?.getD undef = (.bool false) := Rg.slot e50
                exact Rg.does_pure (Rg.wanted_none rfl) (by simp [execOp, e50, go_sem]) hS rfl
              intro v w6 hS6 hF
              have h13 : v 13 = .bool false := hF 13 _ _ rfl rfl
              simp only [Rg.putAll, h13]
              simp only [Act.put, List.setIfInBounds_toArray, List.set_cons_succ, List.set_cons_zero]
              have HB6 := Lib.hid (HBL.out.trans (hS6.mono HBL.out.size))
              clear HM1 hF h13 HALL hS6 hw
              go_wp2_with fail
              go_roundw
              case rel => exact ⟨3, by go_num, by omega, by omega, HB6.out, HNO.out⟩
              case measure => simp [intOf]
      · have HOF := Lib.hid (show Pl.off 3 = 224 from rfl)
        go_wp2_with fail
        go_loop [5, 6] (fun c i => IRel ((b0 : Int) - 224) l 3 c i) (fun _ i => 3 - (intOf i).toNat)
        case atStart => exact ⟨1, (b0 : Int) - 224, rfl, by omega, by omega, rfl, rfl, by simp <;> omega, by simp <;> omega⟩
        case round =>
          obtain ⟨j, y, rfl, hj1, hjk, rfl, hy, hy1, hy2⟩ := hrel
          have hp := pow65 (show j ≤ 4 by omega)
          have hyl : -70304000 ≤ y ∧ y ≤ 70304000 := by omega
          have HY := Lib.hid (And.intro hy (And.intro hy1 hy2))
          obtain ⟨hyl1, hyl2⟩ := hyl
          clear hy hy1 hy2 hp
          by_cases hlt : j < 3
          · have hcj := HC.out j (by omega)
            have hx6 := Pl.oct_getD HBR.out.oct j
            have HN := Lib.hid (irel_next (x := bs.getD j 0) hj1 (by rw [HTL.out.1]; omega) (by have := HTL.out.2 (j - 1) (by omega); rwa [show j - 1 + 1 = j by omega] at this) hx6 HY.out.1 HY.out.2.1 HY.out.2.2)
            obtain ⟨x, hx⟩ : ∃ x, x = bs.getD j 0 := ⟨_, rfl⟩
            rw [← hx] at hcj hx6 HN
            clear hx
            go_wp2_with fail
            go_round
            case rel => exact ⟨j + 1, _, by go_num, by omega, by omega, rfl, by rw [Nat.add_sub_cancel]; exact HN.out.1, by rw [Nat.add_sub_cancel]; exact HN.out.2.1, by rw [Nat.add_sub_cancel]; exact HN.out.2.2⟩
            case measure => simp [intOf]; omega
          · obtain rfl : j = 3 := by omega
            have HV := Lib.hid (show Pl.rcv bs 3 = y by
              rw [HRC.out, HY.out.1, HOF.out, List.take_of_length_le (by rw [HTL.out.1]; omega)])
            have hw : IntKind.i32.wrap y = y := IntWalk.i32_in _ (by omega)
            have HJ := Lib.hid (show Pl.J y by unfold Pl.J; omega)
            have HM0 := Lib.hid (fun w1 : World => rmay_any y w1 HJ.out)
            clear hjk hj1 hyl1 hyl2 hlt
            by_cases hm : Pl.May y
            · have HM1 := fun w1 : World => HM0.out w1
              rw [decide_eq_true hm] at HM1
              have HO1 := fun w1 : World => rone_any y w1 hm
              have hsl : ∀ w', (Instr.sliceAt 23 (.slice (some ⟨g, o, none⟩) n c) none (some (.int .i64 3)) none).run Tryd.prog w' = .ok (.slice (some ⟨g, o, none⟩) 3 c) w' := slice_to (some ⟨g, o, none⟩) n c 3 (by omega)
              have hup := HBR.out.upto hkn
              have y2 := fun (w' : World) (hk : Below wr.heap.size wr w') => (hup.then_ hk).conv
              have hst := str_beq (Pl.oct_uno hm) hup.oct
              obtain ⟨s1, hs1⟩ : ∃ s, s = strOfNums (ints (Pl.uno y)) := ⟨_, rfl⟩
              have HS1 := Lib.hid hs1
              obtain ⟨s2, hs2⟩ : ∃ s, s = strOfNums (ints (bs.take 3)) := ⟨_, rfl⟩
              rw [← hs2] at y2
              rw [← hs1, ← hs2] at hst
              obtain ⟨d, hd0⟩ : ∃ d, d = decide (Pl.uno y = bs.take 3) := ⟨_, rfl⟩
              rw [← hd0] at hst
              have HD := Lib.hid hd0
              have HALL := Lib.hid (And.intro HM1 (And.intro HO1 (And.intro hsl (And.intro y2 (And.intro hst hw)))))
              have HMAY := Lib.hid hm
              clear hs1 hs2 hd0 hup hm HM1 HO1 hsl y2 hst hw
              go_wp2_with fail
              obtain ⟨HM1, HO1, hsl, y2, hst, hw⟩ := HALL.out
              refine Rg.wp_region_inv (fun w' => Below wr.heap.size wr w') (Rg.Wd.at [.is (.int .i64 y), .is (.int .i32 y), .is (.bool true), .is (.bool true), .is (.int .i64 y), .is (.int .i32 y), .pred (Lies (Pl.uno y)) (lies_stb _), .is (.string s1), .is (.slice (some ⟨g, o, none⟩) n c), .is (.int .i64 3), .is (.slice (some ⟨g, o, none⟩) 3 c), .is (.string s2), .is (.bool d), .is (.bool d)]) (by kernel_rfl) (by kernel_rfl) (Rg.Wd.stays _ _) (below_drawn (Below.refl _ wr)) ⟨?_, ?_, ?_, ?_, ?_, ?_, ?_, ?_, ?_, ?_, ?_, ?_, ?_, ?_, trivial⟩ ?_
              · intro a w1 hS hb hd
                have e5 := hb 5 (Rg.nw (by decide))
                simp [Act.eval] at e5
                exact Rg.does_pure (Rg.wanted_none rfl) (by simp [execOp, e5, go_sem]) hS rfl
              · intro a w1 hS hb hd
                have e47 := hd ⟨0, .data⟩ (by simp) rfl _ _ rfl rfl
                have e47 : a.tmps[47]?.getD undef = (.int .i64 y) := Rg.slot e47
                exact Rg.does_pure (Rg.wanted_none rfl) (by simp [execOp, e47, hw, go_sem]) hS rfl
              · intro a w1 hS hb hd
                have e48 := hd ⟨1, .data⟩ (by simp) rfl _ _ rfl rfl
                have e48 : a.tmps[48]?.getD undef = (.int .i32 y) := Rg.slot e48
                refine Rg.does_call (f := 17) (args := #[.int .i32 y]) (Rg.wanted_none rfl) (by simp [e48, go_sem]) ?_
                exact (HM1 w1).mono fun e w' ⟨h1, h2⟩ => h2 ▸ ⟨_, h1, rfl, hS, Below.refl _ _⟩
              · intro a w1 hS hb hd
                have e49 := hd ⟨2, .data⟩ (by simp) rfl _ _ rfl rfl
                have e49 : a.tmps[49]?.getD undef = (.bool true) := Rg.slot e49
                exact Rg.does_pure (Rg.wanted_none rfl) (by simp [execOp, e49, go_sem]) hS rfl
              · intro a w1 hS hb hd
                have e5 := hb 5 (Rg.nw (by decide))
                simp [Act.eval] at e5
                have e50 := hd ⟨3, .guard⟩ (by simp) rfl _ _ rfl rfl
                exact Rg.does_pure (Rg.wanted_some rfl rfl rfl e50) (by simp [execOp, e5, go_sem]) hS rfl
              · intro a w1 hS hb hd
                have e51 := hd ⟨4, .data⟩ (by simp) rfl _ _ rfl rfl
                have e51 : a.tmps[51]?.getD undef = (.int .i64 y) := Rg.slot e51
                have e50 := hd ⟨3, .guard⟩ (by simp) rfl _ _ rfl rfl
                exact Rg.does_pure (Rg.wanted_some rfl rfl rfl e50) (by simp [execOp, e51, hw, go_sem]) hS rfl
              · intro a w1 hS hb hd
                have e52 := hd ⟨5, .data⟩ (by simp) rfl _ _ rfl rfl
                have e52 : a.tmps[52]?.getD undef = (.int .i32 y) := Rg.slot e52
                have e50 := hd ⟨3, .guard⟩ (by simp) rfl _ _ rfl rfl
                refine Rg.does_call (f := 23) (args := #[.int .i32 y]) (Rg.wanted_some rfl rfl rfl e50) (by simp [e52, go_sem]) ?_
                exact (HO1 w1).mono fun e w' ⟨g, cap, h1, h2, h3⟩ => ⟨_, h1, ⟨_, _, rfl, h2.bys⟩, below_then hS h3, h3⟩
              · intro a w1 hS hb hd
                have e53 := hd ⟨6, .data⟩ (by simp) rfl _ _ rfl rfl
                have e50 := hd ⟨3, .guard⟩ (by simp) rfl _ _ rfl rfl
                obtain ⟨Am, cm, em, hm⟩ := e53; have em := Rg.slot em; have ym := hm.conv; rw [← HS1.out] at ym; exact Rg.does_pure (Rg.wanted_some rfl rfl rfl e50) (by simp [execOp, em, ym, go_sem]) hS rfl
              · intro a w1 hS hb hd
                have e0 := hb 0 (Rg.nw (by decide))
                simp [Act.eval] at e0
                have e50 := hd ⟨3, .guard⟩ (by simp) rfl _ _ rfl rfl
                exact Rg.does_pure (Rg.wanted_some rfl rfl rfl e50) (by simp [execOp, e0, go_sem]) hS rfl
              · intro a w1 hS hb hd
                have e4 := hb 4 (Rg.nw (by decide))
                simp [Act.eval] at e4
                have e50 := hd ⟨3, .guard⟩ (by simp) rfl _ _ rfl rfl
                exact Rg.does_pure (Rg.wanted_some rfl rfl rfl e50) (by simp [execOp, e4, go_sem]) hS rfl
              · intro a w1 hS hb hd
                have e55 := hd ⟨8, .data⟩ (by simp) rfl _ _ rfl rfl
                have e55 : a.tmps[55]?.getD undef = (.slice (some ⟨g, o, none⟩) n c) := Rg.slot e55
                have e56 := hd ⟨9, .data⟩ (by simp) rfl _ _ rfl rfl
                have e56 : a.tmps[56]?.getD undef = (.int .i64 3) := Rg.slot e56
                have e50 := hd ⟨3, .guard⟩ (by simp) rfl _ _ rfl rfl
                exact Rg.does_pure (Rg.wanted_some rfl rfl rfl e50) (by simp [execOp, e55, e56, hsl, go_sem]) hS rfl
              · intro a w1 hS hb hd
                have e57 := hd ⟨10, .data⟩ (by simp) rfl _ _ rfl rfl
                have e57 : a.tmps[57]?.getD undef = (.slice (some ⟨g, o, none⟩) 3 c) := Rg.slot e57
                have e50 := hd ⟨3, .guard⟩ (by simp) rfl _ _ rfl rfl
                exact Rg.does_pure (Rg.wanted_some rfl rfl rfl e50) (by simp [execOp, e57, y2 w1 hS, go_sem]) hS rfl
              · intro a w1 hS hb hd
                have e54 := hd ⟨7, .data⟩ (by simp) rfl _ _ rfl rfl
                have e54 : a.tmps[54]?.getD undef = (.string s1) := Rg.slot e54
                have e58 := hd ⟨11, .data⟩ (by simp) rfl _ _ rfl rfl
                have e58 : a.tmps[58]?.getD undef = (.string s2) := Rg.slot e58
                have e50 := hd ⟨3, .guard⟩ (by simp) rfl _ _ rfl rfl
                exact Rg.does_pure (Rg.wanted_some rfl rfl rfl e50) (by simp [execOp, e54, e58, hst, go_sem]) hS rfl
              · intro a w1 hS hb hd
                have e50 := hd ⟨3, .data⟩ (by simp) rfl _ _ rfl rfl
                have e50 : a.tmps[50]?.getD undef = (.bool true) := Rg.slot e50
                have e59 := hd ⟨12, .data⟩ (by simp) rfl _ _ rfl rfl
                have e59 : a.tmps[59]?.getD undef = (.bool d) := Rg.slot e59
                exact Rg.does_pure (Rg.wanted_none rfl) (by simp [execOp, e50, e59, go_sem]) hS rfl
              intro v w6 hS6 hF
              have h13 : v 13 = .bool d := hF 13 _ _ rfl rfl
              have H8 : v 8 = .slice (some ⟨g, o, none⟩) n c := hF 8 _ _ rfl rfl
              simp only [Rg.putAll, h13]
              simp only [Act.put, List.setIfInBounds_toArray, List.set_cons_succ, List.set_cons_zero]
              have HB6 := Lib.hid (HBL.out.trans (hS6.mono HBL.out.size))
              clear HM1 HO1 hsl y2 hst hF h13 H8 HALL hS6
              cases d with
              | true =>
                have HF := Lib.hid (show Pl.fst bs = (y.toNat, 3) by
                  have h1 : Pl.Hit bs 3 := ⟨by rw [HV.out]; exact HMAY.out, by rw [HV.out]; exact of_decide_eq_true HD.out.symm⟩
                  rw [HHIT.out h1, HV.out])
                have HYN := Lib.hid (show ((y.toNat : Nat) : Int) = y by have := HMAY.out.le; omega)
                go_wp2_with fail
                go_ret2
                have := FstRet.mk HF.out HB6.out
                rw [HYN.out] at this
                exact this
              | false =>
                have HNO := Lib.hid (HXT.out (fun h => absurd HD.out.symm (by rw [decide_eq_true (by have := h.2; rwa [HV.out] at this)]; decide)))
                go_wp2_with fail
                go_roundw
                case rel => exact ⟨4, by go_num, by omega, by omega, HB6.out, HNO.out⟩
                case measure => simp [intOf]
            · have HM1 := fun w1 : World => HM0.out w1
              rw [decide_eq_false hm] at HM1
              have HNO := Lib.hid (HXT.out (fun h => hm (by have := h.1; rwa [HV.out] at this)))
              have HALL := Lib.hid (And.intro HM1 hw)
              clear hm HM1 hw
              go_wp2_with fail
              obtain ⟨HM1, hw⟩ := HALL.out
              refine Rg.wp_region_inv (fun w' => Below wr.heap.size wr w') (Rg.Wd.at [.is (.int .i64 y), .is (.int .i32 y), .is (.bool false), .is (.bool false), .any, .any, .any, .any, .any, .any, .any, .any, .any, .is (.bool false)]) (by kernel_rfl) (by kernel_rfl) (Rg.Wd.stays _ _) (below_drawn (Below.refl _ wr)) ⟨?_, ?_, ?_, ?_, ?_, ?_, ?_, ?_, ?_, ?_, ?_, ?_, ?_, ?_, trivial⟩ ?_
              · intro a w1 hS hb hd
                have e5 := hb 5 (Rg.nw (by decide))
                simp [Act.eval] at e5
                exact Rg.does_pure (Rg.wanted_none rfl) (by simp [execOp, e5, go_sem]) hS rfl
              · intro a w1 hS hb hd
                have e47 := hd ⟨0, .data⟩ (by simp) rfl _ _ rfl rfl
                have e47 : a.tmps[47]?.getD undef = (.int .i64 y) := Rg.slot e47
                exact Rg.does_pure (Rg.wanted_none rfl) (by simp [execOp, e47, hw, go_sem]) hS rfl
              · intro a w1 hS hb hd
                have e48 := hd ⟨1, .data⟩ (by simp) rfl _ _ rfl rfl
                have e48 : a.tmps[48]?.getD undef = (.int .i32 y) := Rg.slot e48
                refine Rg.does_call (f := 17) (args := #[.int .i32 y]) (Rg.wanted_none rfl) (by simp [e48, go_sem]) ?_
                exact (HM1 w1).mono fun e w' ⟨h1, h2⟩ => h2 ▸ ⟨_, h1, rfl, hS, Below.refl _ _⟩
              · intro a w1 hS hb hd
                have e49 := hd ⟨2, .data⟩ (by simp) rfl _ _ rfl rfl
                have e49 : a.tmps[49]?.getD undef = (.bool false) := Rg.slot e49
                exact Rg.does_pure (Rg.wanted_none rfl) (by simp [execOp, e49, go_sem]) hS rfl
              · intro a w1 hS hb hd
                have e50 := hd ⟨3, .guard⟩ (by simp) rfl _ _ rfl rfl
                exact Or.inr ⟨Rg.unwanted rfl rfl rfl e50, trivial⟩
              · intro a w1 hS hb hd
                have e50 := hd ⟨3, .guard⟩ (by simp) rfl _ _ rfl rfl
                exact Or.inr ⟨Rg.unwanted rfl rfl rfl e50, trivial⟩
              · intro a w1 hS hb hd
                have e50 := hd ⟨3, .guard⟩ (by simp) rfl _ _ rfl rfl
                exact Or.inr ⟨Rg.unwanted rfl rfl rfl e50, trivial⟩
              · intro a w1 hS hb hd
                have e50 := hd ⟨3, .guard⟩ (by simp) rfl _ _ rfl rfl
                exact Or.inr ⟨Rg.unwanted rfl rfl rfl e50, trivial⟩
              · intro a w1 hS hb hd
                have e50 := hd ⟨3, .guard⟩ (by simp) rfl _ _ rfl rfl
                exact Or.inr ⟨Rg.unwanted rfl rfl rfl e50, trivial⟩
              · intro a w1 hS hb hd
                have e50 := hd ⟨3, .guard⟩ (by simp) rfl _ _ rfl rfl
                exact Or.inr ⟨Rg.unwanted rfl rfl rfl e50, trivial⟩
              · intro a w1 hS hb hd
                have e50 := hd ⟨3, .guard⟩ (by simp) rfl _ _ rfl rfl
                exact Or.inr ⟨Rg.unwanted rfl rfl rfl e50, trivial⟩
              · intro a w1 hS hb hd
                have e50 := hd ⟨3, .guard⟩ (by simp) rfl _ _ rfl rfl
                exact Or.inr ⟨Rg.unwanted rfl rfl rfl e50, trivial⟩
              · intro a w1 hS hb hd
                have e50 := hd ⟨3, .guard⟩ (by simp) rfl _ _ rfl rfl
                exact Or.inr ⟨Rg.unwanted rfl rfl rfl e50, trivial⟩
              · intro a w1 hS hb hd
                have e50 := hd ⟨3, .data⟩ (by simp) rfl _ _ rfl rfl
                have e50 : a.tmps[50]?.getD undef = (.bool false) := Rg.slot e50
                exact Rg.does_pure (Rg.wanted_none rfl) (by simp [execOp, e50, go_sem]) hS rfl
              intro v w6 hS6 hF
              have h13 : v 13 = .bool false := hF 13 _ _ rfl rfl
              simp only [Rg.putAll, h13]
              simp only [Act.put, List.setIfInBounds_toArray, List.set_cons_succ, List.set_cons_zero]
              have HB6 := Lib.hid (HBL.out.trans (hS6.mono HBL.out.size))
              clear HM1 hF h13 HALL hS6 hw
              go_wp2_with fail
              go_roundw
              case rel => exact ⟨4, by go_num, by omega, by omega, HB6.out, HNO.out⟩
              case measure => simp [intOf]
      · have HOF := Lib.hid (show Pl.off 4 = 240 from rfl)
        go_wp2_with fail
        go_loop [5, 6] (fun c i => IRel ((b0 : Int) - 240) l 4 c i) (fun _ i => 4 - (intOf i).toNat)
        case atStart => exact ⟨1, (b0 : Int) - 240, rfl, by omega, by omega, rfl, rfl, by simp <;> omega, by simp <;> omega⟩
        case round =>
          obtain ⟨j, y, rfl, hj1, hjk, rfl, hy, hy1, hy2⟩ := hrel
          have hp := pow65 (show j ≤ 4 by omega)
          have hyl : -70304000 ≤ y ∧ y ≤ 70304000 := by omega
          have HY := Lib.hid (And.intro hy (And.intro hy1 hy2))
          obtain ⟨hyl1, hyl2⟩ := hyl
          clear hy hy1 hy2 hp
          by_cases hlt : j < 4
          · have hcj := HC.out j (by omega)
            have hx6 := Pl.oct_getD HBR.out.oct j
            have HN := Lib.hid (irel_next (x := bs.getD j 0) hj1 (by rw [HTL.out.1]; omega) (by have := HTL.out.2 (j - 1) (by omega); rwa [show j - 1 + 1 = j by omega] at this) hx6 HY.out.1 HY.out.2.1 HY.out.2.2)
            obtain ⟨x, hx⟩ : ∃ x, x = bs.getD j 0 := ⟨_, rfl⟩
            rw [← hx] at hcj hx6 HN
            clear hx
            go_wp2_with fail
            go_round
            case rel => exact ⟨j + 1, _, by go_num, by omega, by omega, rfl, by rw [Nat.add_sub_cancel]; exact HN.out.1, by rw [Nat.add_sub_cancel]; exact HN.out.2.1, by rw [Nat.add_sub_cancel]; exact HN.out.2.2⟩
            case measure => simp [intOf]; omega
          · obtain rfl : j = 4 := by omega
            have HV := Lib.hid (show Pl.rcv bs 4 = y by
              rw [HRC.out, HY.out.1, HOF.out, List.take_of_length_le (by rw [HTL.out.1]; omega)])
            have hw : IntKind.i32.wrap y = y := IntWalk.i32_in _ (by omega)
            have HJ := Lib.hid (show Pl.J y by unfold Pl.J; omega)
            have HM0 := Lib.hid (fun w1 : World => rmay_any y w1 HJ.out)
            clear hjk hj1 hyl1 hyl2 hlt
            by_cases hm : Pl.May y
            · have HM1 := fun w1 : World => HM0.out w1
              rw [decide_eq_true hm] at HM1
              have HO1 := fun w1 : World => rone_any y w1 hm
              have hsl : ∀ w', (Instr.sliceAt 23 (.slice (some ⟨g, o, none⟩) n c) none (some (.int .i64 4)) none).run Tryd.prog w' = .ok (.slice (some ⟨g, o, none⟩) 4 c) w' := slice_to (some ⟨g, o, none⟩) n c 4 (by omega)
              have hup := HBR.out.upto hkn
              have y2 := fun (w' : World) (hk : Below wr.heap.size wr w') => (hup.then_ hk).conv
              have hst := str_beq (Pl.oct_uno hm) hup.oct
              obtain ⟨s1, hs1⟩ : ∃ s, s = strOfNums (ints (Pl.uno y)) := ⟨_, rfl⟩
              have HS1 := Lib.hid hs1
              obtain ⟨s2, hs2⟩ : ∃ s, s = strOfNums (ints (bs.take 4)) := ⟨_, rfl⟩
              rw [← hs2] at y2
              rw [← hs1, ← hs2] at hst
              obtain ⟨d, hd0⟩ : ∃ d, d = decide (Pl.uno y = bs.take 4) := ⟨_, rfl⟩
              rw [← hd0] at hst
              have HD := Lib.hid hd0
              have HALL := Lib.hid (And.intro HM1 (And.intro HO1 (And.intro hsl (And.intro y2 (And.intro hst hw)))))
              have HMAY := Lib.hid hm
              clear hs1 hs2 hd0 hup hm HM1 HO1 hsl y2 hst hw
              go_wp2_with fail
              obtain ⟨HM1, HO1, hsl, y2, hst, hw⟩ := HALL.out
              refine Rg.wp_region_inv (fun w' => Below wr.heap.size wr w') (Rg.Wd.at [.is (.int .i64 y), .is (.int .i32 y), .is (.bool true), .is (.bool true), .is (.int .i64 y), .is (.int .i32 y), .pred (Lies (Pl.uno y)) (lies_stb _), .is (.string s1), .is (.slice (some ⟨g, o, none⟩) n c), .is (.int .i64 4), .is (.slice (some ⟨g, o, none⟩) 4 c), .is (.string s2), .is (.bool d), .is (.bool d)]) (by kernel_rfl) (by kernel_rfl) (Rg.Wd.stays _ _) (below_drawn (Below.refl _ wr)) ⟨?_, ?_, ?_, ?_, ?_, ?_, ?_, ?_, ?_, ?_, ?_, ?_, ?_, ?_, trivial⟩ ?_
              · intro a w1 hS hb hd
                have e5 := hb 5 (Rg.nw (by decide))
                simp [Act.eval] at e5
                exact Rg.does_pure (Rg.wanted_none rfl) (by simp [execOp, e5, go_sem]) hS rfl
              · intro a w1 hS hb hd
                have e47 := hd ⟨0, .data⟩ (by simp) rfl _ _ rfl rfl
                have e47 : a.tmps[47]?.getD undef = (.int .i64 y) := Rg.slot e47
                exact Rg.does_pure (Rg.wanted_none rfl) (by simp [execOp, e47, hw, go_sem]) hS rfl
              · intro a w1 hS hb hd
                have e48 := hd ⟨1, .data⟩ (by simp) rfl _ _ rfl rfl
                have e48 : a.tmps[48]?.getD undef = (.int .i32 y) := Rg.slot e48
                refine Rg.does_call (f := 17) (args := #[.int .i32 y]) (Rg.wanted_none rfl) (by simp [e48, go_sem]) ?_
                exact (HM1 w1).mono fun e w' ⟨h1, h2⟩ => h2 ▸ ⟨_, h1, rfl, hS, Below.refl _ _⟩
              · intro a w1 hS hb hd
                have e49 := hd ⟨2, .data⟩ (by simp) rfl _ _ rfl rfl
                have e49 : a.tmps[49]?.getD undef = (.bool true) := Rg.slot e49
                exact Rg.does_pure (Rg.wanted_none rfl) (by simp [execOp, e49, go_sem]) hS rfl
              · intro a w1 hS hb hd
                have e5 := hb 5 (Rg.nw (by decide))
                simp [Act.eval] at e5
                have e50 := hd ⟨3, .guard⟩ (by simp) rfl _ _ rfl rfl
                exact Rg.does_pure (Rg.wanted_some rfl rfl rfl e50) (by simp [execOp, e5, go_sem]) hS rfl
              · intro a w1 hS hb hd
                have e51 := hd ⟨4, .data⟩ (by simp) rfl _ _ rfl rfl
                have e51 : a.tmps[51]?.getD undef = (.int .i64 y) := Rg.slot e51
                have e50 := hd ⟨3, .guard⟩ (by simp) rfl _ _ rfl rfl
                exact Rg.does_pure (Rg.wanted_some rfl rfl rfl e50) (by simp [execOp, e51, hw, go_sem]) hS rfl
              · intro a w1 hS hb hd
                have e52 := hd ⟨5, .data⟩ (by simp) rfl _ _ rfl rfl
                have e52 : a.tmps[52]?.getD undef = (.int .i32 y) := Rg.slot e52
                have e50 := hd ⟨3, .guard⟩ (by simp) rfl _ _ rfl rfl
                refine Rg.does_call (f := 23) (args := #[.int .i32 y]) (Rg.wanted_some rfl rfl rfl e50) (by simp [e52, go_sem]) ?_
                exact (HO1 w1).mono fun e w' ⟨g, cap, h1, h2, h3⟩ => ⟨_, h1, ⟨_, _, rfl, h2.bys⟩, below_then hS h3, h3⟩
              · intro a w1 hS hb hd
                have e53 := hd ⟨6, .data⟩ (by simp) rfl _ _ rfl rfl
                have e50 := hd ⟨3, .guard⟩ (by simp) rfl _ _ rfl rfl
                obtain ⟨Am, cm, em, hm⟩ := e53; have em := Rg.slot em; have ym := hm.conv; rw [← HS1.out] at ym; exact Rg.does_pure (Rg.wanted_some rfl rfl rfl e50) (by simp [execOp, em, ym, go_sem]) hS rfl
              · intro a w1 hS hb hd
                have e0 := hb 0 (Rg.nw (by decide))
                simp [Act.eval] at e0
                have e50 := hd ⟨3, .guard⟩ (by simp) rfl _ _ rfl rfl
                exact Rg.does_pure (Rg.wanted_some rfl rfl rfl e50) (by simp [execOp, e0, go_sem]) hS rfl
              · intro a w1 hS hb hd
                have e4 := hb 4 (Rg.nw (by decide))
                simp [Act.eval] at e4
                have e50 := hd ⟨3, .guard⟩ (by simp) rfl _ _ rfl rfl
                exact Rg.does_pure (Rg.wanted_some rfl rfl rfl e50) (by simp [execOp, e4, go_sem]) hS rfl
              · intro a w1 hS hb hd
                have e55 := hd ⟨8, .data⟩ (by simp) rfl _ _ rfl rfl
                have e55 : a.tmps[55]?.getD undef = (.slice (some ⟨g, o, none⟩) n c) := Rg.slot e55
                have e56 := hd ⟨9, .data⟩ (by simp) rfl _ _ rfl rfl
                have e56 : a.tmps[56]?.getD undef = (.int .i64 4) := Rg.slot e56
                have e50 := hd ⟨3, .guard⟩ (by simp) rfl _ _ rfl rfl
                exact Rg.does_pure (Rg.wanted_some rfl rfl rfl e50) (by simp [execOp, e55, e56, hsl, go_sem]) hS rfl
              · intro a w1 hS hb hd
                have e57 := hd ⟨10, .data⟩ (by simp) rfl _ _ rfl rfl
                have e57 : a.tmps[57]?.getD undef = (.slice (some ⟨g, o, none⟩) 4 c) := Rg.slot e57
                have e50 := hd ⟨3, .guard⟩ (by simp) rfl _ _ rfl rfl
                exact Rg.does_pure (Rg.wanted_some rfl rfl rfl e50) (by simp [execOp, e57, y2 w1 hS, go_sem]) hS rfl
              · intro a w1 hS hb hd
                have e54 := hd ⟨7, .data⟩ (by simp) rfl _ _ rfl rfl
                have e54 : a.tmps[54]?.getD undef = (.string s1) := Rg.slot e54
                have e58 := hd ⟨11, .data⟩ (by simp) rfl _ _ rfl rfl
                have e58 : a.tmps[58]?.getD undef = (.string s2) := Rg.slot e58
                have e50 := hd ⟨3, .guard⟩ (by simp) rfl _ _ rfl rfl
                exact Rg.does_pure (Rg.wanted_some rfl rfl rfl e50) (by simp [execOp, e54, e58, hst, go_sem]) hS rfl
              · intro a w1 hS hb hd
                have e50 := hd ⟨3, .data⟩ (by simp) rfl _ _ rfl rfl
                have e50 : a.tmps[50]?.getD undef = (.bool true) := Rg.slot e50
                have e59 := hd ⟨12, .data⟩ (by simp) rfl _ _ rfl rfl
                have e59 : a.tmps[59]?.getD undef = (.bool d) := Rg.slot e59
                exact Rg.does_pure (Rg.wanted_none rfl) (by simp [execOp, e50, e59, go_sem]) hS rfl
              intro v w6 hS6 hF
              have h13 : v 13 = .bool d := hF 13 _ _ rfl rfl
              have H8 : v 8 = .slice (some ⟨g, o, none⟩) n c := hF 8 _ _ rfl rfl
              simp only [Rg.putAll, h13]
              simp only [Act.put, List.setIfInBounds_toArray, List.set_cons_succ, List.set_cons_zero]
              have HB6 := Lib.hid (HBL.out.trans (hS6.mono HBL.out.size))
              clear HM1 HO1 hsl y2 hst hF h13 H8 HALL hS6
              cases d with
              | true =>
                have HF := Lib.hid (show Pl.fst bs = (y.toNat, 4) by
                  have h1 : Pl.Hit bs 4 := ⟨by rw [HV.out]; exact HMAY.out, by rw [HV.out]; exact of_decide_eq_true HD.out.symm⟩
                  rw [HHIT.out h1, HV.out])
                have HYN := Lib.hid (show ((y.toNat : Nat) : Int) = y by have := HMAY.out.le; omega)
                go_wp2_with fail
                go_ret2
                have := FstRet.mk HF.out HB6.out
                rw [HYN.out] at this
                exact this
              | false =>
                have HNO := Lib.hid (HXT.out (fun h => absurd HD.out.symm (by rw [decide_eq_true (by have := h.2; rwa [HV.out] at this)]; decide)))
                go_wp2_with fail
                go_roundw
                case rel => exact ⟨5, by go_num, by omega, by omega, HB6.out, HNO.out⟩
                case measure => simp [intOf]
            · have HM1 := fun w1 : World => HM0.out w1
              rw [decide_eq_false hm] at HM1
              have HNO := Lib.hid (HXT.out (fun h => hm (by have := h.1; rwa [HV.out] at this)))
              have HALL := Lib.hid (And.intro HM1 hw)
              clear hm HM1 hw
              go_wp2_with fail
              obtain ⟨HM1, hw⟩ := HALL.out
              refine Rg.wp_region_inv (fun w' => Below wr.heap.size wr w') (Rg.Wd.at [.is (.int .i64 y), .is (.int .i32 y), .is (.bool false), .is (.bool false), .any, .any, .any, .any, .any, .any, .any, .any, .any, .is (.bool false)]) (by kernel_rfl) (by kernel_rfl) (Rg.Wd.stays _ _) (below_drawn (Below.refl _ wr)) ⟨?_, ?_, ?_, ?_, ?_, ?_, ?_, ?_, ?_, ?_, ?_, ?_, ?_, ?_, trivial⟩ ?_
              · intro a w1 hS hb hd
                have e5 := hb 5 (Rg.nw (by decide))
                simp [Act.eval] at e5
                exact Rg.does_pure (Rg.wanted_none rfl) (by simp [execOp, e5, go_sem]) hS rfl
              · intro a w1 hS hb hd
                have e47 := hd ⟨0, .data⟩ (by simp) rfl _ _ rfl rfl
                have e47 : a.tmps[47]?.getD undef = (.int .i64 y) := Rg.slot e47
                exact Rg.does_pure (Rg.wanted_none rfl) (by simp [execOp, e47, hw, go_sem]) hS rfl
              · intro a w1 hS hb hd
                have e48 := hd ⟨1, .data⟩ (by simp) rfl _ _ rfl rfl
                have e48 : a.tmps[48]?.getD undef = (.int .i32 y) := Rg.slot e48
                refine Rg.does_call (f := 17) (args := #[.int .i32 y]) (Rg.wanted_none rfl) (by simp [e48, go_sem]) ?_
                exact (HM1 w1).mono fun e w' ⟨h1, h2⟩ => h2 ▸ ⟨_, h1, rfl, hS, Below.refl _ _⟩
              · intro a w1 hS hb hd
                have e49 := hd ⟨2, .data⟩ (by simp) rfl _ _ rfl rfl
                have e49 : a.tmps[49]?.getD undef = (.bool false) := Rg.slot e49
                exact Rg.does_pure (Rg.wanted_none rfl) (by simp [execOp, e49, go_sem]) hS rfl
              · intro a w1 hS hb hd
                have e50 := hd ⟨3, .guard⟩ (by simp) rfl _ _ rfl rfl
                exact Or.inr ⟨Rg.unwanted rfl rfl rfl e50, trivial⟩
              · intro a w1 hS hb hd
                have e50 := hd ⟨3, .guard⟩ (by simp) rfl _ _ rfl rfl
                exact Or.inr ⟨Rg.unwanted rfl rfl rfl e50, trivial⟩
              · intro a w1 hS hb hd
                have e50 := hd ⟨3, .guard⟩ (by simp) rfl _ _ rfl rfl
                exact Or.inr ⟨Rg.unwanted rfl rfl rfl e50, trivial⟩
              · intro a w1 hS hb hd
                have e50 := hd ⟨3, .guard⟩ (by simp) rfl _ _ rfl rfl
                exact Or.inr ⟨Rg.unwanted rfl rfl rfl e50, trivial⟩
              · intro a w1 hS hb hd
                have e50 := hd ⟨3, .guard⟩ (by simp) rfl _ _ rfl rfl
                exact Or.inr ⟨Rg.unwanted rfl rfl rfl e50, trivial⟩
              · intro a w1 hS hb hd
                have e50 := hd ⟨3, .guard⟩ (by simp) rfl _ _ rfl rfl
                exact Or.inr ⟨Rg.unwanted rfl rfl rfl e50, trivial⟩
              · intro a w1 hS hb hd
                have e50 := hd ⟨3, .guard⟩ (by simp) rfl _ _ rfl rfl
                exact Or.inr ⟨Rg.unwanted rfl rfl rfl e50, trivial⟩
              · intro a w1 hS hb hd
                have e50 := hd ⟨3, .guard⟩ (by simp) rfl _ _ rfl rfl
                exact Or.inr ⟨Rg.unwanted rfl rfl rfl e50, trivial⟩
              · intro a w1 hS hb hd
                have e50 := hd ⟨3, .guard⟩ (by simp) rfl _ _ rfl rfl
                exact Or.inr ⟨Rg.unwanted rfl rfl rfl e50, trivial⟩
              · intro a w1 hS hb hd
                have e50 := hd ⟨3, .data⟩ (by simp) rfl _ _ rfl rfl
                have e50 : a.tmps[50]?.getD undef = (.bool false) := Rg.slot e50
                exact Rg.does_pure (Rg.wanted_none rfl) (by simp [execOp, e50, go_sem]) hS rfl
              intro v w6 hS6 hF
              have h13 : v 13 = .bool false := hF 13 _ _ rfl rfl
              simp only [Rg.putAll, h13]
              simp only [Act.put, List.setIfInBounds_toArray, List.set_cons_succ, List.set_cons_zero]
              have HB6 := Lib.hid (HBL.out.trans (hS6.mono HBL.out.size))
              clear HM1 hF h13 HALL hS6 hw
              go_wp2_with fail
              go_roundw
              case rel => exact ⟨5, by go_num, by omega, by omega, HB6.out, HNO.out⟩
              case measure => simp [intOf]
    · have HF := Lib.hid (show Pl.fst bs = (0, 0) from Pl.hit_none fun m h1 h2 h3 => HNH.out m h1 (by have := HL.out; omega))
      by_cases hk : k ≤ 4
      · have hkn : n < k := by omega
        clear hlt
        go_wp2_with fail
        go_ret2
        exact FstRet.mk (c := 0) (n := 0) HF.out HBL.out
      · clear hlt
        go_wp2_with fail
        go_ret2
        exact FstRet.mk (c := 0) (n := 0) HF.out HBL.out

set_option maxRecDepth 100000 in
set_option maxHeartbeats 1000000 in
theorem rwhole_any (A : Option Addr) (n c : Nat) (bs : List Nat) (w : World) (hB : Bys w w.heap.size A n c bs) :
    Calls Tryd.prog 15 #[.slice A n c] w fun e w' => e = .returned (.int .i64 ((Pl.whole bs : Nat) : Int)) ∧ Below w.heap.size w w' := by
  have hle := hB.le
  have hcap := hB.cap
  unfold maxLen at hcap
  have HL := Lib.hid hB.len
  have HB := Lib.hid hB
  clear hB
  go_enter Tryd.func15, Tryd.ntmps15
  go_wp2_with fail
  go_loopw [3] (fun i wr => ∃ k : Nat, i = .int .i64 (k : Int) ∧ k ≤ n ∧ Below w.heap.size w wr ∧ Pl.whole bs = k + Pl.whole (bs.drop k)) (fun i _ => n - (intOf i).toNat)
  case atStart => exact ⟨0, rfl, Nat.zero_le _, Below.refl _ _, by simp⟩
  case round =>
    obtain ⟨k, rfl, hk, hb, hw⟩ := hrel
    have HBL := Lib.hid hb
    have HW := Lib.hid hw
    obtain ⟨A2, hB2, _, hcut⟩ := (HB.out.then_ hb).cut hk
    have HF := Lib.hid (rfirst_any A2 (n - k) (c - k) (bs.drop k) wr hB2)
    have hfl := (Pl.fst_le (bs.drop k)).1
    rw [List.length_drop, HL.out] at hfl
    have HST := Lib.hid (fun h => Pl.whole_stop (bs := bs.drop k) h)
    have HGO := Lib.hid (fun h => Pl.whole_go (bs := bs.drop k) h)
    clear hb hw hB2
    unfold FstRet at HF
    obtain ⟨m, hm⟩ : ∃ m, m = (Pl.fst (bs.drop k)).2 := ⟨_, rfl⟩
    obtain ⟨x, hx⟩ : ∃ x, x = (Pl.fst (bs.drop k)).1 := ⟨_, rfl⟩
    rw [← hm] at HF hfl HST HGO
    rw [← hx] at HF
    clear hm hx
    by_cases h0 : m = 0
    · subst h0
      have HS := Lib.hid (HST.out rfl)
      go_wp2_with fail
      refine HF.out.mono ?_
      rintro e w2 ⟨rfl, hb2⟩
      have HB2 := Lib.hid (HBL.out.trans (hb2.mono HBL.out.size))
      clear hb2 hcut
      go_wp2_with fail
      go_ret
      exact ⟨ret_int (by have := HW.out; have := HS.out; omega), HB2.out⟩
    · have HG := Lib.hid (HGO.out h0)
      have hm0 : ((m : Int) == 0) = false := by rw [beq_eq_false_iff_ne]; omega
      go_wp2_with fail
      refine HF.out.mono ?_
      rintro e w2 ⟨rfl, hb2⟩
      have HB2 := Lib.hid (HBL.out.trans (hb2.mono HBL.out.size))
      clear hb2 hcut
      go_wp2_with fail
      go_roundw
      case rel => exact ⟨k + m, by go_num, by omega, HB2.out, by have := HW.out; have := HG.out; rw [List.drop_drop] at this; omega⟩
      case measure => simp [intOf]; omega

/-- the document's Decode: k bytes are read, as cs -/
def DRel (w : World) (n : Nat) (bs : List Nat) (t i : Value) (wr : World) : Prop :=
  ∃ (k : Nat) (cs : List Int) (A : Option Addr) (m c : Nat), i = .int .i64 (k : Int) ∧ k ≤ n ∧ t = .slice A m c ∧ OwnC wr w.heap.size (.slice A m c) cs ∧ Below w.heap.size w wr ∧ Pl.dec bs = cs ++ Pl.dec (bs.drop k) ∧ Pl.whole (bs.drop k) = n - k

set_option maxRecDepth 100000 in
set_option maxHeartbeats 1000000 in
theorem rdec_any (A : Option Addr) (n c : Nat) (bs : List Nat) (w : World) (hB : Bys w w.heap.size A n c bs) (hr : n * 4 ≤ 140737488355328) :
    Calls Tryd.prog 12 #[.slice A n c] w (DecRet w bs) := by
  have hle := hB.le
  have hcap := hB.cap
  unfold maxLen at hcap
  have HL := Lib.hid hB.len
  have HB := Lib.hid hB
  have HR := Lib.hid hr
  have HWH := Lib.hid (rwhole_any A n c bs w hB)
  have hwl := Pl.whole_le bs
  rw [HL.out] at hwl
  have HBS := Lib.hid (show Pl.whole bs = n → Pl.whole bs = bs.length from fun h => h.trans HL.out.symm)
  have HBN := Lib.hid (show Pl.whole bs < n → Pl.whole bs ≠ bs.length from fun h e => by rw [e, HL.out] at h; omega)
  obtain ⟨k0, hk0⟩ : ∃ k, k = Pl.whole bs := ⟨_, rfl⟩
  have HK := Lib.hid hk0
  rw [← hk0] at hwl HBN HBS HWH
  clear hk0 hB hr
  go_enter Tryd.func12, Tryd.ntmps12
  go_wp2_with fail
  refine HWH.out.mono ?_
  rintro e w1 ⟨rfl, hb1⟩
  have HB1 := Lib.hid hb1
  clear hb1 HWH
  by_cases hlt : k0 < n
  · have HN := Lib.hid (HBN.out hlt)
    rw [HK.out] at HN
    go_wp2_with fail
    go_ret2
    exact decRet_no HN.out HB1.out
  · have hkn : k0 = n := by omega
    have HY := Lib.hid (HBS.out hkn)
    rw [HK.out] at HY
    have HKN := Lib.hid hkn
    clear hkn
    go_wp2_with fail
    go_loopw [4, 5] (fun t i wr => DRel w n bs t i wr) (fun _ i _ => n - (intOf i).toNat)
    case atStart => exact ⟨0, [], none, 0, 0, rfl, Nat.zero_le _, rfl, OwnC.nil_ _ _, HB1.out, by simp, by rw [List.drop_zero, HY.out, HL.out]; rfl⟩
    case round =>
      obtain ⟨k, cs, A3, m, c3, rfl, hk, rfl, hO, hb, hd, hw⟩ := hrel
      have HBL := Lib.hid hb
      have HD := Lib.hid hd
      have HW := Lib.hid hw
      have HO := Lib.hid hO
      have hml := hO.crs.1
      have hcl : cs.length ≤ k := by
        have h1 := congrArg List.length hd
        have h2 := Pl.dec_le bs
        have h3 := Pl.encs_dec (bs.drop k)
        have h4 := congrArg List.length (Pl.encs_dec bs)
        have h5 : (Pl.encs (Pl.dec bs)).length = n := by rw [h4, List.length_take, HY.out, HL.out, Nat.min_self]
        have h6 : (Pl.encs (Pl.dec (bs.drop k))).length = n - k := by rw [h3, List.length_take, hw, List.length_drop, HL.out, Nat.min_self]
        have h7 := congrArg (fun l => (Pl.encs l).length) hd
        simp only [Pl.encs_append, List.length_append] at h7
        have h8 : cs.length ≤ (Pl.encs cs).length := by
          clear hO HO hml h1 h7 hd HD
          induction cs with
          | nil => simp
          | cons x cs ih => rw [Pl.encs_cons, List.length_append, List.length_cons]; have := (Pl.len_uno x).1; omega
        omega
      clear hd hw hO
      by_cases hlt : k < n
      · obtain ⟨A2, hB2, _, hcut⟩ := (HB.out.then_ hb).cut hk
        have HF := Lib.hid (rfirst_any A2 (n - k) (c - k) (bs.drop k) wr hB2)
        have hfl := (Pl.fst_le (bs.drop k)).1
        rw [List.length_drop, HL.out] at hfl
        have hne : (Pl.fst (bs.drop k)).2 ≠ 0 := fun h => by have := Pl.whole_stop h; have := HW.out; omega
        have HGO := Lib.hid (Pl.whole_go hne)
        have HSN := Lib.hid (Pl.snoc_dec bs cs k HD.out hne)
        have hxl := Pl.fst_lt (bs.drop k)
        clear hb hB2
        unfold FstRet at HF
        obtain ⟨q, hq⟩ : ∃ q, q = (Pl.fst (bs.drop k)).2 := ⟨_, rfl⟩
        obtain ⟨x, hx⟩ : ∃ x, x = (Pl.fst (bs.drop k)).1 := ⟨_, rfl⟩
        rw [← hq] at HF hfl HGO HSN hne
        rw [← hx] at HF HSN hxl
        clear hq hx
        have HX := Lib.hid (show Pl.J (x : Int) by unfold Pl.J; omega)
        have HFIT := Lib.hid (show (m + 1) * 4 ≤ 140737488355328 by have := HR.out; omega)
        clear hml hcl hxl
        go_wp2_with fail
        refine HF.out.mono ?_
        rintro e w2 ⟨rfl, hb2⟩
        have HB2 := Lib.hid (HBL.out.trans (hb2.mono HBL.out.size))
        have HO2 := Lib.hid ((HO.out.below hb2 (fun g hg => (HO.out.lt g hg).2)).alloc (.cells #[.int .i32 (x : Int)] 24))
        have HS2 := Lib.hid (crs_lit w2 [(x : Int)] (fun y hy => by simp at hy; rw [hy]; exact HX.out) (by unfold maxLen; simp)).crs.2
        have HB3 := Lib.hid (HB2.out.trans (((Below.refl w2.heap.size w2).alloc (Nat.le_refl _) (.cells #[.int .i32 (x : Int)] 24)).mono HB2.out.size))
        clear hb2 hcut
        go_wp2_with (at_builtin; refine wpList_append_crs (w2.alloc (.cells #[.int .i32 (x : Int)] 24)) rfl (.tmp 24) (.tmp 26) rfl w.heap.size A3 m c3 cs (by rfl) HO2.out _ (some ⟨w2.heap.size, 0, none⟩) 1 1 [(x : Int)] (by rfl) HS2.out HFIT.out HB3.out.size ?_)
        intro A4 c4 w4 hO4 hg4 _
        have HB4 := Lib.hid (below_appendC HO2.out hg4 HB3.out HB3.out.size)
        have HO4 := Lib.hid hO4
        clear hO4 hg4
        go_wp2_with fail
        go_roundw
        case rel => exact ⟨k + q, cs ++ [(x : Int)], A4, m + 1, c4, by go_num, by omega, rfl, HO4.out, HB4.out, HSN.out, by have := HW.out; have := HGO.out; rw [List.drop_drop] at this; omega⟩
        case measure => simp [intOf]; omega
      · have hkn : k = n := by omega
        have HE := Lib.hid (show Pl.dec bs = cs by
          rw [HD.out, hkn, List.drop_of_length_le (by rw [HL.out]; exact Nat.le_refl _), Pl.dec_nil, List.append_nil])
        clear hkn hml hcl hb
        go_wp2_with fail
        go_ret2
        exact decRet_yes HY.out (by rw [HE.out]; exact HO.out) HBL.out
end Go.Proofs.YtillndchojaniaaDoor
