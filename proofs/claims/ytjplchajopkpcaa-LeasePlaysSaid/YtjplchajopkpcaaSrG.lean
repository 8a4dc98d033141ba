/-
  slices.partitionEqualOrdered at uint32. Conditions: rows of at most a million.
-/
import Derived.Test.YtjplchajopkpcaaSrF
import Derived.Deep.CutBlock
import Derived.Deep.DeepCutAuto
namespace Go.Proofs.Ytjplchajopkpcaa
open Go.RowKit Go.Sort

/-- between two rounds of the partition's loop -/
def PqO (w0 : World) (base g n c a b : Nat) (R : Nat × Array Int) (vi vj : Value) (w : World) : Prop := ∃ (i j : Nat) (dk : Array Int), vi = .int .i64 (i : Int) ∧ vj = .int .i64 (j : Int) ∧ a < i ∧ i ≤ j + 2 ∧ j < b ∧ Sr w0 base g n c dk w ∧ partEqLoop ltInt a i j dk = R
set_option maxRecDepth 100000 in
set_option maxHeartbeats 4000000 in
theorem partEqual_u {w0 w : World} {base g n c a b v : Nat} {d : Array Int} (h : Sr w0 base g n c d w) (hav : a ≤ v) (hvb : v < b) (hb : b ≤ n) (hn : n ≤ 1000000) :
    Calls Try.prog 47 #[.slice (some ⟨g, 0, none⟩) n c, .int .i64 (a : Int), .int .i64 (b : Int), .int .i64 (v : Int)] w fun e w' => e = .returned (.int .i64 ((partitionEqual ltInt d a b v).1 : Int)) ∧ Sr w0 base g n c (partitionEqual ltInt d a b v).2 w' := by
  have HS0 := Lib.hid h
  have HB := Lib.hid (show b ≤ n ∧ n ≤ 1000000 from ⟨hb, hn⟩)
  have HAN := Lib.hid (show a < n by omega)
  have HVN := Lib.hid (show v < n by omega)
  have ha9 : a < 1000000 := by omega
  obtain ⟨j0, rfl⟩ : ∃ q, b = q + 1 := ⟨b - 1, by omega⟩
  have hj9 : j0 < 1000000 := by omega
  obtain ⟨b, hbj⟩ : ∃ b, b = j0 + 1 := ⟨_, rfl⟩
  have HBJ := Lib.hid hbj
  rw [← hbj] at HB ⊢
  have HIJA := Lib.hid (show a < a + 1 ∧ a + 1 ≤ j0 + 2 ∧ j0 < b by omega)
  have EJ := Lib.hid (show wrap64 ((b : Int) - 1) = (j0 : Int) from wr4 (a := 1) (by omega) (by omega))
  clear h hav hvb hb hn hbj
  obtain ⟨P, hP⟩ : ∃ q, q = partitionEqual ltInt d a b v := ⟨_, rfl⟩
  rw [← hP]
  have HPQ := Lib.hid hP
  clear hP
  go_enter Try.func47, Try.ntmps47
  go_wp2_with fail
  have l1 : (a : Int) < (n : Int) := Int.ofNat_lt.2 HAN.out
  have l2 : (v : Int) < (n : Int) := Int.ofNat_lt.2 HVN.out
  have c1 := HS0.out.cell HAN.out
  have c2 := HS0.out.cell HVN.out
  have f1 := HS0.out.fro (j := a)
  have f2 := HS0.out.fro (j := v)
  obtain ⟨x, hx⟩ : ∃ x, x = d[a]! := ⟨_, rfl⟩
  obtain ⟨y, hy⟩ : ∃ y, y = d[v]! := ⟨_, rfl⟩
  have hs4 := (HS0.out.swap (i := a) (j := v) HAN.out HVN.out).drew
  rw [← hx] at c1 hs4
  rw [← hy] at c2 hs4
  obtain ⟨u, c3⟩ := HS0.out.cell2 (i := a) HVN.out (.int .u32 y)
  clear hx hy
  go_wp2_with fail
  go_region
  generalize ((w.setCell ⟨g, a, none⟩ (.int .u32 y)).setCell ⟨g, v, none⟩ (.int .u32 x)).drew = W1 at hs4 ⊢
  have HS1 := Lib.hid hs4
  clear hs4 c1 c2 c3 f1 f2 l1 l2
  obtain ⟨d1, hd1⟩ : ∃ q, q = swp d a v := ⟨_, rfl⟩
  rw [← hd1] at HS1
  have HD1 := Lib.hid hd1
  have HP := Lib.hid (show partEqLoop ltInt a (a + 1) j0 d1 = P by
    rw [HPQ.out]
    unfold partitionEqual
    rw [HBJ.out, hd1]; rfl)
  clear hd1
  go_upto_block 0 with fail
  rw [EJ.out]
  go_cut [9] (fun vi wx => vi = .int .i64 (P.1 : Int) ∧ Sr w0 base g n c P.2 wx)
  case first =>
    go_wp2_with fail
    go_loopw [9, 10] (fun vi vj wr => PqO w0 base g n c a b P vi vj wr) (fun vi vj _ => (intOf vj).toNat + 1 - (intOf vi).toNat)
    case atStart => exact ⟨a + 1, j0, d1, by first | rfl | go_num, rfl, HIJA.out.1, HIJA.out.2.1, HIJA.out.2.2, HS1.out, HP.out⟩
    case round =>
      obtain ⟨i, j, dk, rfl, rfl, h1, h2, h3, hs, he⟩ := hrel
      have HE := Lib.hid he
      have HSC := Lib.hid hs
      have HIJC := Lib.hid (show a < i ∧ i ≤ j + 2 ∧ j < b from ⟨h1, h2, h3⟩)
      clear he hs h1 h2 h3
      obtain ⟨RC, hRC⟩ : ∃ q : Nat, q = scanUp (fun x => !ltInt dk[a]! x) dk j i := ⟨_, rfl⟩
      have HRC := Lib.hid hRC
      clear hRC
      go_upto_block 2 with fail
      go_cut [9] (fun v wx => v = .int .i64 (RC : Int) ∧ a < RC ∧ RC ≤ j + 2 ∧ Sr w0 base g n c dk wx)
      case first =>
        as_aux_lemma =>
        go_wp2_with fail
        go_loopw [9] (fun v wr => ∃ k : Nat, v = .int .i64 (k : Int) ∧ a < k ∧ k ≤ j + 2 ∧ Sr w0 base g n c dk wr ∧ scanUp (fun x => !ltInt dk[a]! x) dk j k = RC) (fun v _ => j + 1 - (intOf v).toNat)
        case atStart => exact ⟨i, rfl, HIJC.out.1, HIJC.out.2.1, HSC.out, HRC.out.symm⟩
        case round =>
          obtain ⟨k, rfl, hk1, hk2, hs, he⟩ := hrel
          have HE := Lib.hid he
          have HS2 := Lib.hid hs
          clear he hs
          by_cases hlt : k ≤ j
          · have hn9 : k < n ∧ k < 1000000 ∧ 0 < k := by have := HB.out; have := HIJC.out; omega
            have HK := Lib.hid (show a < k + 1 ∧ k + 1 ≤ j + 2 ∧ j + 1 - (k + 1) < j + 1 - k ∧ k ≤ j + 2 ∧ a < k by have := HIJC.out; omega)
            have hk9 := hn9.2.1
            have hk0 := hn9.2.2
            have c1 := HS2.out.cell hn9.1
            have c2 := HS2.out.cell HAN.out
            have z1 : decide ((k : Int) ≤ (j : Int)) = true := decide_eq_true (by omega)
            have z2 : decide (k ≤ j) = true := decide_eq_true hlt
            have l1 : (k : Int) < (n : Int) := Int.ofNat_lt.2 hn9.1
            have l2 : (a : Int) < (n : Int) := Int.ofNat_lt.2 HAN.out
            obtain ⟨x, hx⟩ : ∃ x, x = dk[k]! := ⟨_, rfl⟩
            obtain ⟨y, hy⟩ : ∃ y, y = dk[a]! := ⟨_, rfl⟩
            rw [← hx] at c1
            rw [← hy] at c2
            have HXY := Lib.hid (And.intro hx hy)
            have HLT := Lib.hid hlt
            clear hx hy hlt hk1 hk2 hn9
            cases hl : ltInt y x with
            | false =>
              have HL := fun w => Lib.hid (less_u hl w)
              have HG := Lib.hid (show scanUp (fun x => !ltInt dk[a]! x) dk j (k + 1) = RC by rw [← HE.out, up_go HLT.out]; rw [← HXY.out.1, ← HXY.out.2, hl] <;> rfl)
              clear hl
              go_wp2_with fail
              go_quiet ((go_at_call 46; exact quiet_u (HL _).out))
              have hs3 := HS2.out.drewN nq
              generalize wr.drewN nq = W at hs3 ⊢
              have HS3 := Lib.hid hs3
              clear hs3 c1 c2 HL z1 z2
              go_wp2_with fail
              go_roundw
              case rel => exact ⟨k + 1, by go_num, HK.out.1, HK.out.2.1, HS3.out, HG.out⟩
              case measure => simp [intOf]; (have := HK.out; omega)
            | true =>
              have HL := fun w => Lib.hid (less_u hl w)
              have HG := Lib.hid (show k = RC by rw [← HE.out, up_stop (.inr (by rw [← HXY.out.1, ← HXY.out.2, hl] <;> rfl))])
              clear hl
              go_wp2_with fail
              go_quiet ((go_at_call 46; exact quiet_u (HL _).out))
              have hs3 := HS2.out.drewN nq
              generalize wr.drewN nq = W at hs3 ⊢
              have HS3 := Lib.hid hs3
              clear hs3 c1 c2 HL z1 z2
              go_wp2_with fail
              go_meet
              exact ⟨by rw [HG.out], by rw [← HG.out]; exact HK.out.2.2.2.2, by rw [← HG.out]; exact HK.out.2.2.2.1, HS3.out⟩
          · have z1 : decide ((k : Int) ≤ (j : Int)) = false := decide_eq_false (by omega)
            have z2 : decide (k ≤ j) = false := decide_eq_false hlt
            have HG := Lib.hid (show k = RC by rw [← HE.out, up_stop (.inl hlt)])
            have HBS := Lib.hid (show a < k ∧ k ≤ j + 2 by have := HIJC.out; omega)
            clear hlt hk1 hk2
            go_wp2_with fail
            go_quiet (fail)
            have hs3 := HS2.out.drewN nq
            generalize wr.drewN nq = W at hs3 ⊢
            have HS3 := Lib.hid hs3
            clear hs3 z1 z2
            go_wp2_with fail
            go_meet
            exact ⟨by rw [HG.out], by rw [← HG.out]; exact HBS.out.1, by rw [← HG.out]; exact HBS.out.2, HS3.out⟩
      case rest =>
        obtain ⟨rfl, hc1, hc2, hs⟩ := hcut
        have HSD := Lib.hid hs
        have HIJD := Lib.hid (show a < RC ∧ RC ≤ j + 2 ∧ j < b from ⟨hc1, hc2, HIJC.out.2.2⟩)
        clear hc1 hc2 hs
        obtain ⟨RD, hRD⟩ : ∃ q : Nat, q = scanDown (fun x => ltInt dk[a]! x) dk RC j := ⟨_, rfl⟩
        have HRD := Lib.hid hRD
        clear hRD
        go_upto_block 4 with fail
        go_cut [10] (fun v wx => v = .int .i64 (RD : Int) ∧ RD < b ∧ RC ≤ RD + 2 ∧ Sr w0 base g n c dk wx)
        case first =>
          as_aux_lemma =>
          go_wp2_with fail
          go_loopw [10] (fun v wr => ∃ k : Nat, v = .int .i64 (k : Int) ∧ k < b ∧ RC ≤ k + 2 ∧ Sr w0 base g n c dk wr ∧ scanDown (fun x => ltInt dk[a]! x) dk RC k = RD) (fun v _ => (intOf v).toNat)
          case atStart => exact ⟨j, rfl, HIJD.out.2.2, HIJD.out.2.1, HSD.out, HRD.out.symm⟩
          case round =>
            obtain ⟨k, rfl, hk1, hk2, hs, he⟩ := hrel
            have HE := Lib.hid he
            have HS2 := Lib.hid hs
            clear he hs
            by_cases hlt : RC ≤ k
            · have hn9 : k < n ∧ k < 1000000 ∧ 0 < k := by have := HB.out; have := HIJD.out; omega
              have HK := Lib.hid (show k - 1 < b ∧ RC ≤ k - 1 + 2 ∧ k - 1 < k ∧ k < b ∧ RC ≤ k + 2 by have := HIJD.out; omega)
              have hk9 := hn9.2.1
              have hk0 := hn9.2.2
              have c1 := HS2.out.cell hn9.1
              have c2 := HS2.out.cell HAN.out
              have z1 : decide ((RC : Int) ≤ (k : Int)) = true := decide_eq_true (by omega)
              have z2 : decide (RC ≤ k) = true := decide_eq_true hlt
              have l1 : (k : Int) < (n : Int) := Int.ofNat_lt.2 hn9.1
              have l2 : (a : Int) < (n : Int) := Int.ofNat_lt.2 HAN.out
              obtain ⟨x, hx⟩ : ∃ x, x = dk[k]! := ⟨_, rfl⟩
              obtain ⟨y, hy⟩ : ∃ y, y = dk[a]! := ⟨_, rfl⟩
              rw [← hx] at c1
              rw [← hy] at c2
              have HXY := Lib.hid (And.intro hx hy)
              have HLT := Lib.hid hlt
              clear hx hy hlt hk1 hk2 hn9
              cases hl : ltInt y x with
              | true =>
                have HL := fun w => Lib.hid (less_u hl w)
                have HG := Lib.hid (show scanDown (fun x => ltInt dk[a]! x) dk RC (k - 1) = RD by rw [← HE.out, down_go HLT.out hk0]; rw [← HXY.out.1, ← HXY.out.2, hl] <;> rfl)
                clear hl
                go_wp2_with fail
                go_quiet ((go_at_call 46; exact quiet_u (HL _).out))
                have hs3 := HS2.out.drewN nq
                generalize wr.drewN nq = W at hs3 ⊢
                have HS3 := Lib.hid hs3
                clear hs3 c1 c2 HL z1 z2
                go_wp2_with fail
                go_roundw
                case rel => exact ⟨k - 1, by go_num, HK.out.1, HK.out.2.1, HS3.out, HG.out⟩
                case measure => simp [intOf]; (have := HK.out; omega)
              | false =>
                have HL := fun w => Lib.hid (less_u hl w)
                have HG := Lib.hid (show k = RD by rw [← HE.out, down_stop (.inr (by rw [← HXY.out.1, ← HXY.out.2, hl] <;> rfl))])
                clear hl
                go_wp2_with fail
                go_quiet ((go_at_call 46; exact quiet_u (HL _).out))
                have hs3 := HS2.out.drewN nq
                generalize wr.drewN nq = W at hs3 ⊢
                have HS3 := Lib.hid hs3
                clear hs3 c1 c2 HL z1 z2
                go_wp2_with fail
                go_meet
                exact ⟨by rw [HG.out], by rw [← HG.out]; exact HK.out.2.2.2.1, by rw [← HG.out]; exact HK.out.2.2.2.2, HS3.out⟩
            · have z1 : decide ((RC : Int) ≤ (k : Int)) = false := decide_eq_false (by omega)
              have z2 : decide (RC ≤ k) = false := decide_eq_false hlt
              have HG := Lib.hid (show k = RD by rw [← HE.out, down_stop (.inl hlt)])
              have HBS := Lib.hid (show k < b ∧ RC ≤ k + 2 by have := HIJD.out; omega)
              clear hlt hk1 hk2
              go_wp2_with fail
              go_quiet (fail)
              have hs3 := HS2.out.drewN nq
              generalize wr.drewN nq = W at hs3 ⊢
              have HS3 := Lib.hid hs3
              clear hs3 z1 z2
              go_wp2_with fail
              go_meet
              exact ⟨by rw [HG.out], by rw [← HG.out]; exact HBS.out.1, by rw [← HG.out]; exact HBS.out.2, HS3.out⟩
        case rest =>
          obtain ⟨rfl, hc1, hc2, hs⟩ := hcut
          have HSE := Lib.hid hs
          have HIJE := Lib.hid (show RD < b ∧ RC ≤ RD + 2 ∧ a < RC from ⟨hc1, hc2, HIJD.out.1⟩)
          have HBN := Lib.hid (show RD < n ∧ RD < 1000000 by have := HB.out; omega)
          clear hc1 hc2 hs
          by_cases hgt : RD < RC
          · have z1 : decide ((RC : Int) > (RD : Int)) = true := decide_eq_true (by omega)
            have z2 : decide ((RD : Int) < (RC : Int)) = true := decide_eq_true (by omega)
            have z3 : decide (RD < RC) = true := decide_eq_true hgt
            have HQ := Lib.hid (show (RC, dk) = P by rw [← HE.out, partEqLoop_eq, ← HRC.out, ← HRD.out, if_pos hgt])
            clear hgt
            go_wp2_with fail
            go_meet
            rw [← HQ.out]
            exact ⟨rfl, HSE.out⟩
          · have z1 : decide ((RC : Int) > (RD : Int)) = false := decide_eq_false (by omega)
            have z2 : decide ((RD : Int) < (RC : Int)) = false := decide_eq_false (by omega)
            have z3 : decide (RD < RC) = false := decide_eq_false hgt
            have HQ := Lib.hid (show partEqLoop ltInt a (RC + 1) (RD - 1) (swp dk RC RD) = P by rw [← HE.out, partEqLoop_eq ltInt a i j, ← HRC.out, ← HRD.out, if_neg hgt])
            have HAN2 := Lib.hid (show RC < n by have := HBN.out; omega)
            have HM := Lib.hid (show a < RC + 1 ∧ RC + 1 ≤ RD - 1 + 2 ∧ RD - 1 < b ∧ RD - 1 + 1 - (RC + 1) < j + 1 - i by
              have := HIJE.out
              have e1 := scanUp_ge (fun x => !ltInt dk[a]! x) dk j i
              have e2 := scanDown_le (fun x => ltInt dk[a]! x) dk RC j
              rw [← HRC.out] at e1
              rw [← HRD.out] at e2
              omega)
            have rc9 : RC < 1000000 := by have := HBN.out; omega
            have rd9 := HBN.out.2
            have rd0 : 0 < RD := by have := HIJE.out; omega
            clear hgt
            have l1 : (RC : Int) < (n : Int) := Int.ofNat_lt.2 HAN2.out
            have l2 : (RD : Int) < (n : Int) := Int.ofNat_lt.2 HBN.out.1
            have c1 := HSE.out.cell HAN2.out
            have c2 := HSE.out.cell HBN.out.1
            have f1 := HSE.out.fro (j := RC)
            have f2 := HSE.out.fro (j := RD)
            obtain ⟨x, hx⟩ : ∃ x, x = dk[RC]! := ⟨_, rfl⟩
            obtain ⟨y, hy⟩ : ∃ y, y = dk[RD]! := ⟨_, rfl⟩
            have hs4 := (HSE.out.swap (i := RC) (j := RD) HAN2.out HBN.out.1).drew
            rw [← hx] at c1 hs4
            rw [← hy] at c2 hs4
            obtain ⟨u, c3⟩ := HSE.out.cell2 (i := RC) HBN.out.1 (.int .u32 y)
            clear hx hy
            go_wp2_with fail
            go_region
            generalize ((wc.setCell ⟨g, RC, none⟩ (.int .u32 y)).setCell ⟨g, RD, none⟩ (.int .u32 x)).drew = W8 at hs4 ⊢
            have HS8 := Lib.hid hs4
            clear hs4 c1 c2 c3 f1 f2 l1 l2
            clear z1 z2 z3
            go_wp2_with fail
            go_roundw
            case rel => exact ⟨RC + 1, RD - 1, swp dk RC RD, by go_num, by go_num, HM.out.1, HM.out.2.1, HM.out.2.2.1, HS8.out, HQ.out⟩
            case measure => simp [intOf]; (have := HM.out; omega)
  case rest =>
    obtain ⟨rfl, hs⟩ := hcut
    have HSF := Lib.hid hs
    clear hs
    go_wp2_with fail
    go_ret
    exact ⟨rfl, HSF.out⟩
end Go.Proofs.Ytjplchajopkpcaa
