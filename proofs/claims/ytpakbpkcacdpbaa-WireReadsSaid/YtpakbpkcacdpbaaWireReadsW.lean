/-
  The walk of copybooklaw03.WireReads: it returns true for every row of bytes and every list of asks, and turns nothing that was there.
-/
import Derived.Test.YtpakbpkcacdpbaaWireR
namespace Go.Proofs.Ytpakbpkcacdpbaa.wireReads
open Go.RowKit

theorem quiet_of {P : Program} {f : FuncId} {args : Array Value} {w : World} {n : Nat} {v : Value}
    (h : Calls P f args (w.drewN n) fun e w' => e = .returned v ∧ w.drewN n = w') : Calls P f args (w.drewN n) fun e w'' => e = .returned v ∧ ∃ m, w'' = w.drewN m :=
  h.mono fun _ _ ⟨he, hm⟩ => ⟨he, n, hm.symm⟩
theorem drewN_add (w : World) (n m : Nat) : (w.drewN n).drewN m = w.drewN (n + m) := by simp [World.drewN, Nat.add_assoc]
theorem quiet_left {P : Program} {f : FuncId} {args : Array Value} {w : World} {n : Nat} {v : Value}
    (h : Calls P f args (w.drewN n) fun e w' => e = .returned v ∧ ∃ m, w' = (w.drewN n).drewN m) : Calls P f args (w.drewN n) fun e w'' => e = .returned v ∧ ∃ m, w'' = w.drewN m :=
  h.mono fun _ _ ⟨he, m, hm⟩ => ⟨he, n + m, by rw [hm, drewN_add]⟩
theorem apart_q {w2 : World} {base q n c : Nat} {A6 : Option Addr} {x : List Nat} (hV : OwnV w2 base (.slice A6 n c) x) (hq : q < base) {k : Nat} : Apart (fun b => b = q) A6 k := fun _ ad e hx => by
  subst e
  obtain ⟨g, e2, _, hO⟩ := hV.some_ (by simp)
  cases e2
  have := hO.form.1
  simp at hx
  omega
/-- the bytes that the document's reader took -/
def P94 (p : Nat) (x : List Nat) (v : Value) (w : World) : Prop := ∃ A2 c2, v = .slice A2 x.length c2 ∧ Bys w w.heap.size A2 x.length c2 x ∧ Apart (Pt (some ⟨p, 0, none⟩)) A2 x.length
/-- how one operation of that region may turn memory -/
def StrR (p k : Nat) (w w' : World) : Prop := (k = 3 → Tn (Pt (some ⟨p, 0, none⟩)) w w') ∧ (k ≠ 3 → k ≠ 7 → w = w')
/-- what holds of memory in that region -/
def StrS (W : World) (t : Nat) (most : Int) (p q : Nat) (Fr Fq : Nat → Prop) (s : List Nat × Int) (L : Nat → Bool) (w' : World) : Prop :=
  w'.cell? ⟨t, 1, none⟩ = some (.int .i64 most) ∧ (L 3 = false → w' = W.drew) ∧ (L 3 = true → L 7 = false → RdTo W (some ⟨p, 0, none⟩) Fr s w') ∧ (L 7 = true → ∃ w2, RdTo W (some ⟨p, 0, none⟩) Fr s w2 ∧ QdTo w2 q Fq s w') ∧ (L 7 = true → L 3 = true)
theorem str_stays {l : List Rq.Wd} {p : Nat} {x : List Nat} (hl : ∀ i pq, l[i]? = some (Rq.Wd.pred pq) → i = 7 ∧ pq = P94 p x) : ∀ i pq, l[i]? = some (Rq.Wd.pred pq) → ∀ k v w w', i ≠ k → pq v w → StrR p k w w' → pq v w' := by
  intro i pq hi k v w w' hne hp hr
  obtain ⟨rfl, rfl⟩ := hl i pq hi
  by_cases h3 : k = 3
  · obtain ⟨A2, c2, e, hB, hA⟩ := hp
    exact ⟨A2, c2, e, (hr.1 h3).bys hB hA, hA⟩
  · rw [← hr.2 h3 (Ne.symm hne)]; exact hp
theorem re_len (r : List Nat) (e : Int) : (Pl.re_ r e).1.length ≤ r.length := by
  unfold Pl.re_; split <;> simp
theorem rf_len (r : List Nat) (e x : Int) : (Pl.rf r e x).1.length ≤ r.length := by
  unfold Pl.rf; split <;> simp

/-- ahead of the round j: both readers are alike -/
def Both (w : World) (p q : Nat) (Fr Fq : Nat → Prop) (r : List Nat) (e : Int) (wr : World) : Prop :=
  Rd wr (some ⟨p, 0, none⟩) Fr r e ∧ Qd wr q Fq r e ∧ r.length ≤ 1000 ∧ Below w.heap.size w wr
def Rel (w : World) (n p q : Nat) (Fr Fq : Nat → Prop) (i : Value) (wr : World) : Prop :=
  ∃ (j : Nat) (r : List Nat) (e : Int), i = .int .i64 (j : Int) ∧ j ≤ n ∧ j ≤ 60 ∧ Both w p q Fr Fq r e wr
/-- one call of each -/
theorem both_next {w W w2 w3 : World} {p q : Nat} {Fr Fq : Nat → Prop} {r : List Nat} {e : Int} {s : List Nat × Int} (hB : Both w p q Fr Fq r e W) (hdis : ∀ b, Fr b → ¬ Fq b) (hFr : ∀ b, Fr b → w.heap.size ≤ b) (hFq : ∀ b, Fq b → w.heap.size ≤ b)
    (h1 : RdTo W (some ⟨p, 0, none⟩) Fr s w2) (h2 : Qd w2 q Fq r e → QdTo w2 q Fq s w3) (hl : s.1.length ≤ r.length) : Both w p q Fr Fq s.1 s.2 w3 := by
  obtain ⟨hR, hQ, hln, hb⟩ := hB
  have hQ2 := hQ.keep h1.2 (fun b h3 h4 => hdis b (hR.pt b h4) h3)
  have h3 := h2 hQ2
  have hb2 := h1.2.below hb hb.size (fun b hb => hFr b (hR.pt b hb))
  exact ⟨h1.1.keep h3.2 (fun b h4 h5 => hdis b h4 (by rw [h5]; exact hQ2.2.2.1)), h3.1, by omega, h3.2.below hb2 hb2.size (fun b hb => hFq b (by rw [hb]; exact hQ2.2.2.1))⟩
theorem both_q {w W w2 : World} {p q : Nat} {Fr Fq : Nat → Prop} {r : List Nat} {e : Int} {s : List Nat × Int} (hB : Both w p q Fr Fq r e W) (hdis : ∀ b, Fr b → ¬ Fq b) (h1 : RdTo W (some ⟨p, 0, none⟩) Fr s w2) : Qd w2 q Fq r e :=
  hB.2.1.keep h1.2 (fun b h3 h4 => hdis b (hB.1.pt b h4) h3)

set_option maxRecDepth 100000 in
set_option maxHeartbeats 8000000 in
theorem walk (w : World) (A : Option Addr) (nb cb : Nat) (bs : List Nat) (hB : Bys w w.heap.size A nb cb bs) (_ : nb ≤ 140737488351232) (L : Option Addr) (n cl : Nat) (ls : List Ask3) (hL : Asks w w.heap.size L n cl ls) :
    Calls Try.prog 4 #[.slice A nb cb, .slice L n cl] w fun e w' => e = .returned (.bool true) ∧ Below w.heap.size w w' := by
  have hn := hL.2.1
  have hcl := hL.2.2.1
  unfold maxLen at hcl
  obtain ⟨M, hM1, hM2, _, hmin0⟩ := min_run nb 1000
  have hmin : ∀ (w' : World) (ts : Array TypeId) (t : TypeId), (Builtin.min_ ts t #[.int .i64 (nb : Int), .int .i64 1000]).run Try.prog w' = .ok (.int .i64 (M : Int)) w' := hmin0
  clear hmin0
  have hsl := slice_to A nb cb M (by have := hB.le; omega)
  obtain ⟨D, hDd⟩ : ∃ D, D = bs.take M := ⟨_, rfl⟩
  have hBD : Bys w w.heap.size A M cb D := by rw [hDd]; exact hB.upto hM1
  have hDl := hBD.len
  have HDL := Lib.hid hDl
  have HO := Lib.hid (refOwn_any A M cb D w hBD (by omega))
  have HBD := Lib.hid hBD
  have HL := Lib.hid hL
  clear hB hBD hL hDd hDl
  go_enter Try.func4, Try.ntmps4
  go_wp2_with fail
  refine HO.out.mono ?_
  rintro e w1 ⟨Ao, co, rfl, hVo, hb1⟩
  rw [HDL.out] at hVo ⊢
  have z1 := hb1.size
  have HN := Lib.hid (new_any Ao M co D w1 hVo.bys.2 (by omega))
  have HVo := Lib.hid hVo
  clear hVo
  go_wp2_with fail
  refine HN.out.mono ?_
  rintro e w2 ⟨p, Fr, rfl, hR2, hb2, hF2⟩
  have z2 := hb2.size
  have hb2' : Below w.heap.size w w2 := hb1.trans (hb2.mono z1)
  have HO2 := Lib.hid (refOwn_any A M cb D w2 ((HBD.out.below hb2' (Nat.le_refl _)).more (by omega)) (by omega))
  go_wp2_with fail
  refine HO2.out.mono ?_
  rintro e w3 ⟨Aq, cq, rfl, hVq, hb3⟩
  rw [HDL.out] at hVq ⊢
  have z3 := hb3.size
  obtain ⟨w4, hw4⟩ : ∃ w4, w4 = w3.alloc (.cells #[.slice Aq M cq, .int .i64 0] 48) := ⟨_, rfl⟩
  have hb4 : Below w3.heap.size w3 w4 := by rw [hw4]; exact (Below.refl _ _).alloc (Nat.le_refl _) _
  have hq4 : w4.heap[w3.heap.size]? = some (.cells #[.slice Aq M cq, .int .i64 0] 48 (0, 0)) := by rw [hw4, heap_alloc_new]
  have z4 := lt_of_block hq4
  obtain ⟨Fq, hFqd⟩ : ∃ Fq : Nat → Prop, Fq = fun b => w2.heap.size ≤ b ∧ b ≤ w3.heap.size := ⟨_, rfl⟩
  have hFq : ∀ b, Fq b ↔ (w2.heap.size ≤ b ∧ b ≤ w3.heap.size) := fun b => by rw [hFqd]
  have hBq := (hVq.bys.2.below hb4 (Nat.le_refl _)).more hb4.size
  have hQ4 : Qd w4 w3.heap.size Fq D 0 := ⟨fun b hb => by have := (hFq b).1 hb; omega, Pl.I.mk (by omega), (hFq _).2 ⟨by omega, by omega⟩, Aq, M, cq, hq4, (fun h => absurd rfl h), fun _ => ⟨hBq, fun ad ha => by
    subst ha
    obtain ⟨g, e2, _, hO⟩ := hVq.some_ (by simp)
    cases e2
    have := hO.form
    exact ⟨(hFq _).2 ⟨this.1, by simp; omega⟩, by simp; omega⟩⟩⟩
  have hb24 : Below w2.heap.size w2 w4 := hb3.trans (hb4.mono z3)
  have hR4 := hR2.below hb24
  have hb4' : Below w.heap.size w w4 := hb2'.trans (hb24.mono (by omega))
  have hVo4 : OwnV w4 w.heap.size (.slice Ao M co) D := HVo.out.below ((hb2.mono (Nat.le_refl _)).trans (hb24.mono z2)) (fun g hg => (HVo.out.lt g hg).2)
  have hdis : ∀ b, Fr b → ¬ Fq b := fun b h1 h2 => by have a1 := hR2.lt b h1; have a2 := (hFq b).1 h2; omega
  have hFr' : ∀ b, Fr b → w.heap.size ≤ b := fun b h => by have := hF2 b h; omega
  have hFq' : ∀ b, Fq b → w.heap.size ≤ b := fun b h => by have := (hFq b).1 h; omega
  have hog : ∀ g, Value.ownBlock (.slice Ao M co) = some g → w.heap.size ≤ g ∧ ¬ Fr g ∧ ¬ Fq g := fun g hg => by
    have a0 := HVo.out.lt g hg
    exact ⟨a0.1, fun h => by have := hF2 g h; omega, fun h => by have := (hFq g).1 h; omega⟩
  have H4 := Lib.hid (And.intro hR4 (And.intro hQ4 (And.intro hb4' (And.intro hVo4 hog))))
  have HS := Lib.hid (And.intro hdis (And.intro hFr' hFq'))
  obtain ⟨q, hqd⟩ : ∃ q, q = w3.heap.size := ⟨_, rfl⟩
  have HW4 := Lib.hid hw4
  clear hR2 hb2 hF2 hb2' hVq hb3 hb4 hq4 hFqd hFq hBq hQ4 hb24 hR4 hb4' hVo4 hdis hFr' hFq' hog hb1 HO HO2 HN HVo hmin hsl z4 hw4
  go_wp2_with fail
  rw [← HW4.out, ← hqd]
  rw [← hqd] at H4
  clear hqd HW4
  go_loopw [29] (fun t wr => XRel w4 w.heap.size Ao M co t wr) (fun t _ => M - (intOf t).toNat)
  case atStart => exact XRel.start H4.out.2.2.2.1
  case round =>
    obtain ⟨k, Z, rfl, hk, hZ, hVZ, hTZ⟩ := hrel
    by_cases hkx : k < M
    · obtain ⟨gz, rfl, _, hOZ⟩ := hVZ.pos_ (by omega)
      have hck := hOZ.1.cellAt k (by omega)
      rw [cells_at Z k (by omega)] at hck
      have hfk := hOZ.1.frozenAt k
      have hy256 := Pl.oct_getD hOZ.oct k
      obtain ⟨y, hy⟩ : ∃ y, y = Z.getD k 0 := ⟨_, rfl⟩
      rw [← hy] at hck hy256
      have hxor : bits BinOp.xor IntKind.u8 (y : Int) 255 = ((y ^^^ 255 : Nat) : Int) := u8_xor_nat y 255 hy256 (by omega)
      have hx256 : y ^^^ 255 < 256 := Nat.xor_lt_two_pow (n := 8) hy256 (by omega)
      obtain ⟨z, hz⟩ : ∃ z, z = y ^^^ 255 := ⟨_, rfl⟩
      rw [← hz] at hxor hx256
      have HXS := Lib.hid (XRel.next (k := k) (z := z) hZ hOZ hTZ hx256)
      have HZ := Lib.hid hZ
      clear hOZ hTZ hVZ hZ hy hz
      go_wp2_with fail
      go_roundw
      case rel => exact ⟨k + 1, Z.set k z, by go_num, by omega, by rw [List.length_set]; exact HZ.out, HXS.out.1, HXS.out.2⟩
      case measure => simp [intOf]; omega
    · obtain ⟨hR4, hQ4, hb4', _, hog⟩ := H4.out
      have H5 := Lib.hid (show Both w p q Fr Fq D 0 wr from ⟨hR4.keep hTZ (fun b h1 h2 => (hog b h2).2.1 h1), hQ4.keep hTZ (fun b h1 h2 => (hog b h2).2.2 h1), by rw [HDL.out]; omega, hTZ.below hb4' hb4'.size (fun b hb => (hog b hb).1)⟩)
      obtain ⟨w5, rfl⟩ : ∃ w5 : World, w5 = wr := ⟨_, rfl⟩
      clear hR4 hQ4 hb4' hog hVZ hTZ hZ H4
      go_wp2_with fail
      go_loopw [41] (fun i wr => Rel w n p q Fr Fq i wr) (fun i _ => n - (intOf i).toNat)
      case atStart => exact ⟨0, D, 0, rfl, by omega, by omega, H5.out⟩
      case round =>
        obtain ⟨j, r, e, rfl, hj, h60, hBo⟩ := hrel
        have hb := hBo.2.2.2
        have z := hb.size
        by_cases hlt : j < n ∧ j < 60
        · obtain ⟨hlt, hlt6⟩ := hlt
          obtain ⟨g, o, rfl, hg, x0, hI0, x1, hI1, x2, hU2⟩ := (HL.out.below hb (Nat.le_refl _)).2.2.2 j hlt
          obtain ⟨⟨what, most, N⟩, ht⟩ : ∃ t, t = ls.getD j default := ⟨_, rfl⟩
          rw [← ht] at x0 hI0 x1 hI1 x2 hU2
          simp only at x0 hI0 x1 hI1 x2 hU2
          clear ht
          have b60 : ((j : Int) == 60) = false := by rw [beq_eq_false_iff_ne]; omega
          obtain ⟨W, hW⟩ : ∃ W, W = wr.alloc (.cells #[.int .i64 what, .int .i64 most, .int .u64 (N : Int)] 50) := ⟨_, rfl⟩
          have hbW : Below wr.heap.size wr W := by rw [hW]; exact (Below.refl _ _).alloc (Nat.le_refl _) _
          have haW : W.heap[wr.heap.size]? = some (.cells #[.int .i64 what, .int .i64 most, .int .u64 (N : Int)] 50 (0, 0)) := by rw [hW, heap_alloc_new]
          have hBW : Both w p q Fr Fq r e W := ⟨hBo.1.below hbW, hBo.2.1.below hbW, hBo.2.2.1, hb.trans (hbW.mono z)⟩
          have hnr : ¬ Fr wr.heap.size := fun h => by have := hBo.1.lt _ h; omega
          have hnq : wr.heap.size ≠ q := fun h => by have := hBo.2.1.lt q hBo.2.1.2.2.1; omega
          have hpF := hBo.1.pt
          have a0 := cell0 haW
          have a1 := cell1 haW
          have a2 : W.cell? ⟨wr.heap.size, 2, none⟩ = some (.int .u64 (N : Int)) := cell2 haW
          have hzW := lt_of_block haW
          have HK1 := Lib.hid (fun w' (i : Nat) (v : Value) (h : Tn (Pt (some ⟨p, 0, none⟩)) W w') (hv : W.cell? ⟨wr.heap.size, i, none⟩ = some v) => (h.cell (p := ⟨wr.heap.size, i, none⟩) hzW (fun hp => hnr (hpF _ hp))).trans hv)
          have HBW := Lib.hid hBW
          have HW := Lib.hid hW
          have hll := hBo.2.2.1
          have hI : Pl.I e := hBo.1.2.1
          have HHI := Lib.hid hI
          clear hBo hb hbW haW hBW hnr hpF hW hI
          obtain ⟨hdis, hFr', hFq'⟩ := HS.out
          have HDS := Lib.hid (And.intro hdis (And.intro hFr' hFq'))
          clear hdis hFr' hFq'
          by_cases k0 : what = 0
          · subst k0
            obtain ⟨x, r1, e1, hx⟩ : ∃ x r1 e1, Pl.rn r e = (x, r1, e1) := ⟨_, _, _, rfl⟩
            have hlen := Pl.rn_len r e
            have HC := Lib.hid (rnum_any _ Fr r e W HBW.out.1)
            have HD2 := Lib.hid (fun w' (h : Qd w' q Fq r e) => qnum_any q Fq r e w' h)
            rw [hx] at HC HD2 hlen
            simp only at hlen
            have HLN := Lib.hid hlen
            clear hx hlen
            go_wp2_with fail
            rw [← HW.out]
            refine HC.out.mono ?_
            rintro en w2 ⟨rfl, h1⟩
            have HQ2 := Lib.hid (HD2.out w2 (both_q HBW.out HDS.out.1 h1))
            go_wp2_with fail
            refine HQ2.out.mono ?_
            rintro en w3 ⟨rfl, hq3⟩
            have HV := Lib.hid (both_next HBW.out HDS.out.1 HDS.out.2.1 HDS.out.2.2 (s := (r1, e1)) h1 (fun _ => hq3) HLN.out)
            obtain ⟨V, hV⟩ : ∃ V, V = w3 := ⟨_, rfl⟩
            rw [← hV] at HV
            rw [← hV]
            clear hV h1 hq3 HC HD2 HLN HW a0 a1 a2 x0 x1 x2 HK1 HBW HQ2
            have HTL := Lib.hid (fun n => err_any _ Fr r1 e1 (V.drewN n) (show Rd (V.drewN n) _ Fr r1 e1 from HV.out.1))
            have HTF := Lib.hid (fun n => left_any _ Fr r1 e1 (V.drewN n) (show Rd (V.drewN n) _ Fr r1 e1 from HV.out.1))
            have HTQ := Lib.hid (fun n => qleft_any q Fq r1 e1 (V.drewN n) (show Qd (V.drewN n) q Fq r1 e1 from HV.out.2.1))
            have cE := HV.out.2.1.c1
            go_wp2_with fail
            go_quiet (first | (go_at_call 39; exact quiet_of (HTL.out _)) | (go_at_call 40; exact quiet_left (HTF.out _)) | (go_at_call 41; exact quiet_of (HTQ.out _)))
            go_wp2_with fail
            go_roundw
            case rel =>
              obtain ⟨t1, t2, t3, t4⟩ := HV.out
              exact ⟨j + 1, r1, e1, by go_num, by omega, by omega, t1, t2, t3, ⟨t4.os, t4.tape, t4.output, t4.size, t4.block⟩⟩
            case measure => simp [intOf]; omega
          by_cases k1 : what = 1
          · subst k1
            obtain ⟨x, r1, e1, hx⟩ : ∃ x r1 e1, Pl.rn r e = (x, r1, e1) := ⟨_, _, _, rfl⟩
            have hlen := Pl.rn_len r e
            have HC := Lib.hid (rint_any _ Fr r e W HBW.out.1)
            have HD2 := Lib.hid (fun w' (h : Qd w' q Fq r e) => qnum_any q Fq r e w' h)
            have hux := Pl.rn_U r e
            rw [hx] at HC HD2 hlen hux
            simp only at hux
            simp only at hlen
            have HLN := Lib.hid hlen
            clear hx hlen
            go_wp2_with fail
            rw [← HW.out]
            refine HC.out.mono ?_
            rintro en w2 ⟨rfl, h1⟩
            have HQ2 := Lib.hid (HD2.out w2 (both_q HBW.out HDS.out.1 h1))
            go_wp2_with fail
            refine HQ2.out.mono ?_
            rintro en w3 ⟨rfl, hq3⟩
            go_wp2_with fail
            refine (refUnfold_any x w3 hux).mono ?_
            rintro en w' ⟨rfl, rfl⟩
            have HV := Lib.hid (both_next HBW.out HDS.out.1 HDS.out.2.1 HDS.out.2.2 (s := (r1, e1)) h1 (fun _ => hq3) HLN.out)
            obtain ⟨V, hV⟩ : ∃ V, V = w3 := ⟨_, rfl⟩
            rw [← hV] at HV
            rw [← hV]
            clear hV h1 hq3 HC HD2 HLN HW a0 a1 a2 x0 x1 x2 HK1 HBW HQ2
            have HTL := Lib.hid (fun n => err_any _ Fr r1 e1 (V.drewN n) (show Rd (V.drewN n) _ Fr r1 e1 from HV.out.1))
            have HTF := Lib.hid (fun n => left_any _ Fr r1 e1 (V.drewN n) (show Rd (V.drewN n) _ Fr r1 e1 from HV.out.1))
            have HTQ := Lib.hid (fun n => qleft_any q Fq r1 e1 (V.drewN n) (show Qd (V.drewN n) q Fq r1 e1 from HV.out.2.1))
            have cE := HV.out.2.1.c1
            go_wp2_with fail
            go_quiet (first | (go_at_call 39; exact quiet_of (HTL.out _)) | (go_at_call 40; exact quiet_left (HTF.out _)) | (go_at_call 41; exact quiet_of (HTQ.out _)))
            go_wp2_with fail
            go_roundw
            case rel =>
              obtain ⟨t1, t2, t3, t4⟩ := HV.out
              exact ⟨j + 1, r1, e1, by go_num, by omega, by omega, t1, t2, t3, ⟨t4.os, t4.tape, t4.output, t4.size, t4.block⟩⟩
            case measure => simp [intOf]; omega
          by_cases k2 : what = 2
          · subst k2
            obtain ⟨x, r1, e1, hx⟩ : ∃ x r1 e1, Pl.rb r e 1 5 = (x, r1, e1) := ⟨_, _, _, rfl⟩
            have hlen := Pl.rb_len r e 1 5
            have HC := Lib.hid (bool_any _ Fr r e W HBW.out.1)
            have HD2 := Lib.hid (fun w' (h : Qd w' q Fq r e) => qbool_any q Fq r e w' h)
            rw [hx] at HC HD2 hlen
            simp only at hlen
            have HLN := Lib.hid hlen
            clear hx hlen
            go_wp2_with fail
            rw [← HW.out]
            refine HC.out.mono ?_
            rintro en w2 ⟨rfl, h1⟩
            have HQ2 := Lib.hid (HD2.out w2 (both_q HBW.out HDS.out.1 h1))
            go_wp2_with fail
            refine HQ2.out.mono ?_
            rintro en w3 ⟨rfl, hq3⟩
            have HV := Lib.hid (both_next HBW.out HDS.out.1 HDS.out.2.1 HDS.out.2.2 (s := (r1, e1)) h1 (fun _ => hq3) HLN.out)
            obtain ⟨V, hV⟩ : ∃ V, V = w3 := ⟨_, rfl⟩
            rw [← hV] at HV
            rw [← hV]
            clear hV h1 hq3 HC HD2 HLN HW a0 a1 a2 x0 x1 x2 HK1 HBW HQ2
            have HTL := Lib.hid (fun n => err_any _ Fr r1 e1 (V.drewN n) (show Rd (V.drewN n) _ Fr r1 e1 from HV.out.1))
            have HTF := Lib.hid (fun n => left_any _ Fr r1 e1 (V.drewN n) (show Rd (V.drewN n) _ Fr r1 e1 from HV.out.1))
            have HTQ := Lib.hid (fun n => qleft_any q Fq r1 e1 (V.drewN n) (show Qd (V.drewN n) q Fq r1 e1 from HV.out.2.1))
            have cE := HV.out.2.1.c1
            go_wp2_with fail
            go_quiet (first | (go_at_call 39; exact quiet_of (HTL.out _)) | (go_at_call 40; exact quiet_left (HTF.out _)) | (go_at_call 41; exact quiet_of (HTQ.out _)))
            go_wp2_with fail
            go_roundw
            case rel =>
              obtain ⟨t1, t2, t3, t4⟩ := HV.out
              exact ⟨j + 1, r1, e1, by go_num, by omega, by omega, t1, t2, t3, ⟨t4.os, t4.tape, t4.output, t4.size, t4.block⟩⟩
            case measure => simp [intOf]; omega
          by_cases k5 : what = 5
          · subst k5
            obtain ⟨x, r1, e1, hx⟩ : ∃ x r1 e1, Pl.rb r e most.toNat 3 = (x, r1, e1) := ⟨_, _, _, rfl⟩
            have hlen := Pl.rb_len r e most.toNat 3
            have HC := Lib.hid (fun w' (h : Rd w' (some ⟨p, 0, none⟩) Fr r e) => count_any _ Fr r e most w' h hI1)
            have HD2 := Lib.hid (fun w' (h : Qd w' q Fq r e) => qcount_any q Fq r e most w' h hI1)
            rw [hx] at HC HD2 hlen
            simp only at hlen
            have HLN := Lib.hid hlen
            clear hx hlen
            go_wp2_with fail
            rw [← HW.out]
            go_region_held3 (fun w' => w'.cell? ⟨wr.heap.size, 1, none⟩ = some (.int .i64 most)) (first | exact a1 | exact s2 | exact s3)
              (first
                | (go_at_call 31; refine (HC.out W.drew (show Rd W.drew _ Fr r e from HBW.out.1)).mono ?_; rintro en w2 ⟨rfl, hR2, hT2⟩; have h1 : RdTo W _ Fr (r1, e1) w2 := ⟨hR2, hT2.drawn⟩; have s2 := HK1.out w2 1 _ h1.2 a1; have HQ2 := Lib.hid (HD2.out w2 (both_q HBW.out HDS.out.1 h1)))
                | (go_at_call 32; refine HQ2.out.mono ?_; rintro en w3 ⟨rfl, hq3⟩; have s3 := (hq3.2.cell (p := ⟨wr.heap.size, 1, none⟩) (Nat.lt_of_lt_of_le hzW (show W.heap.size ≤ w2.heap.size from h1.2.size)) hnq).trans s2))
            all_goals
              have HV := Lib.hid (both_next HBW.out HDS.out.1 HDS.out.2.1 HDS.out.2.2 (s := (r1, e1)) h1 (fun _ => hq3) HLN.out)
              obtain ⟨V, hV⟩ : ∃ V, V = w3 := ⟨_, rfl⟩
              rw [← hV] at HV
              rw [← hV]
              clear hV h1 hq3 HC HD2 HLN HW a0 a1 a2 x0 x1 x2 HK1 HBW HQ2 s2 s3 hR2 hT2
              have HTL := Lib.hid (fun n => err_any _ Fr r1 e1 (V.drewN n) (show Rd (V.drewN n) _ Fr r1 e1 from HV.out.1))
              have HTF := Lib.hid (fun n => left_any _ Fr r1 e1 (V.drewN n) (show Rd (V.drewN n) _ Fr r1 e1 from HV.out.1))
              have HTQ := Lib.hid (fun n => qleft_any q Fq r1 e1 (V.drewN n) (show Qd (V.drewN n) q Fq r1 e1 from HV.out.2.1))
              have cE := HV.out.2.1.c1
              go_wp2_with fail
              go_quiet (first | (go_at_call 39; exact quiet_of (HTL.out _)) | (go_at_call 40; exact quiet_left (HTF.out _)) | (go_at_call 41; exact quiet_of (HTQ.out _)))
              go_wp2_with fail
              go_roundw
              case rel =>
                obtain ⟨t1, t2, t3, t4⟩ := HV.out
                exact ⟨j + 1, r1, e1, by go_num, by omega, by omega, t1, t2, t3, ⟨t4.os, t4.tape, t4.output, t4.size, t4.block⟩⟩
              case measure => simp [intOf]; omega
          by_cases k6 : what = 6
          · subst k6
            obtain ⟨x, r1, e1, hx⟩ : ∃ x r1 e1, Pl.rb r e N 3 = (x, r1, e1) := ⟨_, _, _, rfl⟩
            have hlen := Pl.rb_len r e N 3
            have HC := Lib.hid (fun w' (h : Rd w' (some ⟨p, 0, none⟩) Fr r e) => upto_any _ Fr r e N w' h)
            have HD2 := Lib.hid (fun w' (h : Qd w' q Fq r e) => qupto_any q Fq r e N w' h)
            rw [hx] at HC HD2 hlen
            simp only at hlen
            have HLN := Lib.hid hlen
            clear hx hlen
            go_wp2_with fail
            rw [← HW.out]
            go_region_held3 (fun w' => w'.cell? ⟨wr.heap.size, 2, none⟩ = some (.int .u64 (N : Int))) (first | exact a2 | exact s2 | exact s3)
              (first
                | (go_at_call 33; refine (HC.out W.drew (show Rd W.drew _ Fr r e from HBW.out.1)).mono ?_; rintro en w2 ⟨rfl, hR2, hT2⟩; have h1 : RdTo W _ Fr (r1, e1) w2 := ⟨hR2, hT2.drawn⟩; have s2 := HK1.out w2 2 _ h1.2 a2; have HQ2 := Lib.hid (HD2.out w2 (both_q HBW.out HDS.out.1 h1)))
                | (go_at_call 34; refine HQ2.out.mono ?_; rintro en w3 ⟨rfl, hq3⟩; have s3 := (hq3.2.cell (p := ⟨wr.heap.size, 2, none⟩) (Nat.lt_of_lt_of_le hzW (show W.heap.size ≤ w2.heap.size from h1.2.size)) hnq).trans s2))
            all_goals
              have HV := Lib.hid (both_next HBW.out HDS.out.1 HDS.out.2.1 HDS.out.2.2 (s := (r1, e1)) h1 (fun _ => hq3) HLN.out)
              obtain ⟨V, hV⟩ : ∃ V, V = w3 := ⟨_, rfl⟩
              rw [← hV] at HV
              rw [← hV]
              clear hV h1 hq3 HC HD2 HLN HW a0 a1 a2 x0 x1 x2 HK1 HBW HQ2 s2 s3 hR2 hT2
              have HTL := Lib.hid (fun n => err_any _ Fr r1 e1 (V.drewN n) (show Rd (V.drewN n) _ Fr r1 e1 from HV.out.1))
              have HTF := Lib.hid (fun n => left_any _ Fr r1 e1 (V.drewN n) (show Rd (V.drewN n) _ Fr r1 e1 from HV.out.1))
              have HTQ := Lib.hid (fun n => qleft_any q Fq r1 e1 (V.drewN n) (show Qd (V.drewN n) q Fq r1 e1 from HV.out.2.1))
              have cE := HV.out.2.1.c1
              go_wp2_with fail
              go_quiet (first | (go_at_call 39; exact quiet_of (HTL.out _)) | (go_at_call 40; exact quiet_left (HTF.out _)) | (go_at_call 41; exact quiet_of (HTQ.out _)))
              go_wp2_with fail
              go_roundw
              case rel =>
                obtain ⟨t1, t2, t3, t4⟩ := HV.out
                exact ⟨j + 1, r1, e1, by go_num, by omega, by omega, t1, t2, t3, ⟨t4.os, t4.tape, t4.output, t4.size, t4.block⟩⟩
              case measure => simp [intOf]; omega
          by_cases k7 : what = 7
          · subst k7
            obtain ⟨r1, e1, hx⟩ : ∃ r1 e1, Pl.rf r e most = (r1, e1) := ⟨_, _, rfl⟩
            have hlen := rf_len r e most
            have HC := Lib.hid (rfail_any _ Fr r e most W HBW.out.1 hI1)
            have HD2 := Lib.hid (fun w' (h : Qd w' q Fq r e) => qfail_any q Fq r e most w' h hI1)
            rw [hx] at HC HD2 hlen
            simp only at hlen
            have HLN := Lib.hid hlen
            clear hx hlen
            go_wp2_with fail
            rw [← HW.out]
            refine HC.out.mono ?_
            rintro en w2 ⟨rfl, h1⟩
            have HQ2 := Lib.hid (HD2.out w2 (both_q HBW.out HDS.out.1 h1))
            have s2 := HK1.out w2 1 _ h1.2 a1
            go_wp2_with fail
            refine HQ2.out.mono ?_
            rintro en w3 ⟨rfl, hq3⟩
            have HV := Lib.hid (both_next HBW.out HDS.out.1 HDS.out.2.1 HDS.out.2.2 (s := (r1, e1)) h1 (fun _ => hq3) HLN.out)
            obtain ⟨V, hV⟩ : ∃ V, V = w3 := ⟨_, rfl⟩
            rw [← hV] at HV
            rw [← hV]
            clear hV h1 hq3 HC HD2 HLN HW a0 a1 a2 x0 x1 x2 HK1 HBW HQ2
            have HTL := Lib.hid (fun n => err_any _ Fr r1 e1 (V.drewN n) (show Rd (V.drewN n) _ Fr r1 e1 from HV.out.1))
            have HTF := Lib.hid (fun n => left_any _ Fr r1 e1 (V.drewN n) (show Rd (V.drewN n) _ Fr r1 e1 from HV.out.1))
            have HTQ := Lib.hid (fun n => qleft_any q Fq r1 e1 (V.drewN n) (show Qd (V.drewN n) q Fq r1 e1 from HV.out.2.1))
            have cE := HV.out.2.1.c1
            go_wp2_with fail
            go_quiet (first | (go_at_call 39; exact quiet_of (HTL.out _)) | (go_at_call 40; exact quiet_left (HTF.out _)) | (go_at_call 41; exact quiet_of (HTQ.out _)))
            go_wp2_with fail
            go_roundw
            case rel =>
              obtain ⟨t1, t2, t3, t4⟩ := HV.out
              exact ⟨j + 1, r1, e1, by go_num, by omega, by omega, t1, t2, t3, ⟨t4.os, t4.tape, t4.output, t4.size, t4.block⟩⟩
            case measure => simp [intOf]; omega
          by_cases k8 : what = 8
          · subst k8
            obtain ⟨r1, e1, hx⟩ : ∃ r1 e1, Pl.re_ r e = (r1, e1) := ⟨_, _, rfl⟩
            have hlen := re_len r e
            have HC := Lib.hid (end_any _ Fr r e W HBW.out.1)
            have HD2 := Lib.hid (fun w' (h : Qd w' q Fq r e) => qend_any q Fq r e w' h (by omega))
            rw [hx] at HC HD2 hlen
            simp only at hlen
            have HLN := Lib.hid hlen
            clear hx hlen
            go_wp2_with fail
            rw [← HW.out]
            refine HC.out.mono ?_
            rintro en w2 ⟨rfl, h1⟩
            have HQ2 := Lib.hid (HD2.out w2 (both_q HBW.out HDS.out.1 h1))
            go_wp2_with fail
            refine HQ2.out.mono ?_
            rintro en w3 ⟨rfl, hq3⟩
            have HV := Lib.hid (both_next HBW.out HDS.out.1 HDS.out.2.1 HDS.out.2.2 (s := (r1, e1)) h1 (fun _ => hq3) HLN.out)
            obtain ⟨V, hV⟩ : ∃ V, V = w3 := ⟨_, rfl⟩
            rw [← hV] at HV
            rw [← hV]
            clear hV h1 hq3 HC HD2 HLN HW a0 a1 a2 x0 x1 x2 HK1 HBW HQ2
            have HTL := Lib.hid (fun n => err_any _ Fr r1 e1 (V.drewN n) (show Rd (V.drewN n) _ Fr r1 e1 from HV.out.1))
            have HTF := Lib.hid (fun n => left_any _ Fr r1 e1 (V.drewN n) (show Rd (V.drewN n) _ Fr r1 e1 from HV.out.1))
            have HTQ := Lib.hid (fun n => qleft_any q Fq r1 e1 (V.drewN n) (show Qd (V.drewN n) q Fq r1 e1 from HV.out.2.1))
            have cE := HV.out.2.1.c1
            go_wp2_with fail
            go_quiet (first | (go_at_call 39; exact quiet_of (HTL.out _)) | (go_at_call 40; exact quiet_left (HTF.out _)) | (go_at_call 41; exact quiet_of (HTQ.out _)))
            go_wp2_with fail
            go_roundw
            case rel =>
              obtain ⟨t1, t2, t3, t4⟩ := HV.out
              exact ⟨j + 1, r1, e1, by go_num, by omega, by omega, t1, t2, t3, ⟨t4.os, t4.tape, t4.output, t4.size, t4.block⟩⟩
            case measure => simp [intOf]; omega
          by_cases k3 : what = 3
          · subst k3
            obtain ⟨x, r1, e1, hx⟩ : ∃ x r1 e1, Pl.rby r e most.toNat = (x, r1, e1) := ⟨_, _, _, rfl⟩
            have hlen := Pl.rby_len2 r e most.toNat
            have HC := Lib.hid (fun w' (h : Rd w' (some ⟨p, 0, none⟩) Fr r e) => rbytes_any _ Fr r e most w' h hI1 (by omega))
            have HD2 := Lib.hid (fun w' (h : Qd w' q Fq r e) => qbytes_any q Fq r e most w' h hI1 (by omega))
            rw [hx] at HC HD2 hlen
            simp only at hlen
            have HLN := Lib.hid hlen
            clear hx hlen
            go_wp2_with fail
            rw [← HW.out]
            go_region_held3 (fun w' => w'.cell? ⟨wr.heap.size, 1, none⟩ = some (.int .i64 most)) (first | exact a1 | exact s2 | exact s3)
              (first
                | (go_at_call 28; refine (HC.out W.drew (show Rd W.drew _ Fr r e from HBW.out.1)).mono ?_; rintro en w2 ⟨A6, c6, rfl, hV6, hR2, hT2⟩; have h1 : RdTo W _ Fr (r1, e1) w2 := ⟨hR2, hT2.drawn⟩; have s2 := HK1.out w2 1 _ h1.2 a1; have HQ2 := Lib.hid (HD2.out w2 (both_q HBW.out HDS.out.1 h1)))
                | (go_at_call 29; refine HQ2.out.mono ?_; rintro en w3 ⟨A7, c7, rfl, hV7, hq3⟩; have HEQ := Lib.hid (eq_yes A6 A7 x.length c6 x.length c7 x x w3 (hq3.2.bys hV6.bys.2 (apart_q hV6 (show q < W.heap.size from HBW.out.2.1.lt q HBW.out.2.1.2.2.1))) hV7.bys.2 rfl); have s3 := (hq3.2.cell (p := ⟨wr.heap.size, 1, none⟩) (Nat.lt_of_lt_of_le hzW (show W.heap.size ≤ w2.heap.size from h1.2.size)) hnq).trans s2)
                | (go_at_call 19; refine HEQ.out.mono ?_; rintro en w' ⟨rfl, rfl⟩))
            all_goals
              have HV := Lib.hid (both_next HBW.out HDS.out.1 HDS.out.2.1 HDS.out.2.2 (s := (r1, e1)) h1 (fun _ => hq3) HLN.out)
              obtain ⟨V, hV⟩ : ∃ V, V = w3 := ⟨_, rfl⟩
              rw [← hV] at HV
              rw [← hV]
              clear hV h1 hq3 HC HD2 HLN HW a0 a1 a2 x0 x1 x2 HK1 HBW HQ2 s2 s3 hR2 hT2 hV6 hV7 HEQ
              have HTL := Lib.hid (fun n => err_any _ Fr r1 e1 (V.drewN n) (show Rd (V.drewN n) _ Fr r1 e1 from HV.out.1))
              have HTF := Lib.hid (fun n => left_any _ Fr r1 e1 (V.drewN n) (show Rd (V.drewN n) _ Fr r1 e1 from HV.out.1))
              have HTQ := Lib.hid (fun n => qleft_any q Fq r1 e1 (V.drewN n) (show Qd (V.drewN n) q Fq r1 e1 from HV.out.2.1))
              have cE := HV.out.2.1.c1
              go_wp2_with fail
              go_quiet (first | (go_at_call 39; exact quiet_of (HTL.out _)) | (go_at_call 40; exact quiet_left (HTF.out _)) | (go_at_call 41; exact quiet_of (HTQ.out _)))
              go_wp2_with fail
              go_roundw
              case rel =>
                obtain ⟨t1, t2, t3, t4⟩ := HV.out
                exact ⟨j + 1, r1, e1, by go_num, by omega, by omega, t1, t2, t3, ⟨t4.os, t4.tape, t4.output, t4.size, t4.block⟩⟩
              case measure => simp [intOf]; omega
          by_cases k4 : what = 4
          · subst k4
            obtain ⟨x, r1, e1, hx⟩ : ∃ x r1 e1, Pl.rby r e most.toNat = (x, r1, e1) := ⟨_, _, _, rfl⟩
            have hlen := Pl.rby_len2 r e most.toNat
            have HC := Lib.hid (fun w' (h : Rd w' (some ⟨p, 0, none⟩) Fr r e) => rstr_any _ Fr r e most w' h hI1)
            have HD2 := Lib.hid (fun w' (h : Qd w' q Fq r e) => qbytes_any q Fq r e most w' h hI1 (by omega))
            rw [hx] at HC HD2 hlen
            simp only at hlen
            have HLN := Lib.hid hlen
            clear hx hlen
            obtain ⟨sv, hsv⟩ : ∃ sv, sv = strOfNums (ints x) := ⟨_, rfl⟩
            simp only at HC
            rw [← hsv] at HC
            have HSV := Lib.hid hsv
            clear hsv
            go_wp2_with fail
            rw [← HW.out]
            have HS1 : ∀ w1 L, StrS W wr.heap.size most p q Fr Fq (r1, e1) L w1 → L 3 = false → Calls Try.prog 30 #[.pointer (some ⟨p, 0, none⟩), .int .i64 most] w1 fun en w' => ∃ v, en = .returned v ∧ v = .string sv ∧ StrS W wr.heap.size most p q Fr Fq (r1, e1) (Rq.up L 3) w' ∧ StrR p 3 w1 w' := by
              intro w1 L hS hL
              have h7 : L 7 = false := by
                cases h : L 7 with
                | false => rfl
                | true => rw [hS.2.2.2.2 h] at hL; cases hL
              rw [hS.2.1 hL]
              refine (HC.out W.drew (show Rd W.drew _ Fr r e from HBW.out.1)).mono ?_
              rintro en w' ⟨rfl, hR2, hT2⟩
              exact ⟨_, rfl, rfl, ⟨HK1.out w' 1 _ hT2.drawn a1, (fun h => by cases h), (fun _ _ => ⟨hR2, hT2.drawn⟩), (fun h => by rw [show Rq.up L 3 7 = L 7 from rfl, h7] at h; cases h), (fun _ => rfl)⟩, (fun _ => hT2), (fun h => absurd rfl h)⟩
            have HS2 : ∀ w1 L, StrS W wr.heap.size most p q Fr Fq (r1, e1) L w1 → L 7 = false → L 3 = true → Calls Try.prog 29 #[.pointer (some ⟨q, 0, none⟩), .int .i64 most] w1 fun en w' => ∃ v, en = .returned v ∧ P94 p x v w' ∧ StrS W wr.heap.size most p q Fr Fq (r1, e1) (Rq.up L 7) w' ∧ StrR p 7 w1 w' := by
              intro w1 L hS hL h3
              have h1 := hS.2.2.1 h3 hL
              refine (HD2.out w1 (both_q HBW.out HDS.out.1 h1)).mono ?_
              rintro en w' ⟨A7, c7, rfl, hV7, hq3⟩
              have hzw : W.heap.size ≤ w1.heap.size := h1.2.size
              exact ⟨_, rfl, ⟨A7, c7, rfl, hV7.bys.2, fun _ ad e2 hp => by
                subst e2
                obtain ⟨g7, e3, _, hO⟩ := hV7.some_ (by simp)
                cases e3
                have a7 := hO.form.1
                have a8 := HBW.out.1.lt_pt hp
                simp at a8
                omega⟩, ⟨(hq3.2.cell (p := ⟨wr.heap.size, 1, none⟩) (Nat.lt_of_lt_of_le hzW hzw) hnq).trans hS.1, (fun h => by rw [show Rq.up L 7 3 = L 3 from rfl, h3] at h; cases h), (fun _ h => by cases h), (fun _ => ⟨w1, h1, hq3⟩), (fun _ => h3)⟩, (fun h => by cases h), (fun _ h => absurd rfl h)⟩
            have hS0 : StrS W wr.heap.size most p q Fr Fq (r1, e1) (fun _ => false) W.drew := ⟨a1, fun _ => rfl, (fun h => by cases h), (fun h => by cases h), (fun h => by cases h)⟩
            have rR : ∀ (k : Nat) (w' : World), StrR p k w' w' := fun _ _ => ⟨fun _ => Tn.refl _ _, fun _ _ => rfl⟩
            refine Rq.wp_region_inv (StrS W wr.heap.size most p q Fr Fq (r1, e1)) (StrR p) (Rq.Wd.at [.is (.pointer (some ⟨p, 0, none⟩)), .is (.pointer (some ⟨wr.heap.size, 1, none⟩)), .is (.int .i64 most), .is (.string sv), .is (.pointer (some ⟨q, 0, none⟩)), .is (.pointer (some ⟨wr.heap.size, 1, none⟩)), .is (.int .i64 most), .pred (P94 p x), .is (.string sv), .is (.bool true), .is (.bool true)]) (by kernel_rfl) (by kernel_rfl) (Rq.Wd.stays _ _ (str_stays (fun i pq hi => by
                rcases i with _ | _ | _ | _ | _ | _ | _ | _ | _ | _ | _ | i <;> simp at hi
                exact ⟨rfl, hi.symm⟩))) hS0 ⟨?_, ?_, ?_, ?_, ?_, ?_, ?_, ?_, ?_, ?_, ?_, trivial⟩ ?_
            · intro L a w1 hL hS hb hd
              have e6 := hb 6 (Rq.nw (by decide))
              simp [Act.eval] at e6
              exact Rq.does_pure (Rq.wanted_none rfl) (by simp [execOp, e6, go_sem]) rfl hS (rR _ _)
            · intro L a w1 hL hS hb hd
              have e10 := hb 10 (Rq.nw (by decide))
              simp [Act.eval] at e10
              exact Rq.does_pure (Rq.wanted_none rfl) (by simp [execOp, e10, go_sem]) rfl hS (rR _ _)
            · intro L a w1 hL hS hb hd
              have p88 := (hd ⟨1, .data⟩ (by simp) rfl).2 _ _ rfl rfl
              have e88 : a.tmps[88]?.getD undef = (.pointer (some ⟨wr.heap.size, 1, none⟩)) := Rq.slot p88
              exact Rq.does_pure (Rq.wanted_none rfl) (by simp [execOp, e88, hS.1, go_sem]) rfl hS (rR _ _)
            · intro L a w1 hL hS hb hd
              have p87 := (hd ⟨0, .data⟩ (by simp) rfl).2 _ _ rfl rfl
              have e87 : a.tmps[87]?.getD undef = (.pointer (some ⟨p, 0, none⟩)) := Rq.slot p87
              have p89 := (hd ⟨2, .data⟩ (by simp) rfl).2 _ _ rfl rfl
              have e89 : a.tmps[89]?.getD undef = (.int .i64 most) := Rq.slot p89
              exact Rq.does_call (f := 30) (args := #[.pointer (some ⟨p, 0, none⟩), .int .i64 most]) (Rq.wanted_none rfl) (by simp [e87, e89, go_sem]) (HS1 w1 L hS hL)
            · intro L a w1 hL hS hb hd
              have e7 := hb 7 (Rq.nw (by decide))
              simp [Act.eval] at e7
              exact Rq.does_pure (Rq.wanted_none rfl) (by simp [execOp, e7, go_sem]) rfl hS (rR _ _)
            · intro L a w1 hL hS hb hd
              have e10 := hb 10 (Rq.nw (by decide))
              simp [Act.eval] at e10
              exact Rq.does_pure (Rq.wanted_none rfl) (by simp [execOp, e10, go_sem]) rfl hS (rR _ _)
            · intro L a w1 hL hS hb hd
              have p92 := (hd ⟨5, .data⟩ (by simp) rfl).2 _ _ rfl rfl
              have e92 : a.tmps[92]?.getD undef = (.pointer (some ⟨wr.heap.size, 1, none⟩)) := Rq.slot p92
              exact Rq.does_pure (Rq.wanted_none rfl) (by simp [execOp, e92, hS.1, go_sem]) rfl hS (rR _ _)
            · intro L a w1 hL hS hb hd
              have p91 := (hd ⟨4, .data⟩ (by simp) rfl).2 _ _ rfl rfl
              have e91 : a.tmps[91]?.getD undef = (.pointer (some ⟨q, 0, none⟩)) := Rq.slot p91
              have p93 := (hd ⟨6, .data⟩ (by simp) rfl).2 _ _ rfl rfl
              have e93 : a.tmps[93]?.getD undef = (.int .i64 most) := Rq.slot p93
              exact Rq.does_call (f := 29) (args := #[.pointer (some ⟨q, 0, none⟩), .int .i64 most]) (Rq.wanted_none rfl) (by simp [e91, e93, go_sem]) (HS2 w1 L hS hL (hd ⟨3, .chain⟩ (by simp) rfl).1)
            · intro L a w1 hL hS hb hd
              have p94 := (hd ⟨7, .data⟩ (by simp) rfl).2 _ _ rfl rfl
              obtain ⟨A2, c2, e94, hB94, _⟩ := p94; have e94x := Rq.slot e94; have hcv := hB94.conv; rw [← HSV.out] at hcv; exact Rq.does_pure (Rq.wanted_none rfl) (by simp [execOp, e94x, hcv, go_sem]) rfl hS (rR _ _)
            · intro L a w1 hL hS hb hd
              have p90 := (hd ⟨3, .data⟩ (by simp) rfl).2 _ _ rfl rfl
              have e90 : a.tmps[90]?.getD undef = (.string sv) := Rq.slot p90
              have p95 := (hd ⟨8, .data⟩ (by simp) rfl).2 _ _ rfl rfl
              have e95 : a.tmps[95]?.getD undef = (.string sv) := Rq.slot p95
              exact Rq.does_pure (Rq.wanted_none rfl) (by simp [execOp, e90, e95, go_sem]) rfl hS (rR _ _)
            · intro L a w1 hL hS hb hd
              have p96 := (hd ⟨9, .data⟩ (by simp) rfl).2 _ _ rfl rfl
              have e96 : a.tmps[96]?.getD undef = (.bool true) := Rq.slot p96
              exact Rq.does_pure (Rq.wanted_none rfl) (by simp [execOp, e96, go_sem]) rfl hS (rR _ _)
            · intro L v w3 hS hL hF
              have v10 : v 10 = .bool true := hF 10 _ _ rfl rfl
              obtain ⟨w2, h1, hq3⟩ := hS.2.2.2.1 (hL 7 (by simp))
              simp only [Rq.putAll, v10]
              simp only [Act.put, List.setIfInBounds_toArray, List.set_cons_succ, List.set_cons_zero]
              clear hS hL hF v10 HS1 HS2 hS0
              have HV := Lib.hid (both_next HBW.out HDS.out.1 HDS.out.2.1 HDS.out.2.2 (s := (r1, e1)) h1 (fun _ => hq3) HLN.out)
              obtain ⟨V, hV⟩ : ∃ V, V = w3 := ⟨_, rfl⟩
              rw [← hV] at HV
              rw [← hV]
              clear hV h1 hq3 HC HD2 HLN HW a0 a1 a2 x0 x1 x2 HK1 HBW HSV
              have HTL := Lib.hid (fun n => err_any _ Fr r1 e1 (V.drewN n) (show Rd (V.drewN n) _ Fr r1 e1 from HV.out.1))
              have HTF := Lib.hid (fun n => left_any _ Fr r1 e1 (V.drewN n) (show Rd (V.drewN n) _ Fr r1 e1 from HV.out.1))
              have HTQ := Lib.hid (fun n => qleft_any q Fq r1 e1 (V.drewN n) (show Qd (V.drewN n) q Fq r1 e1 from HV.out.2.1))
              have cE := HV.out.2.1.c1
              go_wp2_with fail
              go_quiet (first | (go_at_call 39; exact quiet_of (HTL.out _)) | (go_at_call 40; exact quiet_left (HTF.out _)) | (go_at_call 41; exact quiet_of (HTQ.out _)))
              go_wp2_with fail
              go_roundw
              case rel =>
                obtain ⟨t1, t2, t3, t4⟩ := HV.out
                exact ⟨j + 1, r1, e1, by go_num, by omega, by omega, t1, t2, t3, ⟨t4.os, t4.tape, t4.output, t4.size, t4.block⟩⟩
              case measure => simp [intOf]; omega
          have b0 : (what == 0) = false := by rw [beq_eq_false_iff_ne]; exact k0
          have b1 : (what == 1) = false := by rw [beq_eq_false_iff_ne]; exact k1
          have b2 : (what == 2) = false := by rw [beq_eq_false_iff_ne]; exact k2
          have b3 : (what == 3) = false := by rw [beq_eq_false_iff_ne]; exact k3
          have b4 : (what == 4) = false := by rw [beq_eq_false_iff_ne]; exact k4
          have b5 : (what == 5) = false := by rw [beq_eq_false_iff_ne]; exact k5
          have b6 : (what == 6) = false := by rw [beq_eq_false_iff_ne]; exact k6
          have b7 : (what == 7) = false := by rw [beq_eq_false_iff_ne]; exact k7
          have b8 : (what == 8) = false := by rw [beq_eq_false_iff_ne]; exact k8
          obtain ⟨r1, hr1⟩ : ∃ r1, r1 = r := ⟨_, rfl⟩
          obtain ⟨e1, he1⟩ : ∃ e1, e1 = e := ⟨_, rfl⟩
          have HV := HBW
          rw [← hr1, ← he1] at HV
          clear hr1 he1 k0 k1 k2 k3 k4 k5 k6 k7 k8
          obtain ⟨V, hV⟩ : ∃ V, V = W := ⟨_, rfl⟩
          rw [HW.out] at hV
          have cE0 := HV.out.2.1.c1
          rw [HW.out] at cE0
          go_wp2_with fail
          rw [← hV]
          rw [HW.out, ← hV] at HV
          clear hV cE0 HW a0 a1 a2 x0 x1 x2 HK1 HBW
          have HTL := Lib.hid (fun n => err_any _ Fr r1 e1 (V.drewN n) (show Rd (V.drewN n) _ Fr r1 e1 from HV.out.1))
          have HTF := Lib.hid (fun n => left_any _ Fr r1 e1 (V.drewN n) (show Rd (V.drewN n) _ Fr r1 e1 from HV.out.1))
          have HTQ := Lib.hid (fun n => qleft_any q Fq r1 e1 (V.drewN n) (show Qd (V.drewN n) q Fq r1 e1 from HV.out.2.1))
          have cE := HV.out.2.1.c1
          go_quiet (first | (go_at_call 39; exact quiet_of (HTL.out _)) | (go_at_call 40; exact quiet_left (HTF.out _)) | (go_at_call 41; exact quiet_of (HTQ.out _)))
          go_wp2_with fail
          go_roundw
          case rel =>
            obtain ⟨t1, t2, t3, t4⟩ := HV.out
            exact ⟨j + 1, r1, e1, by go_num, by omega, by omega, t1, t2, t3, ⟨t4.os, t4.tape, t4.output, t4.size, t4.block⟩⟩
          case measure => simp [intOf]; omega
        · obtain ⟨h6, h7⟩ | ⟨h6, h7⟩ : (n ≤ j ∧ True) ∨ (j = 60 ∧ j < n) := by
            rcases Nat.lt_or_ge j n with h | h
            · exact Or.inr ⟨by omega, h⟩
            · exact Or.inl ⟨h, trivial⟩
          · go_wp2_with fail
            refine (awake_any wr).mono ?_
            rintro en wa ⟨rfl, hba⟩
            go_wp2_with fail
            go_ret
            exact ⟨rfl, hb.trans (hba.mono z)⟩
          · subst h6
            obtain ⟨g, o, rfl, hg, x0, hI0, x1, hI1, x2, hU2⟩ := (HL.out.below hb (Nat.le_refl _)).2.2.2 60 h7
            obtain ⟨⟨what, most, N⟩, ht⟩ : ∃ t, t = ls.getD 60 default := ⟨_, rfl⟩
            rw [← ht] at x0 hI0 x1 hI1 x2 hU2
            simp only at x0 hI0 x1 hI1 x2 hU2
            clear ht
            go_wp2_with fail
            refine (awake_any _).mono ?_
            rintro en wa ⟨rfl, hba⟩
            have hbW : Below wr.heap.size wr (wr.alloc (.cells #[.int .i64 what, .int .i64 most, .int .u64 (N : Int)] 50)) := (Below.refl _ _).alloc (Nat.le_refl _) _
            go_wp2_with fail
            go_ret
            exact ⟨rfl, (hb.trans (hbW.mono z)).trans (hba.mono (by have := hbW.size; omega))⟩
end Go.Proofs.Ytpakbpkcacdpbaa.wireReads
