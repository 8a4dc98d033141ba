/-
  The walk of copybooklaw05.PiecePlays: it returns true for every text and all calls; nothing that was there turned. No conditions.
-/
import Derived.Test.YtogmddneimhpeaaRefE
import Derived.Test.YtogmddneimhpeaaPceT
import Derived.Test.YtogmddneimhpeaaBaseR
import Derived.Test.YtogmddneimhpeaaBaseQ
import Derived.Deep.DeepCutAuto
import Derived.Deep.CutRange
import Derived.Deep.CutBlock
namespace Go.Proofs.Ytogmddneimhpeaa.piecePlays
open Go.RowKit
open Pl (Pc Plc Tab On)

def Nk (_ : Nat) : Prop := False
/-- at the outer loop's head -/
def R1 (w : World) (nl : Nat) (P R i : Value) (wr : World) : Prop := ∃ (j p m r : Nat) (t : Tab), i = .int .i64 (j : Int) ∧ j ≤ nl ∧ j ≤ 60 ∧ m ≤ 300 + 100 * j ∧ P = .pointer (some ⟨p, 0, none⟩) ∧ R = .pointer (some ⟨r, 0, none⟩) ∧ SP w wr p t m r t Nk
/-- own code points counted up so far -/
def IRel (wa : World) (base : Nat) (v : Value) (n : Nat) (i : Value) (wr : World) : Prop := ∃ (j : Nat) (cs : List Int), i = .int .i64 (j : Int) ∧ j ≤ n ∧ OwnC wr base v cs ∧ Tn (fun b => Value.ownBlock v = some b) wa wr
theorem wrapJ (x : Int) : Pl.J (wrap32 x) := by unfold Pl.J wrap32; omega


def PR0 (_ : Nat) (_ _ : World) : Prop := True
/-- in a region that does one thing at both tables: operation c1 at the program's, c2 at the document's -/
def PI (w0 wa : World) (c1 c2 : Nat) (p m r : Nat) (t : Tab) (m' : Nat) (t' : Tab) (K : Nat → Prop) (L : Nat → Bool) (w : World) : Prop :=
  (∀ b, K b → w.heap[b]? = wa.heap[b]?) ∧ (L c1 = false → L c2 = false) ∧ (L c1 = false → SP w0 w p t m r t K) ∧ (L c1 = true → L c2 = false → SP w0 w p t' m' r t K) ∧ (L c1 = true → L c2 = true → SP w0 w p t' m' r t' K)
section
variable {w0 wa w w' : World} {c1 c2 p m r m' i : Nat} {t t' : Tab} {K : Nat → Prop} {L : Nat → Bool}
theorem up_ne {i j : Nat} (h : i ≠ j) : Rq.up L i j = L j := by simp [Rq.up, h]
theorem up_eq : Rq.up L i i = true := by simp [Rq.up]
theorem PI.stay (h : PI w0 wa c1 c2 p m r t m' t' K L w) (h1 : i ≠ c1) (h2 : i ≠ c2) : PI w0 wa c1 c2 p m r t m' t' K (Rq.up L i) w := by
  unfold PI at *
  rw [up_ne h1, up_ne h2]
  exact h
theorem PI.first (h : PI w0 wa c1 c2 p m r t m' t' K L w) (h12 : c1 ≠ c2) (hL : L c1 = false) (hS : SP w0 w' p t' m' r t K) (hk : ∀ b, K b → w'.heap[b]? = w.heap[b]?) : PI w0 wa c1 c2 p m r t m' t' K (Rq.up L c1) w' := by
  unfold PI at *
  have h2 := h.2.1 hL
  rw [up_eq, up_ne h12, h2]
  exact ⟨fun b hb => (hk b hb).trans (h.1 b hb), (fun e => by cases e), (fun e => by cases e), fun _ _ => hS, (fun _ e => by cases e)⟩
theorem PI.second (h : PI w0 wa c1 c2 p m r t m' t' K L w) (h12 : c2 ≠ c1) (hL : L c1 = true) (hS : SP w0 w' p t' m' r t' K) (hk : ∀ b, K b → w'.heap[b]? = w.heap[b]?) : PI w0 wa c1 c2 p m r t m' t' K (Rq.up L c2) w' := by
  unfold PI at *
  rw [up_eq, up_ne h12, hL]
  exact ⟨fun b hb => (hk b hb).trans (h.1 b hb), (fun e => by cases e), (fun e => by cases e), (fun _ e => by cases e), fun _ _ => hS⟩
theorem PI.begin (h : SP w0 w p t m r t K) : PI w0 w c1 c2 p m r t m' t' K (fun _ => false) w.drew :=
  ⟨fun _ _ => rfl, fun _ => rfl, fun _ => h.then_ (below_drawn (Below.refl _ _)), (fun e => by cases e), fun e => by cases e⟩
end
def KB (bx b : Nat) : Prop := b = bx
def KX (bx : Nat) (v : Value) (b : Nat) : Prop := b = bx ∨ Value.ownBlock v = some b
def CW (cs : List Int) (v : Value) (w : World) : Prop := ∃ A c, v = .slice A cs.length c ∧ Crs w w.heap.size A cs.length c cs
theorem CW.stays {cs : List Int} : Rg.Stb (CW cs) := fun _ _ _ ⟨A, c, e, h⟩ hb => ⟨A, c, e, h.then_ hb⟩
def PW (ps : List Pc) (v : Value) (w : World) : Prop := ∃ A c, v = .slice A ps.length c ∧ Rws encP w w.heap.size A ps.length c ps
theorem PW.stays {ps : List Pc} : Rg.Stb (PW ps) := fun _ _ _ ⟨A, c, e, h⟩ hb => ⟨A, c, e, Rws.then_ h hb⟩

set_option maxRecDepth 100000 in
set_option maxHeartbeats 16000000 in
theorem walk (w : World) (A : Option Addr) (n c : Nat) (cs0 : List Int) (hA : Crs w w.heap.size A n c cs0) (B : Option Addr) (nl d : Nat) (l : List Act5) (hB : Acts w w.heap.size B nl d l) :
    Calls Try.prog 3 #[.slice A n c, .slice B nl d] w fun e w' => e = .returned (.bool true) ∧ Below w.heap.size w w' := by
  obtain ⟨M, hM⟩ : ∃ M, M = min n 300 := ⟨_, rfl⟩
  have rM := min_run (n : Int) 300 (M : Int) (by omega)
  have sM := slice_toC A n c M (by have := hA.le; omega)
  have HA := hA.upto (k := M) (by omega)
  have hMb : M ≤ 300 := by omega
  have hn9 : n ≤ 9223372036854775807 := by have := hA.le; have := hA.cap; unfold maxLen at *; omega
  have hl9 : nl ≤ 9223372036854775807 := by have := hB.2.1; have := hB.2.2.1; unfold maxLen at *; omega
  have HAA := Lib.hid HA
  have HB := Lib.hid hB
  obtain ⟨l0, hl0⟩ : ∃ l0, l0 = cs0.take M := ⟨_, rfl⟩
  rw [← hl0] at HAA
  have HOW := Lib.hid (own_any A M c l0 w HAA.out (by omega))
  have HLEN := Lib.hid HAA.out.len
  unfold RetC at HOW
  rw [HLEN.out] at HOW
  clear hA hB HA hM hl0
  go_enter Try.func3, Try.ntmps3
  go_wp2_with fail
  refine HOW.out.mono ?_
  rintro e w1 ⟨A2, c2, rfl, hO2, hb1⟩
  have HO2 := Lib.hid hO2
  have HB1 := Lib.hid hb1
  have HN := Lib.hid (new_any A2 M c2 l0 w1 hO2.crs.2 (by omega))
  clear hO2 hb1 HOW rM sM
  go_wp2_with fail
  refine HN.out.mono ?_
  rintro e w2 ⟨p, F0, rfl, hT2, hF0, hb2⟩
  have HT2 := Lib.hid (And.intro hT2 (And.intro hF0 hb2))
  have HR := Lib.hid (new_ref A M c l0 w2 ((HAA.out.then_ HB1.out).then_ hb2) (by omega))
  clear hT2 hF0 hb2 HN
  go_wp2_with fail
  refine HR.out.mono ?_
  rintro e w3 ⟨r, A3, c3, rfl, hR3, hb3⟩
  have HS3 := Lib.hid (show SP w w3 p (Pl.fresh l0) M r (Pl.fresh l0) (fun b => Value.ownBlock (.slice A2 M c2) = some b) from
    SP.start HB1.out HT2.out.1 HT2.out.2.1 HT2.out.2.2 hR3 hb3 (by rw [Pl.fresh_text]; exact HAA.out.js) (fun b hb => HO2.out.lt b hb))
  have HO3 := Lib.hid (show OwnC w3 w.heap.size (.slice A2 M c2) l0 from OwnC.then_ (OwnC.then_ HO2.out HT2.out.2.2) hb3)
  clear hR3 hb3 HR HO2 HT2 HB1
  go_wp2_with fail
  go_loopw [32] (fun i wr => IRel w3 w.heap.size (.slice A2 M c2) M i wr) (fun i _ => M - (intOf i).toNat)
  case atStart => exact ⟨0, _, rfl, Nat.zero_le _, HO3.out, Tn.refl _ _⟩
  case round =>
    obtain ⟨j9, cs9, rfl, hj9, hO9, ht9⟩ := hrel
    have HT9 := Lib.hid ht9
    by_cases hlt9 : j9 < M
    · obtain ⟨g9, hA9, hg9⟩ := hO9.pos_ (by omega)
      subst hA9
      obtain ⟨g8, o8, e8, _, hc9⟩ := hO9.crs.2.at_ hlt9
      injection e8 with e8
      injection e8 with e81 e82 _
      subst e81 e82
      have x9 := hc9 j9 hlt9
      rw [Nat.zero_add] at x9
      have h9o := hO9.1
      rw [← hO9.crs.1] at h9o
      have f9 := World.ownsRow.frozenAt h9o j9
      have hz9 : (0 : Int) ≤ (j9 : Int) := by omega
      have hz8 : (j9 : Int) < (M : Int) := by omega
      obtain ⟨z9, hz9'⟩ : ∃ z, z = cs9.getD j9 0 := ⟨_, rfl⟩
      rw [← hz9'] at x9
      have HO9 := Lib.hid (hO9.set_ j9 (wrap32 (z9 + 1)) (wrapJ _)).1
      clear hO9 ht9 hc9 hz9' h9o
      go_wp2_with fail
      go_roundw
      case rel => exact ⟨j9 + 1, _, by go_num, hlt9, HO9.out, Tn.set_ HT9.out (p := ⟨_, j9, none⟩) (Or.inr rfl) _⟩
      case measure => simp [intOf]; omega
    · have hjm : j9 = M := by omega
      have HS4 := Lib.hid (show SP w wr p (Pl.fresh l0) M r (Pl.fresh l0) Nk from (HS3.out.turn ht9 (fun b hb => hb)).less (fun b hb => hb.elim))
      clear hO9 ht9 HT9 HS3 HO3 hjm
      go_wp2_with fail
      go_loopw [6, 7, 44] (fun P R i wr => R1 w nl P R i wr) (fun _ _ i _ => nl - (intOf i).toNat)
      case atStart => exact ⟨0, p, M, r, _, rfl, Nat.zero_le _, Nat.zero_le _, by omega, rfl, rfl, HS4.out⟩
      case round =>
        obtain ⟨j, p, m, r, t, rfl, hj, h60, hm, rfl, rfl, hS⟩ := hrel
        by_cases hlt : j < nl
        · by_cases hl60 : j < 60
          · obtain ⟨g, o, A', n', c', rfl, hg, x0, hI0, x1', hI1, x2, hI2, x3, hC⟩ := HB.out.2.2.2 j hlt
            obtain ⟨⟨what, pos, nn, ts⟩, ht⟩ : ∃ t, t = l.getD j default := ⟨_, rfl⟩
            rw [← ht] at x0 hI0 x1' hI1 x2 hI2 hC
            simp only at x0 hI0 x1' hI1 x2 hI2 hC
            rw [← hS.bel.cell (p := ⟨g, _, none⟩) hg] at x0 x1' x2 x3
            have b60 : ((j : Int) == 60) = false := by rw [beq_eq_false_iff_ne]; omega
            obtain ⟨M', hM'⟩ : ∃ M', M' = min n' 100 := ⟨_, rfl⟩
            have rM := min_run (n' : Int) 100 (M' : Int) (by omega)
            have sM := slice_toC A' n' c' M' (by have := hC.le; omega)
            have hn9' : n' ≤ 9223372036854775807 := by have := hC.le; have := hC.cap; unfold maxLen at *; omega
            have hM1 : M' ≤ n' ∧ M' ≤ 100 := by omega
            have HL := Lib.hid (hC.upto hM1.1)
            obtain ⟨ds, hds⟩ : ∃ ds, ds = ts.take M' := ⟨_, rfl⟩
            rw [← hds] at HL
            obtain ⟨V, hV, hbV, hqV⟩ := act_new wr what pos nn A' M' c'
            have HS := Lib.hid (show SP w V p t m r t (fun b => b = wr.heap.size) from (hS.more hbV).less (fun b hb => Or.inr (by subst hb; exact ⟨Nat.le_refl _, lt_of_block hqV⟩)))
            have HQ := Lib.hid hqV
            have HV := Lib.hid hV
            have hmb : m ≤ 6300 := by omega
            clear ht hC hS hM' hV hbV hqV hds
            go_upto_block 4 with fail
            rw [← HV.out]
            go_cut [6, 7] (fun P R wx => ∃ (p m r : Nat) (t : Tab), P = .pointer (some ⟨p, 0, none⟩) ∧ R = .pointer (some ⟨r, 0, none⟩) ∧ m ≤ 300 + 100 * (j + 1) ∧ SP w wx p t m r t Nk)
            case first =>
              clear x0 x1' x2 x3 rM sM
              have d0 := cell0 HQ.out
              have d1 := cell1 HQ.out
              have d2 := cell2 HQ.out
              have d3 := cell3 HQ.out
              by_cases k0 : what = 0
              · as_aux_lemma =>
                  subst k0
                  have HX := Lib.hid (own_any A' M' c' ds V ((HL.out.below HS.out.bel (Nat.le_refl _)).more HS.out.bel.size) (by omega))
                  unfold RetC at HX
                  rw [HL.out.len] at HX
                  have HOK := Lib.hid (show t.Ok m by obtain ⟨F, h⟩ := HS.out.tb; exact h.ok)
                  go_wp2_with fail
                  refine HX.out.mono ?_
                  rintro e w2 ⟨A11, c11, rfl, hO, hb⟩
                  have HS2 := Lib.hid (show SP w w2 p t m r t (KX wr.heap.size (.slice A11 M' c11)) from (HS.out.more hb).less (fun b hb' => hb'.elim (fun h => Or.inl h) (fun h => Or.inr ⟨(hO.lt b h).1, (hO.lt b h).2⟩)))
                  have hQ2 := below_old hb HQ.out (lt_of_block HQ.out)
                  have HO := Lib.hid hO
                  obtain ⟨E, hE⟩ : ∃ E, E = Pl.reachE t.L.length pos 0 := ⟨_, rfl⟩
                  obtain ⟨t', ht'⟩ : ∃ t', t' = Pl.insT t pos ds := ⟨_, rfl⟩
                  have HBX' := Lib.hid (show ∀ L w1, PI w w2 4 10 p m r t (m + M') t' (KX wr.heap.size (.slice A11 M' c11)) L w1 → w1.cell? ⟨wr.heap.size, 1, none⟩ = some (.int .i64 pos) ∧ w1.cell? ⟨wr.heap.size, 2, none⟩ = some (.int .i64 nn) ∧ w1.cell? ⟨wr.heap.size, 3, none⟩ = some (.slice A' M' c') from fun L w1 h => by
                    have h1 := (h.1 wr.heap.size (Or.inl rfl)).trans hQ2
                    exact ⟨cell1 h1, cell2 h1, cell3 h1⟩)
                  have HC1' := Lib.hid (show ∀ L w1, L 4 = false → PI w w2 4 10 p m r t (m + M') t' (KX wr.heap.size (.slice A11 M' c11)) L w1 → Calls Try.prog 13 #[.pointer (some ⟨p, 0, none⟩), .int .i64 pos, .slice A11 M' c11] w1 fun e w' => e = .returned (.int .i64 E) ∧ SP w w' p t' (m + M') r t (KX wr.heap.size (.slice A11 M' c11)) ∧ ∀ b, KX wr.heap.size (.slice A11 M' c11) b → w'.heap[b]? = w1.heap[b]? from fun L w1 hL h => by
                    have hO1 : OwnC w1 V.heap.size (.slice A11 M' c11) ds := HO.out.same (fun g _ _ hg => h.1 g (Or.inr hg))
                    rw [hE, ht']
                    exact (h.2.2.1 hL).did (fun F hF => ins_tb hF pos hI1 A11 M' c11 ds hO1.crs.2 (by omega)))
                  have HC2' := Lib.hid (show ∀ L w1, L 4 = true → L 10 = false → PI w w2 4 10 p m r t (m + M') t' (KX wr.heap.size (.slice A11 M' c11)) L w1 → Calls Try.prog 14 #[.pointer (some ⟨r, 0, none⟩), .int .i64 pos, .slice A' M' c'] w1 fun e w' => e = .returned (.int .i64 E) ∧ SP w w' p t' (m + M') r t' (KX wr.heap.size (.slice A11 M' c11)) ∧ ∀ b, KX wr.heap.size (.slice A11 M' c11) b → w'.heap[b]? = w1.heap[b]? from fun L w1 hL1 hL2 h => by
                    have hS1 := h.2.2.2.1 hL1 hL2
                    have := hS1.refins HOK.out pos A' M' c' ds ((HL.out.below hS1.bel (Nat.le_refl _)).more hS1.bel.size) (fun a ha h0 => by
                      obtain ⟨g', o', e', hg', _⟩ := HL.out.at_ (i := 0) h0
                      rw [ha] at e'
                      cases e'
                      exact hg') (by omega)
                    rwa [← hE, ← ht'] at this)
                  clear hO hb hQ2 hE ht' HX d0 d1 d2 d3
                  go_wp2_with fail
                  have HBX := HBX'.out
                  have HC1 := HC1'.out
                  have HC2 := HC2'.out
                  refine Rq.wp_region_inv (PI w w2 4 10 p m r t (m + M') t' (KX wr.heap.size (.slice A11 M' c11))) PR0 (Rq.Wd.at [.is (.pointer (some ⟨p, 0, none⟩)), .is (.pointer (some ⟨wr.heap.size, 1, none⟩)), .is (.int .i64 pos), .is (.slice A11 M' c11), .is (.int .i64 E), .is (.pointer (some ⟨r, 0, none⟩)), .is (.pointer (some ⟨wr.heap.size, 1, none⟩)), .is (.int .i64 pos), .is (.pointer (some ⟨wr.heap.size, 3, none⟩)), .is (.slice A' M' c'), .is (.int .i64 E), .is (.bool false)]) (by kernel_rfl) (by kernel_rfl) (Rq.Wd.stays _ _ (fun i q hi => (by rcases i with _ | _ | _ | _ | _ | _ | _ | _ | _ | _ | _ | _ | i <;> simp at hi))) (PI.begin HS2.out) ⟨?_, ?_, ?_, ?_, ?_, ?_, ?_, ?_, ?_, ?_, ?_, ?_, trivial⟩ ?_
                  · intro L a w1 hL hS hb hd
                    have e6 := hb 6 (Rq.nw (by decide))
                    simp [Act.eval] at e6
                    exact Rq.does_pure (Rq.wanted_none rfl) (by simp [execOp, e6, go_sem]) rfl (hS.stay (by decide) (by decide)) trivial
                  · intro L a w1 hL hS hb hd
                    have e10 := hb 10 (Rq.nw (by decide))
                    simp [Act.eval] at e10
                    exact Rq.does_pure (Rq.wanted_none rfl) (by simp [execOp, e10, go_sem]) rfl (hS.stay (by decide) (by decide)) trivial
                  · intro L a w1 hL hS hb hd
                    have p67 := (hd ⟨1, .data⟩ (by simp) rfl).2 _ _ rfl rfl
                    have e67 : a.tmps[67]?.getD undef = (.pointer (some ⟨wr.heap.size, 1, none⟩)) := Rq.slot p67
                    exact Rq.does_pure (Rq.wanted_none rfl) (by simp [execOp, e67, (HBX L w1 hS).1, go_sem]) rfl (hS.stay (by decide) (by decide)) trivial
                  · intro L a w1 hL hS hb hd
                    have e11 := hb 11 (Rq.nw (by decide))
                    simp [Act.eval] at e11
                    exact Rq.does_pure (Rq.wanted_none rfl) (by simp [execOp, e11, go_sem]) rfl (hS.stay (by decide) (by decide)) trivial
                  · intro L a w1 hL hS hb hd
                    have p66 := (hd ⟨0, .data⟩ (by simp) rfl).2 _ _ rfl rfl
                    have e66 : a.tmps[66]?.getD undef = (.pointer (some ⟨p, 0, none⟩)) := Rq.slot p66
                    have p68 := (hd ⟨2, .data⟩ (by simp) rfl).2 _ _ rfl rfl
                    have e68 : a.tmps[68]?.getD undef = (.int .i64 pos) := Rq.slot p68
                    have p69 := (hd ⟨3, .data⟩ (by simp) rfl).2 _ _ rfl rfl
                    have e69 : a.tmps[69]?.getD undef = (.slice A11 M' c11) := Rq.slot p69
                    refine Rq.does_call (f := 13) (args := #[.pointer (some ⟨p, 0, none⟩), .int .i64 pos, .slice A11 M' c11]) (Rq.wanted_none rfl) (by simp [e66, e68, e69, go_sem]) ?_
                    exact (HC1 L w1 hL hS).mono fun e w3 ⟨h0, h1, h2⟩ => ⟨_, h0, rfl, hS.first (by decide) hL h1 h2, trivial⟩
                  · intro L a w1 hL hS hb hd
                    have e7 := hb 7 (Rq.nw (by decide))
                    simp [Act.eval] at e7
                    exact Rq.does_pure (Rq.wanted_none rfl) (by simp [execOp, e7, go_sem]) rfl (hS.stay (by decide) (by decide)) trivial
                  · intro L a w1 hL hS hb hd
                    have e10 := hb 10 (Rq.nw (by decide))
                    simp [Act.eval] at e10
                    exact Rq.does_pure (Rq.wanted_none rfl) (by simp [execOp, e10, go_sem]) rfl (hS.stay (by decide) (by decide)) trivial
                  · intro L a w1 hL hS hb hd
                    have p72 := (hd ⟨6, .data⟩ (by simp) rfl).2 _ _ rfl rfl
                    have e72 : a.tmps[72]?.getD undef = (.pointer (some ⟨wr.heap.size, 1, none⟩)) := Rq.slot p72
                    exact Rq.does_pure (Rq.wanted_none rfl) (by simp [execOp, e72, (HBX L w1 hS).1, go_sem]) rfl (hS.stay (by decide) (by decide)) trivial
                  · intro L a w1 hL hS hb hd
                    have e10 := hb 10 (Rq.nw (by decide))
                    simp [Act.eval] at e10
                    exact Rq.does_pure (Rq.wanted_none rfl) (by simp [execOp, e10, go_sem]) rfl (hS.stay (by decide) (by decide)) trivial
                  · intro L a w1 hL hS hb hd
                    have p74 := (hd ⟨8, .data⟩ (by simp) rfl).2 _ _ rfl rfl
                    have e74 : a.tmps[74]?.getD undef = (.pointer (some ⟨wr.heap.size, 3, none⟩)) := Rq.slot p74
                    exact Rq.does_pure (Rq.wanted_none rfl) (by simp [execOp, e74, (HBX L w1 hS).2.2, go_sem]) rfl (hS.stay (by decide) (by decide)) trivial
                  · intro L a w1 hL hS hb hd
                    have p71 := (hd ⟨5, .data⟩ (by simp) rfl).2 _ _ rfl rfl
                    have e71 : a.tmps[71]?.getD undef = (.pointer (some ⟨r, 0, none⟩)) := Rq.slot p71
                    have p73 := (hd ⟨7, .data⟩ (by simp) rfl).2 _ _ rfl rfl
                    have e73 : a.tmps[73]?.getD undef = (.int .i64 pos) := Rq.slot p73
                    have p75 := (hd ⟨9, .data⟩ (by simp) rfl).2 _ _ rfl rfl
                    have e75 : a.tmps[75]?.getD undef = (.slice A' M' c') := Rq.slot p75
                    refine Rq.does_call (f := 14) (args := #[.pointer (some ⟨r, 0, none⟩), .int .i64 pos, .slice A' M' c']) (Rq.wanted_none rfl) (by simp [e71, e73, e75, go_sem]) ?_
                    exact (HC2 L w1 (hd ⟨4, .chain⟩ (by simp) rfl).1 hL hS).mono fun e w3 ⟨h0, h1, h2⟩ => ⟨_, h0, rfl, hS.second (by decide) (hd ⟨4, .chain⟩ (by simp) rfl).1 h1 h2, trivial⟩
                  · intro L a w1 hL hS hb hd
                    have p70 := (hd ⟨4, .data⟩ (by simp) rfl).2 _ _ rfl rfl
                    have e70 : a.tmps[70]?.getD undef = (.int .i64 E) := Rq.slot p70
                    have p76 := (hd ⟨10, .data⟩ (by simp) rfl).2 _ _ rfl rfl
                    have e76 : a.tmps[76]?.getD undef = (.int .i64 E) := Rq.slot p76
                    exact Rq.does_pure (Rq.wanted_none rfl) (by simp [execOp, e70, e76, go_sem]) rfl (hS.stay (by decide) (by decide)) trivial
                  intro L v w3 hS hall hv
                  have h77 : v 11 = .bool false := hv 11 _ _ rfl rfl
                  have HS3 := Lib.hid (hS.2.2.2.2 (hall 4 (by decide)) (hall 10 (by decide)))
                  have HO3 := Lib.hid (show OwnC w3 V.heap.size (.slice A11 M' c11) ds from HO.out.same (fun g _ _ hg => hS.1 g (Or.inr hg)))
                  simp only [Rq.putAll, Nat.zero_add, Nat.reduceAdd]
                  simp only [Act.put, List.setIfInBounds_toArray, List.set_cons_succ, List.set_cons_zero]
                  rw [h77]
                  clear h77 hS hall hv HBX HC1 HC2 HBX' HC1' HC2' HS2 HO HS
                  go_wp2_with fail
                  go_loopw [80] (fun i wr => IRel w3 V.heap.size (.slice A11 M' c11) M' i wr) (fun i _ => M' - (intOf i).toNat)
                  case atStart => exact ⟨0, _, rfl, Nat.zero_le _, HO3.out, Tn.refl _ _⟩
                  case round =>
                    obtain ⟨j9, cs9, rfl, hj9, hO9, ht9⟩ := hrel
                    have HT9 := Lib.hid ht9
                    by_cases hlt9 : j9 < M'
                    · obtain ⟨g9, hA9, hg9⟩ := hO9.pos_ (by omega)
                      subst hA9
                      obtain ⟨g8, o8, e8, _, hc9⟩ := hO9.crs.2.at_ hlt9
                      injection e8 with e8
                      injection e8 with e81 e82 _
                      subst e81 e82
                      have x9 := hc9 j9 hlt9
                      rw [Nat.zero_add] at x9
                      have h9o := hO9.1
                      rw [← hO9.crs.1] at h9o
                      have f9 := World.ownsRow.frozenAt h9o j9
                      have hz9 : (0 : Int) ≤ (j9 : Int) := by omega
                      have hz8 : (j9 : Int) < (M' : Int) := by omega
                      obtain ⟨z9, hz9'⟩ : ∃ z, z = cs9.getD j9 0 := ⟨_, rfl⟩
                      rw [← hz9'] at x9
                      have HO9 := Lib.hid (hO9.set_ j9 (wrap32 (z9 + 1)) (wrapJ _)).1
                      clear hO9 ht9 hc9 hz9' h9o
                      go_wp2_with fail
                      go_roundw
                      case rel => exact ⟨j9 + 1, _, by go_num, hlt9, HO9.out, Tn.set_ HT9.out (p := ⟨_, j9, none⟩) (Or.inr rfl) _⟩
                      case measure => simp [intOf]; omega
                    · have hjm : j9 = M' := by omega
                      have HS4 := Lib.hid (show SP w wr p t' (m + M') r t' Nk from (HS3.out.turn ht9 (fun b hb => Or.inr hb)).less (fun b hb => hb.elim))
                      clear hO9 ht9 HT9 HS3 HO3 hjm
                      go_wp2_with fail
                      go_meet
                      exact ⟨p, m + M', r, t', rfl, rfl, by omega, HS4.out⟩
              · have hk0 : (what == 0) = false := by rw [beq_eq_false_iff_ne]; exact k0
                by_cases k1 : what = 1
                · as_aux_lemma =>
                    subst k1
                    have HOK := Lib.hid (show t.Ok m by obtain ⟨F, h⟩ := HS.out.tb; exact h.ok)
                    have HS2 := Lib.hid (show SP w V p t m r t (KB wr.heap.size) from HS.out)
                    have hQ2 := HQ.out
                    obtain ⟨E, hE⟩ : ∃ E, E = Pl.reachE t.L.length pos nn := ⟨_, rfl⟩
                    obtain ⟨t', ht'⟩ : ∃ t', t' = Pl.delT t pos nn := ⟨_, rfl⟩
                    have HBX' := Lib.hid (show ∀ L w1, PI w V 5 11 p m r t m t' (KB wr.heap.size) L w1 → w1.cell? ⟨wr.heap.size, 1, none⟩ = some (.int .i64 pos) ∧ w1.cell? ⟨wr.heap.size, 2, none⟩ = some (.int .i64 nn) ∧ w1.cell? ⟨wr.heap.size, 3, none⟩ = some (.slice A' M' c') from fun L w1 h => by
                      have h1 := (h.1 wr.heap.size rfl).trans hQ2
                      exact ⟨cell1 h1, cell2 h1, cell3 h1⟩)
                    have HC1' := Lib.hid (show ∀ L w1, L 5 = false → PI w V 5 11 p m r t m t' (KB wr.heap.size) L w1 → Calls Try.prog 15 #[.pointer (some ⟨p, 0, none⟩), .int .i64 pos, .int .i64 nn] w1 fun e w' => e = .returned (.int .i64 E) ∧ SP w w' p t' m r t (KB wr.heap.size) ∧ ∀ b, KB wr.heap.size b → w'.heap[b]? = w1.heap[b]? from fun L w1 hL h => by
                      rw [hE, ht']
                      exact (h.2.2.1 hL).did (fun F hF => del_tb hF pos nn hI1))
                    have HC2' := Lib.hid (show ∀ L w1, L 5 = true → L 11 = false → PI w V 5 11 p m r t m t' (KB wr.heap.size) L w1 → Calls Try.prog 16 #[.pointer (some ⟨r, 0, none⟩), .int .i64 pos, .int .i64 nn] w1 fun e w' => e = .returned (.int .i64 E) ∧ SP w w' p t' m r t' (KB wr.heap.size) ∧ ∀ b, KB wr.heap.size b → w'.heap[b]? = w1.heap[b]? from fun L w1 hL1 hL2 h => by
                      have := (h.2.2.2.1 hL1 hL2).refdel HOK.out pos nn (by omega)
                      rwa [← hE, ← ht'] at this)
                    clear hQ2 hE ht' d1 d2 d3 HS
                    go_wp2_with fail
                    have HBX := HBX'.out
                    have HC1 := HC1'.out
                    have HC2 := HC2'.out
                    refine Rq.wp_region_inv (PI w V 5 11 p m r t m t' (KB wr.heap.size)) PR0 (Rq.Wd.at [.is (.pointer (some ⟨p, 0, none⟩)), .is (.pointer (some ⟨wr.heap.size, 1, none⟩)), .is (.int .i64 pos), .is (.pointer (some ⟨wr.heap.size, 2, none⟩)), .is (.int .i64 nn), .is (.int .i64 E), .is (.pointer (some ⟨r, 0, none⟩)), .is (.pointer (some ⟨wr.heap.size, 1, none⟩)), .is (.int .i64 pos), .is (.pointer (some ⟨wr.heap.size, 2, none⟩)), .is (.int .i64 nn), .is (.int .i64 E), .is (.bool false)]) (by kernel_rfl) (by kernel_rfl) (Rq.Wd.stays _ _ (fun i q hi => (by rcases i with _ | _ | _ | _ | _ | _ | _ | _ | _ | _ | _ | _ | _ | i <;> simp at hi))) (PI.begin HS2.out) ⟨?_, ?_, ?_, ?_, ?_, ?_, ?_, ?_, ?_, ?_, ?_, ?_, ?_, trivial⟩ ?_
                    · intro L a w1 hL hS hb hd
                      have e6 := hb 6 (Rq.nw (by decide))
                      simp [Act.eval] at e6
                      exact Rq.does_pure (Rq.wanted_none rfl) (by simp [execOp, e6, go_sem]) rfl (hS.stay (by decide) (by decide)) trivial
                    · intro L a w1 hL hS hb hd
                      have e10 := hb 10 (Rq.nw (by decide))
                      simp [Act.eval] at e10
                      exact Rq.does_pure (Rq.wanted_none rfl) (by simp [execOp, e10, go_sem]) rfl (hS.stay (by decide) (by decide)) trivial
                    · intro L a w1 hL hS hb hd
                      have p93 := (hd ⟨1, .data⟩ (by simp) rfl).2 _ _ rfl rfl
                      have e93 : a.tmps[93]?.getD undef = (.pointer (some ⟨wr.heap.size, 1, none⟩)) := Rq.slot p93
                      exact Rq.does_pure (Rq.wanted_none rfl) (by simp [execOp, e93, (HBX L w1 hS).1, go_sem]) rfl (hS.stay (by decide) (by decide)) trivial
                    · intro L a w1 hL hS hb hd
                      have e10 := hb 10 (Rq.nw (by decide))
                      simp [Act.eval] at e10
                      exact Rq.does_pure (Rq.wanted_none rfl) (by simp [execOp, e10, go_sem]) rfl (hS.stay (by decide) (by decide)) trivial
                    · intro L a w1 hL hS hb hd
                      have p95 := (hd ⟨3, .data⟩ (by simp) rfl).2 _ _ rfl rfl
                      have e95 : a.tmps[95]?.getD undef = (.pointer (some ⟨wr.heap.size, 2, none⟩)) := Rq.slot p95
                      exact Rq.does_pure (Rq.wanted_none rfl) (by simp [execOp, e95, (HBX L w1 hS).2.1, go_sem]) rfl (hS.stay (by decide) (by decide)) trivial
                    · intro L a w1 hL hS hb hd
                      have p92 := (hd ⟨0, .data⟩ (by simp) rfl).2 _ _ rfl rfl
                      have e92 : a.tmps[92]?.getD undef = (.pointer (some ⟨p, 0, none⟩)) := Rq.slot p92
                      have p94 := (hd ⟨2, .data⟩ (by simp) rfl).2 _ _ rfl rfl
                      have e94 : a.tmps[94]?.getD undef = (.int .i64 pos) := Rq.slot p94
                      have p96 := (hd ⟨4, .data⟩ (by simp) rfl).2 _ _ rfl rfl
                      have e96 : a.tmps[96]?.getD undef = (.int .i64 nn) := Rq.slot p96
                      refine Rq.does_call (f := 15) (args := #[.pointer (some ⟨p, 0, none⟩), .int .i64 pos, .int .i64 nn]) (Rq.wanted_none rfl) (by simp [e92, e94, e96, go_sem]) ?_
                      exact (HC1 L w1 hL hS).mono fun e w3 ⟨h0, h1, h2⟩ => ⟨_, h0, rfl, hS.first (by decide) hL h1 h2, trivial⟩
                    · intro L a w1 hL hS hb hd
                      have e7 := hb 7 (Rq.nw (by decide))
                      simp [Act.eval] at e7
                      exact Rq.does_pure (Rq.wanted_none rfl) (by simp [execOp, e7, go_sem]) rfl (hS.stay (by decide) (by decide)) trivial
                    · intro L a w1 hL hS hb hd
                      have e10 := hb 10 (Rq.nw (by decide))
                      simp [Act.eval] at e10
                      exact Rq.does_pure (Rq.wanted_none rfl) (by simp [execOp, e10, go_sem]) rfl (hS.stay (by decide) (by decide)) trivial
                    · intro L a w1 hL hS hb hd
                      have p99 := (hd ⟨7, .data⟩ (by simp) rfl).2 _ _ rfl rfl
                      have e99 : a.tmps[99]?.getD undef = (.pointer (some ⟨wr.heap.size, 1, none⟩)) := Rq.slot p99
                      exact Rq.does_pure (Rq.wanted_none rfl) (by simp [execOp, e99, (HBX L w1 hS).1, go_sem]) rfl (hS.stay (by decide) (by decide)) trivial
                    · intro L a w1 hL hS hb hd
                      have e10 := hb 10 (Rq.nw (by decide))
                      simp [Act.eval] at e10
                      exact Rq.does_pure (Rq.wanted_none rfl) (by simp [execOp, e10, go_sem]) rfl (hS.stay (by decide) (by decide)) trivial
                    · intro L a w1 hL hS hb hd
                      have p101 := (hd ⟨9, .data⟩ (by simp) rfl).2 _ _ rfl rfl
                      have e101 : a.tmps[101]?.getD undef = (.pointer (some ⟨wr.heap.size, 2, none⟩)) := Rq.slot p101
                      exact Rq.does_pure (Rq.wanted_none rfl) (by simp [execOp, e101, (HBX L w1 hS).2.1, go_sem]) rfl (hS.stay (by decide) (by decide)) trivial
                    · intro L a w1 hL hS hb hd
                      have p98 := (hd ⟨6, .data⟩ (by simp) rfl).2 _ _ rfl rfl
                      have e98 : a.tmps[98]?.getD undef = (.pointer (some ⟨r, 0, none⟩)) := Rq.slot p98
                      have p100 := (hd ⟨8, .data⟩ (by simp) rfl).2 _ _ rfl rfl
                      have e100 : a.tmps[100]?.getD undef = (.int .i64 pos) := Rq.slot p100
                      have p102 := (hd ⟨10, .data⟩ (by simp) rfl).2 _ _ rfl rfl
                      have e102 : a.tmps[102]?.getD undef = (.int .i64 nn) := Rq.slot p102
                      refine Rq.does_call (f := 16) (args := #[.pointer (some ⟨r, 0, none⟩), .int .i64 pos, .int .i64 nn]) (Rq.wanted_none rfl) (by simp [e98, e100, e102, go_sem]) ?_
                      exact (HC2 L w1 (hd ⟨5, .chain⟩ (by simp) rfl).1 hL hS).mono fun e w3 ⟨h0, h1, h2⟩ => ⟨_, h0, rfl, hS.second (by decide) (hd ⟨5, .chain⟩ (by simp) rfl).1 h1 h2, trivial⟩
                    · intro L a w1 hL hS hb hd
                      have p97 := (hd ⟨5, .data⟩ (by simp) rfl).2 _ _ rfl rfl
                      have e97 : a.tmps[97]?.getD undef = (.int .i64 E) := Rq.slot p97
                      have p103 := (hd ⟨11, .data⟩ (by simp) rfl).2 _ _ rfl rfl
                      have e103 : a.tmps[103]?.getD undef = (.int .i64 E) := Rq.slot p103
                      exact Rq.does_pure (Rq.wanted_none rfl) (by simp [execOp, e97, e103, go_sem]) rfl (hS.stay (by decide) (by decide)) trivial
                    intro L v w3 hS hall hv
                    have h104 : v 12 = .bool false := hv 12 _ _ rfl rfl
                    have HS3 := Lib.hid ((hS.2.2.2.2 (hall 5 (by decide)) (hall 11 (by decide))).less (K' := Nk) (fun b hb => hb.elim))
                    simp only [Rq.putAll, Nat.zero_add, Nat.reduceAdd]
                    simp only [Act.put, List.setIfInBounds_toArray, List.set_cons_succ, List.set_cons_zero]
                    rw [h104]
                    clear h104 hS hall hv HBX HC1 HC2 HBX' HC1' HC2' HS2 d0
                    go_wp2_with fail
                    go_meet
                    exact ⟨p, m, r, t', rfl, rfl, by omega, HS3.out⟩
                · have hk1 : (what == 1) = false := by rw [beq_eq_false_iff_ne]; exact k1
                  by_cases k2 : what = 2
                  · as_aux_lemma =>
                      subst k2
                      have HOK := Lib.hid (show t.Ok m by obtain ⟨F, h⟩ := HS.out.tb; exact h.ok)
                      obtain ⟨E, hE⟩ : ∃ E, E = Pl.reachE t.L.length pos nn := ⟨_, rfl⟩
                      obtain ⟨tr, htr⟩ : ∃ tr, tr = Pl.readT t pos nn := ⟨_, rfl⟩
                      have HX := Lib.hid (show Calls Try.prog 17 #[.pointer (some ⟨p, 0, none⟩), .int .i64 pos, .int .i64 nn] V (RetRead V tr E) by
                        obtain ⟨F, h⟩ := HS.out.tb
                        rw [hE, htr]; exact read_tb h pos nn hI1)
                      have HY := Lib.hid (show ∀ w1, Below V.heap.size V w1 → Calls Try.prog 18 #[.pointer (some ⟨r, 0, none⟩), .int .i64 pos, .int .i64 nn] w1 (RetRead w1 tr E) from fun w1 hb => by
                        rw [hE, htr]; exact (HS.out.then_ hb).refread HOK.out pos nn (by omega))
                      unfold RetRead at HX HY
                      obtain ⟨TL, hTL⟩ : ∃ TL, TL = tr.length := ⟨_, rfl⟩
                      rw [← hTL] at HX HY
                      have htlb : TL ≤ 1000000 := by
                        rw [hTL, htr]
                        unfold Pl.readT
                        split
                        · have h1 := Pl.len_text t
                          have h2 := HOK.out.len
                          simp only [List.length_take, List.length_drop]
                          omega
                        · simp
                      clear hE htr hTL
                      go_wp2_with fail
                      refine HX.out.mono ?_
                      rintro e w2 ⟨A13, c13, rfl, hO, hb⟩
                      have HS2 := Lib.hid (show SP w w2 p t m r t (fun b => Value.ownBlock (.slice A13 TL c13) = some b) from (HS.out.more hb).less (fun b hb' => Or.inr ⟨(hO.lt b hb').1, (hO.lt b hb').2⟩))
                      have HO := Lib.hid hO
                      have HY2 := Lib.hid (HY.out w2 hb)
                      have hq2 := below_old hb HQ.out (lt_of_block HQ.out)
                      have e1 := cell1 hq2
                      have e2 := cell2 hq2
                      clear hO hb HX HY d0 d1 d2 d3 HS hq2
                      go_wp2_with fail
                      refine HY2.out.mono ?_
                      rintro e w3 ⟨A15, c15, rfl, hO15, hb3⟩
                      have HS3 := Lib.hid (HS2.out.then_ hb3)
                      have HO3 := Lib.hid (OwnC.then_ HO.out hb3)
                      have HM := Lib.hid (same_any A13 A15 TL c13 TL c15 tr tr w3 HO3.out.crs.2 hO15.crs.2)
                      rw [decide_eq_true rfl] at HM
                      have hEE : (E != E) = false := by simp
                      clear hO15 hb3 HY2 HS2 HO e1 e2
                      go_wp2_with fail
                      refine HM.out.mono ?_
                      rintro e w4 ⟨rfl, hb4⟩
                      have HS4 := Lib.hid (HS3.out.then_ hb4)
                      have HO4 := Lib.hid (OwnC.then_ HO3.out hb4)
                      clear hb4 HS3 HO3 HM
                      go_wp2_with fail
                      go_loopw [136] (fun i wr => IRel w4 V.heap.size (.slice A13 TL c13) TL i wr) (fun i _ => TL - (intOf i).toNat)
                      case atStart => exact ⟨0, _, rfl, Nat.zero_le _, HO4.out, Tn.refl _ _⟩
                      case round =>
                        obtain ⟨j9, cs9, rfl, hj9, hO9, ht9⟩ := hrel
                        have HT9 := Lib.hid ht9
                        by_cases hlt9 : j9 < TL
                        · obtain ⟨g9, hA9, hg9⟩ := hO9.pos_ (by omega)
                          subst hA9
                          obtain ⟨g8, o8, e8, _, hc9⟩ := hO9.crs.2.at_ hlt9
                          injection e8 with e8
                          injection e8 with e81 e82 _
                          subst e81 e82
                          have x9 := hc9 j9 hlt9
                          rw [Nat.zero_add] at x9
                          have h9o := hO9.1
                          rw [← hO9.crs.1] at h9o
                          have f9 := World.ownsRow.frozenAt h9o j9
                          have hz9 : (0 : Int) ≤ (j9 : Int) := by omega
                          have hz8 : (j9 : Int) < (TL : Int) := by omega
                          obtain ⟨z9, hz9'⟩ : ∃ z, z = cs9.getD j9 0 := ⟨_, rfl⟩
                          rw [← hz9'] at x9
                          have HO9 := Lib.hid (hO9.set_ j9 (wrap32 (z9 + 1)) (wrapJ _)).1
                          clear hO9 ht9 hc9 hz9' h9o
                          go_wp2_with fail
                          go_roundw
                          case rel => exact ⟨j9 + 1, _, by go_num, hlt9, HO9.out, Tn.set_ HT9.out (p := ⟨_, j9, none⟩) (Or.inr rfl) _⟩
                          case measure => simp [intOf]; omega
                        · have hjm : j9 = TL := by omega
                          have HS5 := Lib.hid (show SP w wr p t m r t Nk from (HS4.out.turn ht9 (fun b hb => hb)).less (fun b hb => hb.elim))
                          clear hO9 ht9 HT9 HS4 HO4 hjm
                          go_wp2_with fail
                          go_meet
                          exact ⟨p, m, r, t, rfl, rfl, by omega, HS5.out⟩
                  · have hk2 : (what == 2) = false := by rw [beq_eq_false_iff_ne]; exact k2
                    by_cases k3 : what = 3
                    · as_aux_lemma =>
                        subst k3
                        have HF := Lib.hid (HS.out.did (fun F hF => flat_tb hF))
                        clear d0 d1 d2 d3
                        go_wp2_with fail
                        refine HF.out.mono ?_
                        rintro e w2 ⟨rfl, hS2, _⟩
                        obtain ⟨F2, hT2⟩ := hS2.tb
                        have HOK := Lib.hid (show t.Ok m by obtain ⟨F, h⟩ := HS.out.tb; exact h.ok)
                        have HS2 := Lib.hid hS2
                        have HX := Lib.hid (hS2.reftext HOK.out (by omega))
                        unfold RetC at HX
                        clear hS2 hT2 HF HS
                        go_wp2_with fail
                        refine HX.out.mono ?_
                        rintro e w3 ⟨A3, c3, rfl, hO3, hb3⟩
                        have HS3 := Lib.hid (HS2.out.then_ hb3)
                        have HN := Lib.hid (new_ref A3 t.text.length c3 t.text w3 hO3.crs.2 (by rw [Pl.len_text]; have := HOK.out.len; omega))
                        clear hO3 hb3 HX
                        go_wp2_with fail
                        refine HN.out.mono ?_
                        rintro e w4 ⟨r4, A4, c4, rfl, hR4, hb4⟩
                        have HS4 := Lib.hid (show SP w w4 p (Pl.fresh t.text) m r4 (Pl.fresh t.text) Nk from (SP.renew HS3.out hb4 hR4 (by rw [Pl.fresh_text]; exact HS2.out.js)).less (fun b hb => hb.elim))
                        clear hR4 hb4 HN
                        go_wp2_with fail
                        go_meet
                        exact ⟨p, m, r4, _, rfl, rfl, by omega, HS4.out⟩
                    · have hk3 : (what == 3) = false := by rw [beq_eq_false_iff_ne]; exact k3
                      by_cases k4 : what = 4
                      · as_aux_lemma =>
                          subst k4
                          have hSP := HS.out
                          unfold SP at hSP
                          obtain ⟨s1, s2, s3, F, Aq, nq', cq, s4, s5, s6, s7, s8, s9⟩ := hSP
                          have HC := Lib.hid (copy_tb s4)
                          have HP := Lib.hid (And.intro s1 (And.intro s2 (And.intro s4 (And.intro s5 (And.intro s6 (And.intro s7 s8))))))
                          clear s1 s2 s3 s4 s5 s6 s7 s8 s9 HS d0 d1 d2 d3
                          go_wp2_with fail
                          refine HC.out.mono ?_
                          rintro e w2 ⟨q, F2, rfl, hT2, hF2, hb2⟩
                          have HS2 := Lib.hid (show SP w w2 q t m r t F from SP.copied HP.out.1 HP.out.2.1 HP.out.2.2.1 HP.out.2.2.2.1 HP.out.2.2.2.2.1 HP.out.2.2.2.2.2.1 HP.out.2.2.2.2.2.2 hT2 hF2 hb2)
                          have HT2 := Lib.hid (HP.out.2.2.1.then_ hb2)
                          clear hT2 hF2 hb2 HC HP
                          go_wp2_with fail
                          refine (chars_lit ⟨#[122, 122]⟩ [122, 122] 2 (by decide) rfl (by decide) _).mono ?_
                          rintro e w3 ⟨A3, c3, rfl, hO3, hb3⟩
                          have HS3 := Lib.hid (HS2.out.then_ hb3)
                          have HI := Lib.hid (ins_tb (HT2.out.then_ hb3) 0 (Pl.I.mk (by omega)) A3 2 c3 [122, 122] hO3.crs.2 (by omega))
                          clear hO3 hb3 HS2 HT2
                          go_wp2_with fail
                          refine HI.out.mono ?_
                          rintro e w4 ⟨rfl, F4, hT4, htn4, hsub4, _⟩
                          have HS4 := Lib.hid (HS3.out.turn htn4 (fun b hb => hb))
                          have HF4 := Lib.hid (And.intro hsub4 hT4.lt)
                          have HD := Lib.hid (del_tb hT4 0 1 (Pl.I.mk (by omega)))
                          clear hT4 htn4 hsub4 HI HS3
                          go_wp2_with fail
                          refine HD.out.mono ?_
                          rintro e w5 ⟨rfl, F5, hT5, htn5, _, _⟩
                          have HS5 := Lib.hid (show SP w w5 q t m r t Nk from (HS4.out.turn htn5 (fun b hb => (HF4.out.1 b hb).elim Or.inl (fun h => Or.inr ⟨h, HF4.out.2 b hb⟩))).less (fun b hb => hb.elim))
                          clear hT5 htn5 HD HS4 HF4
                          go_wp2_with fail
                          go_meet
                          exact ⟨q, m, r, t, rfl, rfl, by omega, HS5.out⟩
                      · have hk4 : (what == 4) = false := by rw [beq_eq_false_iff_ne]; exact k4
                        have HS9 := Lib.hid (HS.out.less (K' := Nk) (fun b hb => hb.elim))
                        clear HS
                        go_wp2_with fail
                        go_meet
                        exact ⟨p, m, r, t, rfl, rfl, by omega, HS9.out⟩
            case rest =>
              obtain ⟨p, m, r, t, rfl, rfl, hmm, hS9⟩ := hcut
              clear HS HQ HL x0 x1' x2 x3 rM sM
              as_aux_lemma =>
                have HS9 := Lib.hid hS9
                have HOK := Lib.hid (show t.Ok m by obtain ⟨F, h⟩ := hS9.tb; exact h.ok)
                obtain ⟨AR, cR, hcell⟩ := hS9.reflen
                obtain ⟨TL, hTL⟩ : ∃ TL, TL = t.L.length := ⟨_, rfl⟩
                obtain ⟨tx, htx⟩ : ∃ tx, tx = t.text := ⟨_, rfl⟩
                obtain ⟨ps, hps⟩ : ∃ ps, ps = Pl.group t.L := ⟨_, rfl⟩
                have HY0 : ∀ w1, Below wc.heap.size wc w1 → w1.cell? ⟨r, 0, none⟩ = some (.slice AR TL cR) := fun w1 hb => by
                  rw [hTL, ← hcell]
                  obtain ⟨A, n, c, hR⟩ := hS9.ref
                  exact hb.cell (p := ⟨r, 0, none⟩) hR.lt
                have HY1 : ∀ w1, Below wc.heap.size wc w1 → Calls Try.prog 24 #[.pointer (some ⟨p, 0, none⟩)] w1 fun e w' => e = .returned (.int .i64 (TL : Int)) ∧ Below w1.heap.size w1 w' := fun w1 hb => by
                  obtain ⟨F, h⟩ := (hS9.then_ hb).tb
                  rw [hTL]; exact len_tb h
                have HY2 : ∀ w1, Below wc.heap.size wc w1 → Calls Try.prog 25 #[.pointer (some ⟨p, 0, none⟩)] w1 (RetC w1 tx) := fun w1 hb => by
                  obtain ⟨F, h⟩ := (hS9.then_ hb).tb
                  rw [htx]; exact text_tb h
                have HY3 : ∀ w1, Below wc.heap.size wc w1 → Calls Try.prog 21 #[.pointer (some ⟨r, 0, none⟩)] w1 (RetC w1 tx) := fun w1 hb => by
                  rw [htx]; exact (hS9.then_ hb).reftext HOK.out (by omega)
                have HY4 : ∀ w1, Below wc.heap.size wc w1 → Calls Try.prog 27 #[.pointer (some ⟨p, 0, none⟩)] w1 (RetP w1 ps) := fun w1 hb => by
                  obtain ⟨F, h⟩ := (hS9.then_ hb).tb
                  rw [hps]; exact pieces_tb h
                have HY5 : ∀ w1, Below wc.heap.size wc w1 → Calls Try.prog 28 #[.pointer (some ⟨r, 0, none⟩)] w1 (RetQ w1 ps) := fun w1 hb => by
                  rw [hps]; exact (hS9.then_ hb).refpieces HOK.out (by omega)
                have h0 := Lib.hid HY0
                have h1 := Lib.hid HY1
                have h2 := Lib.hid HY2
                have h3 := Lib.hid HY3
                have h4 := Lib.hid HY4
                have h5 := Lib.hid HY5
                clear HY0 HY1 HY2 HY3 HY4 HY5 hS9 hcell hTL htx hps
                go_wp2_with fail
                have HY0 := h0.out
                have HY1 := h1.out
                have HY2 := h2.out
                have HY3 := h3.out
                have HY4 := h4.out
                have HY5 := h5.out
                refine Rg.wp_region_inv (fun w'' => Below wc.heap.size wc w'') (Rg.Wd.at [.is (.pointer (some ⟨p, 0, none⟩)), .is (.int .i64 (TL : Int)), .is (.pointer (some ⟨r, 0, none⟩)), .is (.pointer (some ⟨r, 0, none⟩)), .is (.pointer (some ⟨r, 0, none⟩)), .is (.slice AR TL cR), .is (.int .i64 (TL : Int)), .is (.bool false), .is (.bool false), .is (.pointer (some ⟨p, 0, none⟩)), .pred (CW tx) CW.stays, .is (.pointer (some ⟨r, 0, none⟩)), .pred (CW tx) CW.stays, .is (.bool true), .is (.bool false), .is (.bool false), .is (.bool false), .is (.pointer (some ⟨p, 0, none⟩)), .pred (PW ps) PW.stays, .is (.pointer (some ⟨r, 0, none⟩)), .pred (PW ps) PW.stays, .is (.bool true), .is (.bool false), .is (.bool false)]) (by kernel_rfl) (by kernel_rfl) (Rg.Wd.stays _ _) (below_drawn (Below.refl _ _)) ⟨?_, ?_, ?_, ?_, ?_, ?_, ?_, ?_, ?_, ?_, ?_, ?_, ?_, ?_, ?_, ?_, ?_, ?_, ?_, ?_, ?_, ?_, ?_, ?_, trivial⟩ ?_
                · intro a w1 hS hb hd
                  have e6 := hb 6 (Rg.nw (by decide))
                  simp [Act.eval] at e6
                  exact Rg.does_pure (Rg.wanted_none rfl) (by simp [execOp, e6, go_sem]) hS rfl
                · intro a w1 hS hb hd
                  have e163 := hd ⟨0, .data⟩ (by simp) rfl _ _ rfl rfl
                  have e163 : a.tmps[163]?.getD undef = (.pointer (some ⟨p, 0, none⟩)) := Rg.slot e163
                  refine Rg.does_call (f := 24) (args := #[.pointer (some ⟨p, 0, none⟩)]) (Rg.wanted_none rfl) (by simp [e163, go_sem]) ?_
                  exact (HY1 w1 hS).mono fun e w' ⟨h1, h2⟩ => ⟨_, h1, rfl, below_then hS h2, h2⟩
                · intro a w1 hS hb hd
                  have e7 := hb 7 (Rg.nw (by decide))
                  simp [Act.eval] at e7
                  exact Rg.does_pure (Rg.wanted_none rfl) (by simp [execOp, e7, go_sem]) hS rfl
                · intro a w1 hS hb hd
                  have e165 := hd ⟨2, .data⟩ (by simp) rfl _ _ rfl rfl
                  have e165 : a.tmps[165]?.getD undef = (.pointer (some ⟨r, 0, none⟩)) := Rg.slot e165
                  exact Rg.does_pure (Rg.wanted_none rfl) (by simp [execOp, e165, go_sem]) hS rfl
                · intro a w1 hS hb hd
                  have e166 := hd ⟨3, .data⟩ (by simp) rfl _ _ rfl rfl
                  have e166 : a.tmps[166]?.getD undef = (.pointer (some ⟨r, 0, none⟩)) := Rg.slot e166
                  exact Rg.does_pure (Rg.wanted_none rfl) (by simp [execOp, e166, go_sem]) hS rfl
                · intro a w1 hS hb hd
                  have e167 := hd ⟨4, .data⟩ (by simp) rfl _ _ rfl rfl
                  have e167 : a.tmps[167]?.getD undef = (.pointer (some ⟨r, 0, none⟩)) := Rg.slot e167
                  exact Rg.does_pure (Rg.wanted_none rfl) (by simp [execOp, e167, (HY0 w1 hS), go_sem]) hS rfl
                · intro a w1 hS hb hd
                  have e168 := hd ⟨5, .data⟩ (by simp) rfl _ _ rfl rfl
                  have e168 : a.tmps[168]?.getD undef = (.slice AR TL cR) := Rg.slot e168
                  exact Rg.does_pure (Rg.wanted_none rfl) (by simp [e168, go_sem]) hS rfl
                · intro a w1 hS hb hd
                  have e164 := hd ⟨1, .data⟩ (by simp) rfl _ _ rfl rfl
                  have e164 : a.tmps[164]?.getD undef = (.int .i64 (TL : Int)) := Rg.slot e164
                  have e169 := hd ⟨6, .data⟩ (by simp) rfl _ _ rfl rfl
                  have e169 : a.tmps[169]?.getD undef = (.int .i64 (TL : Int)) := Rg.slot e169
                  exact Rg.does_pure (Rg.wanted_none rfl) (by simp [execOp, e164, e169, go_sem]) hS rfl
                · intro a w1 hS hb hd
                  have e170 := hd ⟨7, .data⟩ (by simp) rfl _ _ rfl rfl
                  have e170 : a.tmps[170]?.getD undef = (.bool false) := Rg.slot e170
                  exact Rg.does_pure (Rg.wanted_none rfl) (by simp [execOp, e170, go_sem]) hS rfl
                · intro a w1 hS hb hd
                  have e6 := hb 6 (Rg.nw (by decide))
                  simp [Act.eval] at e6
                  have e171 := hd ⟨8, .guard⟩ (by simp) rfl _ _ rfl rfl
                  exact Rg.does_pure (Rg.wanted_some rfl rfl rfl e171) (by simp [execOp, e6, go_sem]) hS rfl
                · intro a w1 hS hb hd
                  have e172 := hd ⟨9, .data⟩ (by simp) rfl _ _ rfl rfl
                  have e172 : a.tmps[172]?.getD undef = (.pointer (some ⟨p, 0, none⟩)) := Rg.slot e172
                  have e171 := hd ⟨8, .guard⟩ (by simp) rfl _ _ rfl rfl
                  refine Rg.does_call (f := 25) (args := #[.pointer (some ⟨p, 0, none⟩)]) (Rg.wanted_some rfl rfl rfl e171) (by simp [e172, go_sem]) ?_
                  exact (HY2 w1 hS).mono fun e w' ⟨A9, c9, h1, h2, h3⟩ => ⟨_, h1, ⟨A9, c9, rfl, h2.crs.2⟩, below_then hS h3, h3⟩
                · intro a w1 hS hb hd
                  have e7 := hb 7 (Rg.nw (by decide))
                  simp [Act.eval] at e7
                  have e171 := hd ⟨8, .guard⟩ (by simp) rfl _ _ rfl rfl
                  exact Rg.does_pure (Rg.wanted_some rfl rfl rfl e171) (by simp [execOp, e7, go_sem]) hS rfl
                · intro a w1 hS hb hd
                  have e174 := hd ⟨11, .data⟩ (by simp) rfl _ _ rfl rfl
                  have e174 : a.tmps[174]?.getD undef = (.pointer (some ⟨r, 0, none⟩)) := Rg.slot e174
                  have e171 := hd ⟨8, .guard⟩ (by simp) rfl _ _ rfl rfl
                  refine Rg.does_call (f := 21) (args := #[.pointer (some ⟨r, 0, none⟩)]) (Rg.wanted_some rfl rfl rfl e171) (by simp [e174, go_sem]) ?_
                  exact (HY3 w1 hS).mono fun e w' ⟨A9, c9, h1, h2, h3⟩ => ⟨_, h1, ⟨A9, c9, rfl, h2.crs.2⟩, below_then hS h3, h3⟩
                · intro a w1 hS hb hd
                  have e173 := hd ⟨10, .data⟩ (by simp) rfl _ _ rfl rfl
                  have e175 := hd ⟨12, .data⟩ (by simp) rfl _ _ rfl rfl
                  have e171 := hd ⟨8, .guard⟩ (by simp) rfl _ _ rfl rfl
                  obtain ⟨A8, c8, q8, hC8⟩ := e173; obtain ⟨A9, c9, q9, hC9⟩ := e175; have r8 := Rg.slot q8; have r9 := Rg.slot q9; refine Rg.does_call (f := 19) (args := #[.slice A8 tx.length c8, .slice A9 tx.length c9]) (Rg.wanted_some rfl rfl rfl e171) (by simp [r8, r9, go_sem]) ?_; have hQ := same_any A8 A9 tx.length c8 tx.length c9 tx tx w1 hC8 hC9; rw [decide_eq_true rfl] at hQ; exact hQ.mono fun e w' ⟨h1, h2⟩ => ⟨_, h1, rfl, below_then hS h2, h2⟩
                · intro a w1 hS hb hd
                  have e176 := hd ⟨13, .data⟩ (by simp) rfl _ _ rfl rfl
                  have e176 : a.tmps[176]?.getD undef = (.bool true) := Rg.slot e176
                  have e171 := hd ⟨8, .guard⟩ (by simp) rfl _ _ rfl rfl
                  exact Rg.does_pure (Rg.wanted_some rfl rfl rfl e171) (by simp [execOp, e176, go_sem]) hS rfl
                · intro a w1 hS hb hd
                  have e171 := hd ⟨8, .data⟩ (by simp) rfl _ _ rfl rfl
                  have e171 : a.tmps[171]?.getD undef = (.bool false) := Rg.slot e171
                  have e177 := hd ⟨14, .data⟩ (by simp) rfl _ _ rfl rfl
                  have e177 : a.tmps[177]?.getD undef = (.bool false) := Rg.slot e177
                  exact Rg.does_pure (Rg.wanted_none rfl) (by simp [execOp, e171, e177, go_sem]) hS rfl
                · intro a w1 hS hb hd
                  have e178 := hd ⟨15, .data⟩ (by simp) rfl _ _ rfl rfl
                  have e178 : a.tmps[178]?.getD undef = (.bool false) := Rg.slot e178
                  exact Rg.does_pure (Rg.wanted_none rfl) (by simp [execOp, e178, go_sem]) hS rfl
                · intro a w1 hS hb hd
                  have e6 := hb 6 (Rg.nw (by decide))
                  simp [Act.eval] at e6
                  have e179 := hd ⟨16, .guard⟩ (by simp) rfl _ _ rfl rfl
                  exact Rg.does_pure (Rg.wanted_some rfl rfl rfl e179) (by simp [execOp, e6, go_sem]) hS rfl
                · intro a w1 hS hb hd
                  have e180 := hd ⟨17, .data⟩ (by simp) rfl _ _ rfl rfl
                  have e180 : a.tmps[180]?.getD undef = (.pointer (some ⟨p, 0, none⟩)) := Rg.slot e180
                  have e179 := hd ⟨16, .guard⟩ (by simp) rfl _ _ rfl rfl
                  refine Rg.does_call (f := 27) (args := #[.pointer (some ⟨p, 0, none⟩)]) (Rg.wanted_some rfl rfl rfl e179) (by simp [e180, go_sem]) ?_
                  exact (HY4 w1 hS).mono fun e w' ⟨A9, c9, h1, h2, h3⟩ => ⟨_, h1, ⟨A9, c9, rfl, (OwnR.rws encP_len h2).2⟩, below_then hS h3, h3⟩
                · intro a w1 hS hb hd
                  have e7 := hb 7 (Rg.nw (by decide))
                  simp [Act.eval] at e7
                  have e179 := hd ⟨16, .guard⟩ (by simp) rfl _ _ rfl rfl
                  exact Rg.does_pure (Rg.wanted_some rfl rfl rfl e179) (by simp [execOp, e7, go_sem]) hS rfl
                · intro a w1 hS hb hd
                  have e182 := hd ⟨19, .data⟩ (by simp) rfl _ _ rfl rfl
                  have e182 : a.tmps[182]?.getD undef = (.pointer (some ⟨r, 0, none⟩)) := Rg.slot e182
                  have e179 := hd ⟨16, .guard⟩ (by simp) rfl _ _ rfl rfl
                  refine Rg.does_call (f := 28) (args := #[.pointer (some ⟨r, 0, none⟩)]) (Rg.wanted_some rfl rfl rfl e179) (by simp [e182, go_sem]) ?_
                  exact (HY5 w1 hS).mono fun e w' ⟨A9, c9, h1, h2, h3⟩ => ⟨_, h1, ⟨A9, c9, rfl, (OwnR.rws encP_len h2).2⟩, below_then hS h3, h3⟩
                · intro a w1 hS hb hd
                  have e181 := hd ⟨18, .data⟩ (by simp) rfl _ _ rfl rfl
                  have e183 := hd ⟨20, .data⟩ (by simp) rfl _ _ rfl rfl
                  have e179 := hd ⟨16, .guard⟩ (by simp) rfl _ _ rfl rfl
                  obtain ⟨A8, c8, q8, hC8⟩ := e181; obtain ⟨A9, c9, q9, hC9⟩ := e183; have r8 := Rg.slot q8; have r9 := Rg.slot q9; refine Rg.does_call (f := 26) (args := #[.slice A8 ps.length c8, .slice A9 ps.length c9]) (Rg.wanted_some rfl rfl rfl e179) (by simp [r8, r9, go_sem]) ?_; exact (same_eq A8 A9 ps.length c8 c9 ps w1 hC8 hC9).mono fun e w' ⟨h1, h2⟩ => ⟨_, h1, rfl, below_then hS h2, h2⟩
                · intro a w1 hS hb hd
                  have e184 := hd ⟨21, .data⟩ (by simp) rfl _ _ rfl rfl
                  have e184 : a.tmps[184]?.getD undef = (.bool true) := Rg.slot e184
                  have e179 := hd ⟨16, .guard⟩ (by simp) rfl _ _ rfl rfl
                  exact Rg.does_pure (Rg.wanted_some rfl rfl rfl e179) (by simp [execOp, e184, go_sem]) hS rfl
                · intro a w1 hS hb hd
                  have e179 := hd ⟨16, .data⟩ (by simp) rfl _ _ rfl rfl
                  have e179 : a.tmps[179]?.getD undef = (.bool false) := Rg.slot e179
                  have e185 := hd ⟨22, .data⟩ (by simp) rfl _ _ rfl rfl
                  have e185 : a.tmps[185]?.getD undef = (.bool false) := Rg.slot e185
                  exact Rg.does_pure (Rg.wanted_none rfl) (by simp [execOp, e179, e185, go_sem]) hS rfl
                intro v w5 hS hv
                have h186 : v 23 = .bool false := hv 23 _ _ rfl rfl
                have HS5 := Lib.hid (HS9.out.then_ hS)
                simp only [Rg.putAll, Nat.zero_add, Nat.reduceAdd]
                simp only [Act.put, List.setIfInBounds_toArray, List.set_cons_succ, List.set_cons_zero]
                rw [h186]
                clear h186 hv hS HY0 HY1 HY2 HY3 HY4 HY5 h0 h1 h2 h3 h4 h5 HS9
                go_wp2_with fail
                go_roundw
                case rel => exact ⟨j + 1, p, m, r, t, by go_num, by omega, by omega, by omega, rfl, rfl, HS5.out⟩
                case measure => simp [intOf]; omega
          · obtain ⟨g, o, A', n', c', rfl, hg, x0, hI0, x1', hI1, x2, hI2, x3, hC⟩ := HB.out.2.2.2 j hlt
            obtain ⟨⟨what, pos, nn, ts⟩, ht⟩ : ∃ t, t = l.getD j default := ⟨_, rfl⟩
            rw [← ht] at x0 hI0 x1' hI1 x2 hI2 hC
            simp only at x0 hI0 x1' hI1 x2 hI2 hC
            rw [← hS.bel.cell (p := ⟨g, _, none⟩) hg] at x0 x1' x2 x3
            have b60 : ((j : Int) == 60) = true := by rw [beq_iff_eq]; omega
            obtain ⟨V, hV, hbV, _⟩ := act_new wr what pos nn A' n' c'
            have HBV := Lib.hid (hS.then_ hbV).bel
            have HV := Lib.hid hV
            clear ht hC hS hV hbV
            go_wp2_with fail
            rw [← HV.out]
            refine (awake_any V).mono ?_
            rintro e v1 ⟨rfl, hb1⟩
            have HBE := Lib.hid (HBV.out.trans (hb1.mono HBV.out.size))
            clear hb1
            go_wp2_with fail
            go_ret
            exact ⟨rfl, HBE.out⟩
        · have hjn : j = nl := by omega
          have HBV := Lib.hid hS.bel
          clear hS
          go_wp2_with fail
          refine (awake_any wr).mono ?_
          rintro e v1 ⟨rfl, hb1⟩
          have HBE := Lib.hid (HBV.out.trans (hb1.mono HBV.out.size))
          clear hb1
          go_wp2_with fail
          go_ret
          exact ⟨rfl, HBE.out⟩
end Go.Proofs.Ytogmddneimhpeaa.piecePlays
