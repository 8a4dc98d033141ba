/-
  What all calls of a document that tell an answer have in common (touched): who is gone goes, with his mark; the call's own part is any closure whose contract is known. Conditions: those that it states.
  What all calls of a client who has to be at the document have in common (at). Conditions: those that it states.
  doc's tell; Open. Conditions: those that each states.
-/
import Derived.Test.YtldmnkakpmplnaaGreatUd39
import Derived.BigQuiet
import Derived.Deep.QuietTactic
import Derived.Deep.RegionHeld3
set_option maxRecDepth 100000
set_option linter.unusedVariables false
namespace Go.Proofs.YtldmnkakpmplnaaGreat
open Go.RowKit
open Pl (Un)
theorem del_none {M : Pl.Mks} (hr : Pl.Rising M) {c : Int} (h : (Pl.getM M c).isSome = false) : Pl.delM M c = M := by
  unfold Pl.delM
  rw [List.filter_eq_self]
  intro p hp
  have hg := (Pl.get_iff hr (c := p.1) (v := p.2)).2 hp
  by_cases e : p.1 = c
  · rw [← e, hg] at h
    cases h
  · simpa using e
theorem dropM_all {w : World} {p b : Nat} {N : Int} {M : Pl.Mks} (h : MarksW w p b N M) {c : Int} (hc : 0 ≤ c ∧ c < 4294967296) :
    Calls Tryz.prog 121 #[.pointer (some ⟨p, 0, none⟩), .int .u32 c] w fun e w' => (∃ r, e = .returned (.int .i64 r)) ∧ MarksW w' p b N (Pl.delM M c) ∧ Tn (fun i => i = b) w w' := by
  cases hg : (Pl.getM M c).isSome with
  | true => exact (dropM_any h hc hg).mono fun _ _ h => ⟨⟨_, h.1⟩, h.2⟩
  | false => exact (dropM_no h hc hg).mono fun e w' h2 => ⟨⟨_, h2.1⟩, by rw [h2.2, del_none h.ok.up hg]; exact ⟨h, Tn.refl _ _⟩⟩
section
variable {w w' : World} {D pa tx ls mk m : Nat} {k : Nat → Nat} {N : Int} {d : Pl.Dc}
theorem DocM.dropM (h : DocM w D pa tx ls mk k N d m) {c : Int} (hc : 0 ≤ c ∧ c < 4294967296) :
    Calls Tryz.prog 121 #[.pointer (some ⟨mk, 0, none⟩), .int .u32 c] w fun e w' => (∃ r, e = .returned (.int .i64 r)) ∧ DocM w' D pa tx ls mk k N { d with M := Pl.delM d.M c } m ∧ Mv k w k w' ∧ Tn (fun b => k b = 8) w w' := by
  obtain ⟨mb, h5, h6⟩ := h.mks
  refine (dropM_all h5 hc).mono fun e w' h2 => ?_
  have := h.setM h6 h2.2.1 h2.2.2
  exact ⟨h2.1, this.1, this.2, h2.2.2.more fun b _ e => by rw [e]; exact h6⟩
theorem DocM.expire (h : DocM w D pa tx ls mk k N d m) (now : Int) (h0 : 0 ≤ now) :
    Calls Tryz.prog 152 #[.pointer (some ⟨ls, 0, none⟩), .int .u64 now] w fun e w' => ∃ A c, e = .returned (.slice A (Pl.whichM false now d.L).length c) ∧ Ls.OwnCl w' w.heap.size (.slice A (Pl.whichM false now d.L).length c) (Pl.whichM false now d.L) ∧ DocM w' D pa tx ls mk k N { d with L := Pl.thereM now d.L } m ∧ Mv k w k w' := by
  obtain ⟨lb, h5, h6⟩ := h.les
  refine (Ls.expire_any h5 now h0).mono fun e w' ⟨A, c, h1, h2, h3, h4⟩ => ?_
  have := h.setL h6 h3 h4
  exact ⟨A, c, h1, h2, this.1, this.2⟩
def told (dd : Pl.Dc × Pl.An) : Pl.Dc × Pl.An := (dd.1, if dd.2.e = 0 then { dd.2 with rev := dd.1.now } else dd.2)
def TcI (w w5 : World) (D pa tx ls mk : Nat) (k : Nat → Nat) (N : Int) (d : Pl.Dc) (m : Nat) (A : Option Addr) (n c : Nat) (G : List Int) (i : Value) (wr : World) : Prop :=
  ∃ j : Nat, i = .int .i64 (j : Int) ∧ j ≤ n ∧ Ls.OwnCl wr w.heap.size (.slice A n c) G ∧ DocM wr D pa tx ls mk k N { d with M := Pl.dropsM d.M (G.take j) } m ∧ Tn (fun b => k b = 8) w5 wr
set_option maxHeartbeats 2000000 in
theorem touched_any (h : DocM w D pa tx ls mk k N d m) (now : Int) (h0 : 0 ≤ now) (hnow : now ≤ 1099511627776) (ht : d.t + 1 < 18446744073709551616) (gf : FuncId) (caps : Array Value) (dd : Pl.Dc × Pl.An)
    (hfun : ∀ args w, (callFunc gf args).run Tryz.prog w = .ok (.enter gf args) w)
    (hrow : dd.2.e ≠ 0 → dd.2 = Pl.fails dd.2.e)
    (hf : ∀ w1 al, DocM w1 D pa tx ls mk k N (d.touched now) m → Mv k w k w1 → w.heap.size ≤ al → AnAt w1 al 0 0 false none 0 0 none 0 0 none 0 0 →
      Calls Tryz.prog gf (#[.pointer (some ⟨al, 0, none⟩)] ++ caps) w1 (OwnD w1 D pa tx ls mk al k m dd)) :
    Calls Tryz.prog 66 #[.pointer (some ⟨D, 0, none⟩), .int .u64 now, .func (.func gf) #[] caps] w (DocR w D pa tx ls mk k m (told dd)) := by
  have HH := Lib.hid h
  have HF := Lib.hid hf
  have HR := Lib.hid hrow
  have z1 : decide (now > 1099511627776) = false := decide_eq_false (by omega)
  have z2 : decide (1099511627776 < now) = false := decide_eq_false (by omega)
  clear h hf hrow
  go_enter Tryz.func66, Tryz.ntmps66
  go_wp2_with fail
  have hb1 : Below w.heap.size w (w.alloc (.cells #[.int .i64 0, .int .u32 0, .int .u64 0, .bool false, .slice none 0 0, .slice none 0 0, .slice none 0 0] 37)) := below_box _ _
  have HB1 := Lib.hid hb1
  have HA0 := Lib.hid (heap_alloc_new w (.cells #[.int .i64 0, .int .u32 0, .int .u64 0, .bool false, .slice none 0 0, .slice none 0 0, .slice none 0 0] 37))
  have HN := Lib.hid (none_doc (HH.out.then_ hb1))
  clear hb1
  generalize w.alloc (.cells #[.int .i64 0, .int .u32 0, .int .u64 0, .bool false, .slice none 0 0, .slice none 0 0, .slice none 0 0] 37) = W1 at HB1 HA0 HN ⊢
  refine HN.out.mono ?_
  rintro e w' ⟨rfl, hw⟩
  rw [hw]; clear hw w' HN
  obtain ⟨c0, c1, c2, c3, c4⟩ := (HH.out.then_ HB1.out).cells
  have fD := (HH.out.then_ HB1.out).frozen
  go_wp2_with fail
  have hT := (HH.out.then_ HB1.out).setT (d.t + 1)
  rw [show ((d.t + 1 : Nat) : Int) = (d.t : Int) + 1 from by omega] at hT
  have hkal : k w.heap.size = 0 := by
    rcases Nat.eq_zero_or_pos (k w.heap.size) with h | h
    · exact h
    · have := HH.out.lt w.heap.size (by omega)
      omega
  have HT := Lib.hid (And.intro hT.1 ((Mv.of k HB1.out).trans hT.2))
  have HA1 := Lib.hid (hT.2.old HA0.out hkal)
  have HKA := Lib.hid hkal
  clear hT c0 c1 c2 c3 c4 fD hkal HB1 HA0
  generalize W1.setCell ⟨D, 0, none⟩ (.int .u64 ((d.t : Int) + 1)) = W2 at HT HA1 ⊢
  clear W1
  refine (HT.out.1.expire now h0).mono ?_
  rintro e w5 ⟨A, c, rfl, ho5, hd5, hm5⟩
  have hkeys : ∀ x ∈ Pl.whichM false now d.L, 0 ≤ x ∧ x < 4294967296 := fun x hx => by
    unfold Pl.whichM at hx
    obtain ⟨q, hq, rfl⟩ := List.mem_map.1 hx
    obtain ⟨lb, hl, _⟩ := HH.out.les
    exact hl.ok.key q (List.mem_filter.1 hq).1
  have hn9 : (Pl.whichM false now d.L).length ≤ 1000 := by
    obtain ⟨lb, hl, _⟩ := HH.out.les
    exact Nat.le_trans (Ls.which_len false now d.L) (by have := hl.few; omega)
  have htd : d.touched now = { d with L := Pl.thereM now d.L, M := Pl.dropsM d.M (Pl.whichM false now d.L), t := d.t + 1 } := rfl
  rw [htd] at HF
  clear htd
  simp only at ho5
  obtain ⟨G, hG⟩ : ∃ G, G = Pl.whichM false now d.L := ⟨_, rfl⟩
  rw [← hG] at ho5 hkeys HF hn9 ⊢
  obtain ⟨n, hn⟩ : ∃ n, n = G.length := ⟨_, rfl⟩
  rw [← hn] at ho5 hn9 ⊢
  have HN := Lib.hid hn
  have HK := Lib.hid hkeys
  have HO5 := Lib.hid (OwnR.lower ho5 HT.out.2.tn.size)
  have HD5 := Lib.hid hd5
  have HM5 := Lib.hid (HT.out.2.trans hm5)
  have HA5 := Lib.hid (hm5.old HA1.out HKA.out)
  clear hn hkeys hG ho5 hd5 hm5 HA1 HT
  go_wp2_with fail
  go_loopw [33] (fun i wr => TcI w w5 D pa tx ls mk k N { d with L := Pl.thereM now d.L, t := d.t + 1 } m A n c G i wr) (fun i _ => n - (intOf i).toNat)
  case atStart => exact ⟨0, rfl, Nat.zero_le _, HO5.out, HD5.out, Tn.refl _ _⟩
  case round =>
    obtain ⟨j, rfl, hj, ho, hd, ht⟩ := hrel
    have HO := Lib.hid ho
    have HDJ := Lib.hid hd
    have HTJ := Lib.hid ht
    clear ho hd ht
    by_cases hlt : j < n
    · have hjG : j < G.length := by rw [← HN.out]; exact hlt
      obtain ⟨y, hy⟩ : ∃ y, y = G[j] := ⟨_, rfl⟩
      have hy1 : G[j]? = some y := by rw [List.getElem?_eq_getElem hjG, hy]
      have hky := HK.out y (by rw [hy]; exact List.getElem_mem hjG)
      obtain ⟨g, o, hA, _, hc⟩ := Rws.at_ Ls.encC_len (OwnR.rws Ls.encC_len HO.out).2 hlt
      have a0 := hc j hlt 0 _ (by decide) rfl
      rw [show G.getD j default = y by rw [List.getD_eq_getElem?_getD, hy1]; rfl] at a0
      subst hA
      simp only [Nat.mul_one, Nat.add_zero] at a0
      have z3 : (0 : Int) ≤ (j : Int) := Int.natCast_nonneg _
      have z4 : (j : Int) < (n : Int) := Int.ofNat_lt.2 hlt
      have HMS := Lib.hid (show n - (j + 1) < n - j by omega)
      have HG := Lib.hid (Ls.drops_add (M := d.M) hy1)
      obtain ⟨c0, c1, c2, c3, c4⟩ := HDJ.out.cells
      have HC := Lib.hid (HDJ.out.dropM hky)
      clear hc hy hy1 hjG hky
      go_wp2_with fail
      refine HC.out.mono ?_
      rintro e w6 ⟨⟨r, rfl⟩, hd6, hm6, ht6⟩
      have HX := Lib.hid (And.intro hd6 ht6)
      clear hd6 hm6 ht6
      go_wp2_with fail
      go_roundw
      case rel =>
        refine ⟨j + 1, by go_num, hlt, OwnR.tn HO.out HX.out.2 (fun i hi e => ?_), ?_, HTJ.out.trans HX.out.2 (fun _ _ h => h)⟩
        · have h1 := (OwnR.lt HO.out i hi).1
          have h2 := HH.out.lt i (by rw [e]; decide)
          omega
        · rw [HG.out]; exact HX.out.1
      case measure => simp [intOf]; (have := HMS.out; omega)
    · have hjn : j = n := by omega
      have he : G.take j = G := by rw [hjn, HN.out, List.take_length]
      rw [he] at HDJ
      have hmj : Mv k w k wr := HM5.out.trans ⟨HTJ.out.more fun b _ e => by rw [e]; decide, fun _ _ => rfl⟩
      have HMJ := Lib.hid hmj
      have HAJ := Lib.hid (HTJ.out.old HA5.out (by rw [HKA.out]; decide))
      clear he hmj
      have hDJ2 : DocM wr D pa tx ls mk k N { d with L := Pl.thereM now d.L, M := Pl.dropsM d.M G, t := d.t + 1 } m := HDJ.out
      have hb2 : Below wr.heap.size wr (wr.alloc (.cells #[.int .i64 0, .int .u32 0, .int .u64 0, .bool false, .slice none 0 0, .slice none 0 0, .slice none 0 0] 37)) := below_box _ _
      have hC := HF.out _ wr.heap.size (hDJ2.then_ hb2) (HMJ.out.then_ hb2) HMJ.out.tn.size (heap_alloc_new wr _)
      have HC := Lib.hid hC
      have HM2 := Lib.hid (HMJ.out.then_ hb2)
      have HA2 := Lib.hid (below_old hb2 HAJ.out (lt_of_block HAJ.out))
      have hka2 : k wr.heap.size = 0 := by
        rcases Nat.eq_zero_or_pos (k wr.heap.size) with h | h
        · exact h
        · have := HDJ.out.lt wr.heap.size (by omega)
          omega
      have HKA2 := Lib.hid (And.intro hka2 (And.intro (lt_of_block (heap_alloc_new wr (.cells #[.int .i64 0, .int .u32 0, .int .u64 0, .bool false, .slice none 0 0, .slice none 0 0, .slice none 0 0] 37))) (show w.heap.size < wr.heap.size from lt_of_block HAJ.out)))
      clear hC hb2 hDJ2 HDJ HTJ HO HMJ HAJ HF hka2 hn9
      go_wp2_with fail
      generalize wr.alloc (.cells #[.int .i64 0, .int .u32 0, .int .u64 0, .bool false, .slice none 0 0, .slice none 0 0, .slice none 0 0] 37) = W6 at HC HM2 HA2 HKA2 ⊢
      refine HC.out.mono ?_
      rintro e w7 ⟨k7, m7, rfl, hd7, hm7, ht7, hk7, hb7⟩
      have HA7 := Lib.hid (show AnAt w7 w.heap.size 0 0 false none 0 0 none 0 0 none 0 0 from ht7.old HA2.out (by rw [HKA.out]; intro h; rcases h with h | h; exact h rfl; have := HKA2.out.2.2; omega))
      have hm27 : Mv k w k7 w7 := ⟨HM2.out.tn.trans ht7 fun b hb h => h.elim id (fun e => by have := HKA2.out.2.2; omega), fun b hb => hk7 b (by have := HKA2.out.2.2; have := HKA2.out.2.1; omega)⟩
      have HM7 := Lib.hid hm27
      have HD7 := Lib.hid hd7
      have HB7 := Lib.hid hb7
      have HE7 := Lib.hid hm7
      have hk0 : k7 w.heap.size = 0 := (hk7 w.heap.size (by have := HKA2.out.2.2; have := HKA2.out.2.1; omega)).trans HKA.out
      have hk1 : k7 wr.heap.size = 0 := (hk7 wr.heap.size HKA2.out.2.1).trans HKA2.out.1
      have HK7 := Lib.hid (And.intro hk0 (And.intro hk1 (And.intro HKA2.out.2.2 HKA2.out.2.1)))
      have HK8 := Lib.hid hk7
      obtain ⟨dq, ⟨e7, rev7, wh7, tx7, op7, se7⟩⟩ := dd
      clear hb7 hd7 hm7 hm27 ht7 hk7 HC HM2 HA2 HKA2 HKA hk0 hk1
      simp only at HR HD7 HB7
      obtain ⟨d0, d1, d2, d3, d4, d5, d6⟩ := HA7.out.cells
      have g7 := HA7.out.frozen
      by_cases he : e7 = 0
      · subst he
        obtain ⟨A4, n4, c4, A5, n5, c5, A6, n6, c6, hb7, hr7⟩ := HB7.out rfl
        have HAL := Lib.hid hb7
        have HRO := Lib.hid hr7
        simp only at HAL HRO
        have HRV := Lib.hid (rev_doc HD7.out)
        obtain ⟨a0, a1, a2, a3, a4, a5, a6⟩ := hb7.cells
        have g8 := hb7.frozen
        clear hb7 hr7
        simp only at a3
        have hne : w.heap.size ≠ wr.heap.size := Nat.ne_of_lt HK7.out.2.2.1
        have hne2 : wr.heap.size ≠ w.heap.size := Ne.symm hne
        go_wp2_with fail
        refine HRV.out.mono ?_
        rintro e w8 ⟨rfl, hw⟩
        rw [hw]; clear hw w8 HRV
        go_wp2_with fail
        have t8 : Tn (fun b => b = wr.heap.size) w7 (w7.setCell ⟨wr.heap.size, 2, none⟩ (.int .u64 (dq.now : Int))) := (Tn.refl (fun b => b = wr.heap.size) w7).set_ (p := ⟨wr.heap.size, 2, none⟩) (Or.inr rfl) _
        have h8 := HA7.out.tn t8 hne
        have t9 := tn_seven (w7.setCell ⟨wr.heap.size, 2, none⟩ (.int .u64 (dq.now : Int))) w.heap.size (.int .i64 0) (.int .u32 0) (.int .u64 (dq.now : Int)) (.bool wh7) (.slice A4 n4 c4) (.slice A5 n5 c5) (.slice A6 n6 c6)
        have tt : Tn (fun b => b = wr.heap.size ∨ b = w.heap.size) w7 _ := (t8.more fun b _ h => Or.inl h).trans t9 fun b _ h => Or.inr h
        refine bodyPost_ret (results_an rfl (by rfl) (h8.sets 0 (dq.now : Int) wh7 A4 n4 c4 A5 n5 c5 A6 n6 c6)) rfl ⟨k7, m7, _, rfl, HD7.out.tn tt (fun b hb h => hb (by rcases h with h | h <;> rw [h]; exact HK7.out.2.1; exact HK7.out.1)), HE7.out, ⟨HM7.out.tn.trans tt (fun b hb h => ?_), HM7.out.eq⟩, ⟨A4, n4, c4, A5, n5, c5, A6, n6, c6, rfl, ?_⟩⟩
        · have h3 := HK7.out.2.2.1
          exact absurd hb (by rcases h with h | h <;> omega)
        · have hr := (HRO.out.tn tt (fun b hb h => by have h1 := HK7.out.2.2.2; have h2 := hb.1; have h3 := HK7.out.2.2.1; rcases h with h | h <;> omega)).more (G := fun b => w.heap.size ≤ b ∧ k7 b = 0) fun b hb => ⟨by have h1 := HK7.out.2.2.2; have h2 := hb.1; have h3 := HK7.out.2.2.1; omega, hb.2⟩
          exact ⟨hr.text, hr.ops, hr.seats⟩
      · have z5 : (e7 != 0) = true := by simpa using he
        have z6 : decide (e7 ≠ 0) = true := decide_eq_true he
        have hE : told (dq, { e := e7, rev := rev7, whole := wh7, text := tx7, ops := op7, seats := se7 }) = (dq, Pl.fails e7) := by
          unfold told
          simp only
          rw [if_neg he, HR he]
        go_wp2_with fail
        have tt := tn_seven w7 w.heap.size (.int .i64 e7) (.int .u32 0) (.int .u64 0) (.bool false) (.slice none 0 0) (.slice none 0 0) (.slice none 0 0)
        refine bodyPost_ret (results_an rfl (by rfl) (HA7.out.sets e7 0 false none 0 0 none 0 0 none 0 0)) rfl ⟨k7, m7, _, rfl, HD7.out.tn tt (fun b hb h => hb (by rw [h]; exact HK7.out.1)), HE7.out, ⟨HM7.out.tn.trans tt (fun b hb h => ?_), HM7.out.eq⟩, by rw [hE]; exact AnV.fails _ _ e7⟩
        exact absurd hb (by rw [h]; exact Nat.lt_irrefl _)
end
end Go.Proofs.YtldmnkakpmplnaaGreat
namespace Go.Proofs.YtldmnkakpmplnaaGreat
open Go.RowKit
open Pl (Un)
def allocs (w : World) : List Obj → World
  | [] => w
  | o :: r => allocs (w.alloc o) r
theorem allocs_below : ∀ (l : List Obj) (w : World), Below w.heap.size w (allocs w l)
  | [], w => Below.refl _ _
  | o :: r, w => below_then (below_box w o) (allocs_below r _)
theorem allocs_at : ∀ (l : List Obj) (w : World) (i : Nat) (o : Obj), l[i]? = some o → (allocs w l).heap[w.heap.size + i]? = some o
  | [], _, _, _, h => by simp at h
  | x :: r, w, 0, o, h => by
    simp at h; subst h
    exact below_old (allocs_below r _) (heap_alloc_new w x) (lt_of_block (heap_alloc_new w x))
  | x :: r, w, i + 1, o, h => by
    have := allocs_at r (w.alloc x) i o (by simpa using h)
    rw [show (w.alloc x).heap.size = w.heap.size + 1 by simp] at this
    rwa [show w.heap.size + (i + 1) = w.heap.size + 1 + i by omega]
theorem box_mv {k k' : Nat → Nat} {w w0 w' : World} {b : Nat} {o : Obj} (h : Mv k w0 k' w') (hb : w0.heap[b]? = some o) (hk : ∀ b, k b ≠ 0 → b < w.heap.size) (hw : w.heap.size ≤ b) : w'.heap[b]? = some o :=
  h.old hb (by
    rcases Nat.eq_zero_or_pos (k b) with h | h
    · exact h
    · have := hk b (by omega); omega)
theorem quiet_of {P : Program} {f : FuncId} {args : Array Value} {w : World} {n : Nat} {v : Value}
    (h : Calls P f args (w.drewN n) fun e w' => e = .returned v ∧ w' = w.drewN n) : Calls P f args (w.drewN n) fun e w'' => e = .returned v ∧ ∃ m, w'' = w.drewN m :=
  h.mono fun _ _ ⟨he, hm⟩ => ⟨he, n, hm⟩
section
variable {w w' : World} {D pa tx ls mk m : Nat} {k : Nat → Nat} {N : Int} {d : Pl.Dc}
theorem DocM.drewN (h : DocM w D pa tx ls mk k N d m) (n : Nat) : DocM (w.drewN n) D pa tx ls mk k N d m := h.then_ (below_drewN _ _)
theorem DocM.live (h : DocM w D pa tx ls mk k N d m) {c : Int} (hc : 0 ≤ c ∧ c < 4294967296) (now : Int) (h0 : 0 ≤ now) :
    Calls Tryz.prog 68 #[.pointer (some ⟨ls, 0, none⟩), .int .u32 c, .int .u64 now] w fun e w' => e = .returned (.bool (Pl.liveM d.L c now)) ∧ w' = w := by
  obtain ⟨lb, hl, _⟩ := h.les
  exact Ls.live_any hl hc now h0
theorem OwnD.from_ {w0 : World} {al : Nat} {dd : Pl.Dc × Pl.An} {e : Ending} (h : OwnD w0 D pa tx ls mk al k m dd e w') (hb : Below w.heap.size w w0) : OwnD w D pa tx ls mk al k m dd e w' := by
  obtain ⟨k', m', h1, h2, h3, h4, h5, h6⟩ := h
  refine ⟨k', m', h1, h2, h3, (Tn.of (fun b => k b ≠ 0 ∨ b = al) hb).trans h4 (fun _ _ h => h), fun b h => h5 b (Nat.lt_of_lt_of_le h hb.size), fun he => ?_⟩
  obtain ⟨A, n, c, A2, n2, c2, A3, n3, c3, h7, h8⟩ := h6 he
  exact ⟨A, n, c, A2, n2, c2, A3, n3, c3, h7, h8.more fun b h => ⟨Nat.le_trans hb.size h.1, h.2⟩⟩
theorem OwnD.bad (h : DocM w D pa tx ls mk k d.cs.length d m) (al : Nat) {E : Int} (hE : E ≠ 0) (hb : Below w.heap.size w w') : OwnD w D pa tx ls mk al k m (d, Pl.fails E) (.returned (.int .i64 E)) w' :=
  ⟨k, m, rfl, h.then_ hb, Nat.le_add_right _ _, Tn.of _ hb, fun _ _ => rfl, fun h => absurd h hE⟩
set_option maxHeartbeats 1000000 in
theorem at1_any (h : DocM w D pa tx ls mk k d.cs.length d m) (now : Int) (h0 : 0 ≤ now) {c : Int} (hc : 0 ≤ c ∧ c < 4294967296) (gf : FuncId) (caps : Array Value) (dd : Pl.Dc × Pl.An) (al b0 b1 b2 b3 : Nat)
    (hfun : ∀ args w, (callFunc gf args).run Tryz.prog w = .ok (.enter gf args) w)
    (e0 : w.heap[b0]? = some (.cells #[.pointer (some ⟨D, 0, none⟩)] 23 (0, 0))) (e1 : w.heap[b1]? = some (.cells #[.int .u32 c] 28 (0, 0))) (e2 : w.heap[b2]? = some (.cells #[.int .u64 now] 27 (0, 0)))
    (e3 : w.heap[b3]? = some (.cells #[.func (.func gf) #[] caps] 119 (0, 0)))
    (hf : ∀ w1, Below w.heap.size w w1 → Pl.liveM d.L c now = true → Calls Tryz.prog gf (#[.pointer (some ⟨al, 0, none⟩)] ++ caps) w1 (OwnD w1 D pa tx ls mk al k m dd)) :
    Calls Tryz.prog 153 #[.pointer (some ⟨al, 0, none⟩), .pointer (some ⟨b0, 0, none⟩), .pointer (some ⟨b1, 0, none⟩), .pointer (some ⟨b2, 0, none⟩), .pointer (some ⟨b3, 0, none⟩)] w (OwnD w D pa tx ls mk al k m (if Pl.liveM d.L c now = true then dd else (d, Pl.fails 36))) := by
  obtain ⟨R, hR⟩ : ∃ R, R = OwnD w D pa tx ls mk al k m (if Pl.liveM d.L c now = true then dd else (d, Pl.fails 36)) := ⟨_, rfl⟩
  rw [← hR]
  have HR := Lib.hid hR
  obtain ⟨lv, hlv⟩ : ∃ lv, lv = Pl.liveM d.L c now := ⟨_, rfl⟩
  have HV := Lib.hid (fun n => (h.drewN n).live hc now h0)
  rw [← hlv] at HV hf HR
  have HF := Lib.hid hf
  have HH := Lib.hid h
  obtain ⟨d0, d1, d2, d3, d4⟩ := h.cells
  have x0 := cell0 (r := []) e0
  have x1 := cell0 (r := []) e1
  have x2 := cell0 (r := []) e2
  have HX := Lib.hid e3
  clear h hf hR hlv e0 e1 e2 e3
  go_enter Tryz.func153, Tryz.ntmps153
  go_wp2_with fail
  go_quiet ((go_at_call 68; exact quiet_of (HV.out _)))
  obtain ⟨wq, hwq⟩ : ∃ x, x = w.drewN nq := ⟨_, rfl⟩
  rw [← hwq]
  have HBQ := Lib.hid (show Below w.heap.size w wq by rw [hwq]; exact below_drewN _ _)
  clear hwq d0 d1 d2 d3 d4 x0 x1 x2 HV
  cases lv with
  | false =>
    go_wp2_with fail
    rw [HR.out]
    exact OwnD.bad HH.out al (by decide) HBQ.out
  | true =>
    have x3 := cell0 (r := []) (below_old HBQ.out HX.out (lt_of_block HX.out))
    have HC := Lib.hid (HF.out wq HBQ.out rfl)
    clear HF
    go_wp2_with fail
    refine HC.out.mono ?_
    rintro e w7 h7
    have H7 := Lib.hid h7
    obtain ⟨k7, m7, rfl, _⟩ := h7
    clear HC
    go_wp2_with fail
    rw [HR.out]
    exact H7.out.from_ HBQ.out
theorem DocR.end_ {W0 W2 : World} {r m' : Nat} {k' : Nat → Nat} {dd : Pl.Dc × Pl.An} {A : Option Addr} {n c : Nat} {A2 : Option Addr} {n2 c2 : Nat} {A3 : Option Addr} {n3 c3 : Nat} (hk : ∀ b, k b ≠ 0 → b < w.heap.size) (hb : Below w.heap.size w W0) (h0 : w.heap.size ≤ r) (h1 : r < W0.heap.size)
    (hd : DocM W2 D pa tx ls mk k' dd.1.cs.length dd.1 m') (hm : m' ≤ m + 256) (hv : Mv k W0 k' W2) (hA : AnR W2 (fun b => W0.heap.size ≤ b ∧ k' b = 0) A n c A2 n2 c2 A3 n3 c3 dd.2) (v0 v1 v2 v3 v4 v5 v6 : Value) :
    DocR w D pa tx ls mk k m dd (.returned (aval dd.2.e (dd.2.rev : Int) dd.2.whole A n c A2 n2 c2 A3 n3 c3)) (seven W2 r v0 v1 v2 v3 v4 v5 v6) := by
  have hkr : k' r = 0 := (hv.eq r h1).trans (by
    rcases Nat.eq_zero_or_pos (k r) with h | h
    · exact h
    · have := hk r (by omega); omega)
  have tt := tn_seven W2 r v0 v1 v2 v3 v4 v5 v6
  have hz := hb.size
  have hmv := (Mv.of k hb).trans hv
  refine ⟨k', m', _, rfl, hd.tn tt (fun b hb h => hb (by rw [h]; exact hkr)), hm, ⟨hmv.tn.trans tt (fun b hb h => by omega), hmv.eq⟩, ⟨A, n, c, A2, n2, c2, A3, n3, c3, rfl, (hA.tn tt (fun b hb h => by have := hb.1; omega)).more fun b hb => ⟨by have := hb.1; omega, hb.2⟩⟩⟩
set_option maxHeartbeats 1000000 in
theorem at_any (h : DocM w D pa tx ls mk k d.cs.length d m) (now : Int) (h0 : 0 ≤ now) (hnow : now ≤ 1099511627776) (ht : d.t + 1 < 18446744073709551616) {c : Int} (hc : 0 ≤ c ∧ c < 4294967296) (gf : FuncId) (caps : Array Value) (dd : Pl.Dc × Pl.An)
    (hfun : ∀ args w, (callFunc gf args).run Tryz.prog w = .ok (.enter gf args) w)
    (hrow : dd.2.e ≠ 0 → dd.2 = Pl.fails dd.2.e)
    (hf : ∀ w1 al, DocM w1 D pa tx ls mk k d.cs.length (d.touched now) m → Mv k w k w1 → w.heap.size ≤ al → AnAt w1 al 0 0 false none 0 0 none 0 0 none 0 0 → Pl.liveM (d.touched now).L c now = true →
      Calls Tryz.prog gf (#[.pointer (some ⟨al, 0, none⟩)] ++ caps) w1 (OwnD w1 D pa tx ls mk al k m dd)) :
    Calls Tryz.prog 72 #[.pointer (some ⟨D, 0, none⟩), .int .u32 c, .int .u64 now, .func (.func gf) #[] caps] w (DocR w D pa tx ls mk k m (told (if Pl.liveM (d.touched now).L c now = true then dd else (d.touched now, Pl.fails 36)))) := by
  obtain ⟨X, hX⟩ : ∃ X, X = if Pl.liveM (d.touched now).L c now = true then dd else (d.touched now, Pl.fails 36) := ⟨_, rfl⟩
  rw [← hX]
  obtain ⟨R, hR⟩ : ∃ R, R = DocR w D pa tx ls mk k m (told X) := ⟨_, rfl⟩
  rw [← hR]
  have HR := Lib.hid hR
  have HH := Lib.hid h
  have HF := Lib.hid hf
  have HW := Lib.hid hrow
  clear h hR hf hrow
  go_enter Tryz.func72, Tryz.ntmps72
  go_wp2_with fail
  obtain ⟨os, hos⟩ : ∃ os : List Obj, os = [.cells #[.pointer (some ⟨D, 0, none⟩)] 23, .cells #[.int .u32 c] 28, .cells #[.int .u64 now] 27, .cells #[.func (.func gf) #[] caps] 119, .cells #[.int .i64 0, .int .u32 0, .int .u64 0, .bool false, .slice none 0 0, .slice none 0 0, .slice none 0 0] 37] := ⟨_, rfl⟩
  have hW : allocs w os = ((((w.alloc (.cells #[.pointer (some ⟨D, 0, none⟩)] 23)).alloc (.cells #[.int .u32 c] 28)).alloc (.cells #[.int .u64 now] 27)).alloc (.cells #[.func (.func gf) #[] caps] 119)).alloc (.cells #[.int .i64 0, .int .u32 0, .int .u64 0, .bool false, .slice none 0 0, .slice none 0 0, .slice none 0 0] 37) := by rw [hos]; rfl
  rw [← hW]
  have hB := allocs_below os w
  have e0 := allocs_at os w 0 _ (by rw [hos]; rfl)
  have e1 := allocs_at os w 1 _ (by rw [hos]; rfl)
  have e2 := allocs_at os w 2 _ (by rw [hos]; rfl)
  have e3 := allocs_at os w 3 _ (by rw [hos]; rfl)
  have e4 := allocs_at os w 4 _ (by rw [hos]; rfl)
  clear hW hos
  generalize allocs w os = W0 at hB e0 e1 e2 e3 e4 ⊢
  clear os
  have hlt := HH.out.lt
  have hC := touched_any (HH.out.then_ hB) now h0 hnow ht 153 #[.pointer (some ⟨w.heap.size, 0, none⟩), .pointer (some ⟨w.heap.size + 1, 0, none⟩), .pointer (some ⟨w.heap.size + 1 + 1, 0, none⟩), .pointer (some ⟨w.heap.size + 1 + 1 + 1, 0, none⟩)] (if Pl.liveM (d.touched now).L c now = true then dd else (d.touched now, Pl.fails 36))
    (fun args w => by simp [go_sem]) (fun he => by
      split
      · rename_i hl
        rw [if_pos hl] at he
        exact HW.out he
      · rfl) (fun w1 al h1 h2 h3 h4 =>
      at1_any h1 now h0 hc gf caps dd al _ _ _ _ hfun (box_mv h2 e0 hlt (Nat.le_refl _)) (box_mv h2 e1 hlt (by omega)) (box_mv h2 e2 hlt (by omega)) (box_mv h2 e3 hlt (by omega)) fun w2 hb2 hl =>
        HF.out w2 al (h1.then_ hb2) (((Mv.of k hB).trans h2).then_ hb2) (Nat.le_trans hB.size h3) (h4.then_ hb2) hl)
  rw [← hX] at hC
  have HC := Lib.hid hC
  have HE := Lib.hid (And.intro hB (And.intro hlt (show AnAt W0 (w.heap.size + 4) 0 0 false none 0 0 none 0 0 none 0 0 from e4)))
  clear hX hC hB e0 e1 e2 e3 e4 hlt
  refine HC.out.mono ?_
  rintro e w2 ⟨k', m', v, rfl, hd, hm, hmv, A, n, c, A2, n2, c2, A3, n3, c3, rfl, hr⟩
  have hr4 : w.heap.size + 4 < W0.heap.size := HE.out.2.2.lt
  have h4 : AnAt w2 (w.heap.size + 4) 0 0 false none 0 0 none 0 0 none 0 0 := box_mv hmv HE.out.2.2 HE.out.2.1 (by omega)
  have HD := Lib.hid (And.intro hd (And.intro hm (And.intro hmv hr)))
  have H4 := Lib.hid h4
  have HR4 := Lib.hid hr4
  obtain ⟨d0, d1, d2, d3, d4, d5, d6⟩ := h4.cells
  have g7 := h4.frozen
  clear hd hm hmv hr h4 hr4 HC
  generalize told X = Y at HD HR ⊢
  obtain ⟨dq, ⟨e7, rev7, wh7, tx7, op7, se7⟩⟩ := Y
  simp only at HD
  unfold aval
  simp only
  rw [show w.heap.size + 4 = w.heap.size + 1 + 1 + 1 + 1 from rfl] at *
  go_wp2_with fail
  refine bodyPost_ret (results_an rfl (by rfl) (H4.out.sets _ _ _ A n c A2 n2 c2 A3 n3 c3)) rfl ?_
  rw [HR.out]
  exact DocR.end_ HE.out.2.1 HE.out.1 (by omega) HR4.out HD.out.1 HD.out.2.1 HD.out.2.2.1 HD.out.2.2.2 _ _ _ _ _ _ _
end
end Go.Proofs.YtldmnkakpmplnaaGreat
namespace Go.Proofs.YtldmnkakpmplnaaGreat
open Go.RowKit
open Pl (Un)
theorem OwnC.inF {w : World} {B : Nat} {A : Option Addr} {n c : Nat} {cs : List Int} (h : OwnC w B (.slice A n c) cs) : Crs w w.heap.size A n c cs ∧ In (fun b => B ≤ b ∧ b < w.heap.size) A n := by
  refine ⟨h.crs.2, fun h0 ad e => ?_⟩
  obtain ⟨A', c', e', h1, h2⟩ := h.shape
  injection e' with e1 e2 e3
  subst e1
  obtain ⟨g, o, e4, hg, _⟩ := h.crs.2.at_ h0
  exact ⟨h2 ad e, by rw [e] at e4; cases e4; exact hg⟩
theorem RowO.inF {w : World} {B : Nat} {A : Option Addr} {n c : Nat} {P : List Pl.Op} (h : RowO w B (.slice A n c) P) : n = P.length ∧ ∃ L, OpsF w (fun b => B ≤ b ∧ b < w.heap.size) A n c L ∧ L.map OpV.op = P := by
  obtain ⟨F, L, h1, h2, h3⟩ := h
  obtain ⟨hn, hr⟩ := h1.rws
  refine ⟨by rw [hn, ← h3, List.length_map], L, ⟨hr, fun h0 ad e => ?_, fun o ho => (h1.uns o ho).more fun b hb => h2 b hb⟩, h3⟩
  subst e
  exact h1.row.lt _ rfl
section
variable {w w' : World} {D pa tx ls mk m al : Nat} {k : Nat → Nat} {N : Int} {d : Pl.Dc}
def TellR (w : World) (al : Nat) (a : Pl.An) (e : Ending) (w' : World) : Prop := e = .returned (.tuple #[]) ∧ AnB w' al (fun b => w.heap.size ≤ b ∧ b < w'.heap.size) a ∧ Tn (fun b => b = al) w w'
set_option maxHeartbeats 1000000 in
theorem tell_whole (h : DocM w D pa tx ls mk k N d m) (hA : AnAt w al 0 0 false none 0 0 none 0 0 none 0 0) (rev : Int) (e : Int) (rv : Nat) :
    Calls Tryz.prog 71 #[.pointer (some ⟨D, 0, none⟩), .pointer (some ⟨al, 0, none⟩), .int .u64 rev, .bool true] w (TellR w al ⟨e, rv, true, d.cs, [], []⟩) := by
  have HT := Lib.hid (text_doc h)
  have HA := Lib.hid hA
  obtain ⟨n, hn⟩ : ∃ n, n = d.cs.length := ⟨_, rfl⟩
  have HN := Lib.hid hn
  clear h hA hn
  go_enter Tryz.func71, Tryz.ntmps71
  go_wp2_with fail
  refine HT.out.mono ?_
  rintro e w2 ⟨A, c, rfl, ho, hb⟩
  have HO := Lib.hid (And.intro ho hb)
  have h2 := HA.out.then_ hb
  have H2 := Lib.hid h2
  obtain ⟨d0, d1, d2, d3, d4, d5, d6⟩ := h2.cells
  have g7 := h2.frozen
  clear ho hb h2 HT
  rw [← HN.out]
  go_wp2_with fail
  refine ⟨rfl, _, results_none (by kernel_rfl) _ _ _, rfl, ?_⟩
  have t1 : Tn (fun b => b = al) w2 (w2.setCell ⟨al, 3, none⟩ (.bool true)) := (Tn.refl (fun b => b = al) w2).set_ (p := ⟨al, 3, none⟩) (Or.inr rfl) _
  have t2 := t1.set_ (p := ⟨al, 4, none⟩) (Or.inr rfl) (.slice A n c)
  have h3 : AnAt ((w2.setCell ⟨al, 3, none⟩ (.bool true)).setCell ⟨al, 4, none⟩ (.slice A n c)) al 0 0 true A n c none 0 0 none 0 0 := blk_set (i := 4) (blk_set (i := 3) H2.out (.bool true)) (.slice A n c)
  have hlt := HA.out.lt
  have ho : OwnC w2 w.heap.size (.slice A n c) d.cs := by rw [HN.out]; exact HO.out.1
  have ho2 := (ho.tn t2 (fun g hg e => by have := (ho.lt g hg).1; omega)).inF
  exact ⟨⟨A, n, c, none, 0, 0, none, 0, 0, h3, ⟨⟨ho2.1, ho2.2⟩, ⟨[], OpsF.none_ _ _, rfl⟩, ⟨Rws.none_ _ _ _, fun h => absurd h (by decide)⟩⟩⟩, (Tn.of (fun b => b = al) HO.out.2).trans t2 (fun _ _ h => h)⟩
set_option maxHeartbeats 1000000 in
theorem tell_ops (h : DocM w D pa tx ls mk k N d m) (hA : AnAt w al 0 0 false none 0 0 none 0 0 none 0 0) (rev : Nat) (h1 : d.fr ≤ rev) (h2 : rev ≤ d.now) (e : Int) (rv : Nat) :
    Calls Tryz.prog 71 #[.pointer (some ⟨D, 0, none⟩), .pointer (some ⟨al, 0, none⟩), .int .u64 (rev : Int), .bool false] w (TellR w al ⟨e, rv, false, [], d.later rev, []⟩) := by
  have HT := Lib.hid (since_ok h.past (rev - d.fr) rev (by omega) (by unfold Pl.Dc.now at h2; omega))
  obtain ⟨d0, d1, d2, d3, d4⟩ := h.cells
  have HA := Lib.hid hA
  obtain ⟨P, hP⟩ : ∃ P, P = d.later rev := ⟨_, rfl⟩
  have hP2 : P = d.P.drop (rev - d.fr) := hP
  rw [← hP2] at HT
  rw [← hP]
  obtain ⟨n, hn⟩ : ∃ n, n = P.length := ⟨_, rfl⟩
  rw [← hn] at HT
  have HN := Lib.hid hn
  clear h hA h1 h2 hP hP2 hn
  go_enter Tryz.func71, Tryz.ntmps71
  go_wp2_with fail
  refine HT.out.mono ?_
  rintro e w2 ⟨A, c, rfl, ho, hb⟩
  have HO := Lib.hid (And.intro ho hb)
  have h2 := HA.out.then_ hb
  have H2 := Lib.hid h2
  clear d0 d1 d2 d3 d4
  obtain ⟨d0, d1, d2, d3, d4, d5, d6⟩ := h2.cells
  have g7 := h2.frozen
  clear ho hb h2 HT
  go_wp2_with fail
  refine ⟨rfl, _, results_none (by kernel_rfl) _ _ _, rfl, ?_⟩
  have t2 : Tn (fun b => b = al) w2 (w2.setCell ⟨al, 5, none⟩ (.slice A n c)) := (Tn.refl (fun b => b = al) w2).set_ (p := ⟨al, 5, none⟩) (Or.inr rfl) _
  have h3 : AnAt (w2.setCell ⟨al, 5, none⟩ (.slice A n c)) al 0 0 false none 0 0 A n c none 0 0 := blk_set (i := 5) H2.out (.slice A n c)
  have hlt := HA.out.lt
  obtain ⟨_, L, h4, h5⟩ := (HO.out.1.tn t2 (fun b e => by omega)).inF
  exact ⟨⟨none, 0, 0, A, n, c, none, 0, 0, h3, ⟨⟨Crs.none_ _ _, fun h => absurd h (by decide)⟩, ⟨L, h4, h5⟩, ⟨Rws.none_ _ _ _, fun h => absurd h (by decide)⟩⟩⟩, (Tn.of (fun b => b = al) HO.out.2).trans t2 (fun _ _ h => h)⟩
end
end Go.Proofs.YtldmnkakpmplnaaGreat
