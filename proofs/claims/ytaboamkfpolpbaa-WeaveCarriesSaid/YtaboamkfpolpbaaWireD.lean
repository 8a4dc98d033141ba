/-
  Contract of the reader's goOn, for any closure whose own contract is known: what it leaves. Conditions: those that it states.
-/
import Derived.Test.YtaboamkfpolpbaaWireC
namespace Go.Proofs.Ytaboamkfpolpbaa.Wi
open Go.RowKit

set_option maxRecDepth 100000 in
theorem callNum (args : Array Value) (w : World) : (callFunc 71 args).run Try.prog w = .ok (.enter 71 args) w := by simp [go_sem]
set_option maxRecDepth 100000 in
set_option maxHeartbeats 400000 in
theorem goOn_dead (A : Option Addr) (F : Nat → Prop) (r : List Nat) (e : Int) (v : Value) (w : World) (h : Rd w A F r e) (he : e ≠ 0) :
    Calls Try.prog 70 #[.pointer A, v] w fun en w' => en = .returned (.tuple #[]) ∧ w = w' := by
  have HE := Lib.hid (err_any A F r e w h)
  have b1 : (e != 0) = true := by simpa using he
  clear h
  go_enter Try.func70, Try.ntmps70
  go_wp2_with fail
  refine HE.out.mono ?_
  rintro en w' ⟨rfl, rfl⟩
  go_wp2_with fail
  exact ⟨rfl, _, results_none (by kernel_rfl), rfl, rfl⟩

/-- in a region that turns memory by calls alone nothing is asked of a single operation -/
def NR (_ : Nat) (_ _ : World) : Prop := True
/-- what holds of memory in goOn's region -/
def GS (w : World) (G : Nat → Prop) (K : World → Prop) (p n c k0 : Nat) (A' : Option Addr) (L : Nat → Bool) (w' : World) : Prop :=
  w'.heap[p]? = some (.cells #[.bool true, .slice A' n c, .int .i64 (k0 : Int), .int .i64 0] 80 (0, 0)) ∧ (L 10 = false → w' = w.drew) ∧ (L 10 = true → Tn G w w' ∧ K w')

set_option maxRecDepth 100000 in
set_option maxHeartbeats 1000000 in
theorem goOn_ok (A : Option Addr) (F : Nat → Prop) (r : List Nat) (w : World) (h : Rd w A F r 0) (f : FuncId) (caps : Array Value) (k : Nat) (x : Int) (G : Nat → Prop) (K : World → Prop) (hGF : ∀ b, F b → ¬ G b)
    (hx : x = 0 ∧ k ≤ r.length ∨ x ≠ 0 ∧ k = 0) (hI : Pl.I x) (hf : ∀ args w, (callFunc f args).run Try.prog w = .ok (.enter f args) w)
    (hc : ∀ (A2 : Option Addr) (c : Nat), Bys w w.heap.size A2 r.length c r → (∀ ad, A2 = some ad → F ad.block ∧ ¬ Pt A ad.block) →
      Calls Try.prog f (#[.slice A2 r.length c] ++ caps) w.drew fun en w' => en = .returned (.tuple #[.int .i64 (k : Int), .int .i64 x]) ∧ Tn G w w' ∧ K w')
    (hK : ∀ w w', K w → Tn (Pt A) w w' → K w') :
    Calls Try.prog 70 #[.pointer A, .func (.func f) #[] caps] w fun en w' =>
      en = .returned (.tuple #[]) ∧ Rd w' A F (if x = 0 then r.drop k else []) x ∧ Tn (fun b => Pt A b ∨ G b) w w' ∧ K w' := by
  have HE := Lib.hid (err_any A F r 0 w h)
  obtain ⟨p, A', n, c, k0, bs, rfl, h2, h3, h4, h5, h6, h7⟩ := h.ok
  obtain ⟨A2, hB2, hA2, hcut⟩ := h4.cut h6
  have hlen : r.length = n - k0 := by rw [h7, List.length_drop, h4.len]
  have hle := h4.le
  have hcap := h4.cap
  unfold maxLen at hcap
  have hc2 := hc A2 (c - k0) (by rw [hlen, h7]; exact hB2) (fun ad e => by
    obtain ⟨ad0, e0, e1⟩ := hA2 ad e
    have := h5 ad0 e0
    rw [e1]
    exact ⟨this.1, fun hp => this.2 (by unfold Pt at hp; injection hp with hp; injection hp with hp; exact hp.symm)⟩)
  rw [hlen] at hc2
  have HCL : ∀ w1 L, GS w G K p n c k0 A' L w1 → L 10 = false → Calls Try.prog f (#[.slice A2 (n - k0) (c - k0)] ++ caps) w1 fun en w' => ∃ v, en = .returned v ∧ v = .tuple #[.int .i64 (k : Int), .int .i64 x] ∧ GS w G K p n c k0 A' (Rq.up L 10) w' ∧ True := by
    intro w1 L hS hL
    rw [hS.2.1 hL]
    exact hc2.mono fun en w' ⟨e1, e2, e3⟩ => ⟨_, e1, rfl, ⟨(e2.block p (lt_of_block h3) (hGF p h2)).trans h3, (fun h => by cases h), fun _ => ⟨e2, e3⟩⟩, trivial⟩
  have hS0 : GS w G K p n c k0 A' (fun _ => false) w.drew := ⟨h3, fun _ => rfl, fun h => by cases h⟩
  have hkn : k0 + k ≤ n := by
    rcases hx with ⟨_, h8⟩ | ⟨_, h8⟩ <;> omega
  have HX := Lib.hid hx
  have HH := Lib.hid (And.intro h (And.intro h3 (And.intro h4 (And.intro h5 h7))))
  have HC := Lib.hid (And.intro hc2 (And.intro HCL (And.intro hS0 hcut)))
  clear hc hc2 HCL hS0 hB2 hA2 hlen h h3 h4 h5 h7 hx hcut
  go_enter Try.func70, Try.ntmps70
  go_wp2_with fail
  refine HE.out.mono ?_
  rintro en w' ⟨rfl, rfl⟩
  go_wp2_with fail
  obtain ⟨hc2, HCL, hS0, hcut⟩ := HC.out
  have rR : ∀ (k : Nat) (w' : World), NR k w' w' := fun _ _ => trivial
  refine Rq.wp_region_inv (GS w G K p n c k0 A') NR (Rq.Wd.at [.is (.func (.func f) #[] caps), .is (.pointer (some ⟨p, 0, none⟩)), .is (.pointer (some ⟨p, 0, none⟩)), .is (.pointer (some ⟨p, 1, none⟩)), .is (.slice A' n c), .is (.pointer (some ⟨p, 0, none⟩)), .is (.pointer (some ⟨p, 0, none⟩)), .is (.pointer (some ⟨p, 2, none⟩)), .is (.int .i64 (k0 : Int)), .is (.slice A2 (n - k0) (c - k0)), .is (.tuple #[.int .i64 (k : Int), .int .i64 x]), .is (.tuple #[.int .i64 (k : Int), .int .i64 x]), .is (.int .i64 (k : Int)), .is (.int .i64 x), .is (.int .i64 (k : Int)), .is (.int .i64 x)]) (by kernel_rfl) (by kernel_rfl) (Rq.Wd.stays _ _ (fun i q hi => by
      rcases i with _ | _ | _ | _ | _ | _ | _ | _ | _ | _ | _ | _ | _ | _ | _ | _ | i <;> simp at hi)) hS0 ⟨?_, ?_, ?_, ?_, ?_, ?_, ?_, ?_, ?_, ?_, ?_, ?_, ?_, ?_, ?_, ?_, trivial⟩ ?_
  · intro L a w1 hL hS hb hd
    have e1 := hb 1 (Rq.nw (by decide))
    simp [Act.eval] at e1
    exact Rq.does_pure (Rq.wanted_none rfl) (by simp [execOp, e1, go_sem]) rfl hS (rR _ _)
  · intro L a w1 hL hS hb hd
    have e0 := hb 0 (Rq.nw (by decide))
    simp [Act.eval] at e0
    exact Rq.does_pure (Rq.wanted_none rfl) (by simp [execOp, e0, go_sem]) rfl hS (rR _ _)
  · intro L a w1 hL hS hb hd
    have p11 := (hd ⟨1, .data⟩ (by simp) rfl).2 _ _ rfl rfl
    have e11 : a.tmps[11]?.getD undef = (.pointer (some ⟨p, 0, none⟩)) := Rq.slot p11
    exact Rq.does_pure (Rq.wanted_none rfl) (by simp [execOp, e11, go_sem]) rfl hS (rR _ _)
  · intro L a w1 hL hS hb hd
    have p12 := (hd ⟨2, .data⟩ (by simp) rfl).2 _ _ rfl rfl
    have e12 : a.tmps[12]?.getD undef = (.pointer (some ⟨p, 0, none⟩)) := Rq.slot p12
    exact Rq.does_pure (Rq.wanted_none rfl) (by simp [execOp, e12, go_sem]) rfl hS (rR _ _)
  · intro L a w1 hL hS hb hd
    have p13 := (hd ⟨3, .data⟩ (by simp) rfl).2 _ _ rfl rfl
    have e13 : a.tmps[13]?.getD undef = (.pointer (some ⟨p, 1, none⟩)) := Rq.slot p13
    exact Rq.does_pure (Rq.wanted_none rfl) (by simp [execOp, e13, cell1 hS.1, go_sem]) rfl hS (rR _ _)
  · intro L a w1 hL hS hb hd
    have e0 := hb 0 (Rq.nw (by decide))
    simp [Act.eval] at e0
    exact Rq.does_pure (Rq.wanted_none rfl) (by simp [execOp, e0, go_sem]) rfl hS (rR _ _)
  · intro L a w1 hL hS hb hd
    have p15 := (hd ⟨5, .data⟩ (by simp) rfl).2 _ _ rfl rfl
    have e15 : a.tmps[15]?.getD undef = (.pointer (some ⟨p, 0, none⟩)) := Rq.slot p15
    exact Rq.does_pure (Rq.wanted_none rfl) (by simp [execOp, e15, go_sem]) rfl hS (rR _ _)
  · intro L a w1 hL hS hb hd
    have p16 := (hd ⟨6, .data⟩ (by simp) rfl).2 _ _ rfl rfl
    have e16 : a.tmps[16]?.getD undef = (.pointer (some ⟨p, 0, none⟩)) := Rq.slot p16
    exact Rq.does_pure (Rq.wanted_none rfl) (by simp [execOp, e16, go_sem]) rfl hS (rR _ _)
  · intro L a w1 hL hS hb hd
    have p17 := (hd ⟨7, .data⟩ (by simp) rfl).2 _ _ rfl rfl
    have e17 : a.tmps[17]?.getD undef = (.pointer (some ⟨p, 2, none⟩)) := Rq.slot p17
    exact Rq.does_pure (Rq.wanted_none rfl) (by simp [execOp, e17, cell2 hS.1, go_sem]) rfl hS (rR _ _)
  · intro L a w1 hL hS hb hd
    have p14 := (hd ⟨4, .data⟩ (by simp) rfl).2 _ _ rfl rfl
    have e14 : a.tmps[14]?.getD undef = (.slice A' n c) := Rq.slot p14
    have p18 := (hd ⟨8, .data⟩ (by simp) rfl).2 _ _ rfl rfl
    have e18 : a.tmps[18]?.getD undef = (.int .i64 (k0 : Int)) := Rq.slot p18
    exact Rq.does_pure (Rq.wanted_none rfl) (by simp [execOp, e14, e18, hcut, go_sem]) rfl hS (rR _ _)
  · intro L a w1 hL hS hb hd
    have p10 := (hd ⟨0, .data⟩ (by simp) rfl).2 _ _ rfl rfl
    have e10 : a.tmps[10]?.getD undef = (.func (.func f) #[] caps) := Rq.slot p10
    have p19 := (hd ⟨9, .data⟩ (by simp) rfl).2 _ _ rfl rfl
    have e19 : a.tmps[19]?.getD undef = (.slice A2 (n - k0) (c - k0)) := Rq.slot p19
    refine Rq.does_call (f := f) (args := (#[.slice A2 (n - k0) (c - k0)] ++ caps)) (Rq.wanted_none rfl) (by simp [e10, e19, hf, go_sem]) ?_
    exact HCL w1 L hS hL
  · intro L a w1 hL hS hb hd
    have p20 := (hd ⟨10, .data⟩ (by simp) rfl).2 _ _ rfl rfl
    have e20 : a.tmps[20]?.getD undef = (.tuple #[.int .i64 (k : Int), .int .i64 x]) := Rq.slot p20
    exact Rq.does_pure (Rq.wanted_none rfl) (by simp [execOp, e20, go_sem]) rfl hS (rR _ _)
  · intro L a w1 hL hS hb hd
    have p9 := (hd ⟨11, .data⟩ (by simp) rfl).2 _ _ rfl rfl
    have e9 : a.tmps[9]?.getD undef = (.tuple #[.int .i64 (k : Int), .int .i64 x]) := Rq.slot p9
    exact Rq.does_pure (Rq.wanted_none rfl) (by simp [execOp, e9, go_sem]) rfl hS (rR _ _)
  · intro L a w1 hL hS hb hd
    have p9 := (hd ⟨11, .data⟩ (by simp) rfl).2 _ _ rfl rfl
    have e9 : a.tmps[9]?.getD undef = (.tuple #[.int .i64 (k : Int), .int .i64 x]) := Rq.slot p9
    exact Rq.does_pure (Rq.wanted_none rfl) (by simp [execOp, e9, go_sem]) rfl hS (rR _ _)
  · intro L a w1 hL hS hb hd
    have p21 := (hd ⟨12, .data⟩ (by simp) rfl).2 _ _ rfl rfl
    have e21 : a.tmps[21]?.getD undef = (.int .i64 (k : Int)) := Rq.slot p21
    exact Rq.does_pure (Rq.wanted_none rfl) (by simp [execOp, e21, go_sem]) rfl hS (rR _ _)
  · intro L a w1 hL hS hb hd
    have p22 := (hd ⟨13, .data⟩ (by simp) rfl).2 _ _ rfl rfl
    have e22 : a.tmps[22]?.getD undef = (.int .i64 x) := Rq.slot p22
    exact Rq.does_pure (Rq.wanted_none rfl) (by simp [execOp, e22, go_sem]) rfl hS (rR _ _)
  · intro L v w7 hS hL hF
    have v14 : v 14 = .int .i64 (k : Int) := hF 14 _ _ rfl rfl
    have v15 : v 15 = .int .i64 x := hF 15 _ _ rfl rfl
    obtain ⟨hp7, _, h78⟩ := hS
    obtain ⟨hT7, hK7⟩ := h78 (hL 10 (by simp))
    obtain ⟨h, h3, h4, h5, h7⟩ := HH.out
    have q2 := cell2 hp7
    have f2 := frozen_of_row _ p 2 _ _ hp7
    have hB7 : Bys w7 w7.heap.size A' n c bs := hT7.bys h4 (fun _ ad e => hGF _ (h5 ad e).1)
    have hT8 : Tn (Pt (some ⟨p, 0, none⟩)) w7 (w7.setCell ⟨p, 2, none⟩ (.int .i64 ((k0 : Int) + (k : Int)))) := (Tn.refl (Pt (some ⟨p, 0, none⟩)) w7).set_ (p := ⟨p, 2, none⟩) (Or.inr rfl) _
    have hB8 := hT8.bys hB7 (fun _ ad e hp => (h5 ad e).2 (by unfold Pt at hp; injection hp with hp; injection hp with hp; exact hp.symm))
    have hR8 : Rd (w7.setCell ⟨p, 2, none⟩ (.int .i64 ((k0 : Int) + (k : Int)))) (some ⟨p, 0, none⟩) F (r.drop k) 0 := by
      refine ⟨fun b hb => Nat.lt_of_lt_of_le (h.lt b hb) (Nat.le_trans hT7.size hT8.size), h.2.1, Or.inr (Or.inr (Or.inr ⟨p, A', n, c, k0 + k, bs, rfl, h2, ?_, hB8, h5, hkn, ?_, rfl⟩))⟩
      · rw [blk_set hp7]; simp
      · rw [h7, List.drop_drop]
    have hK8 := hK _ _ hK7 hT8
    have hT9 : Tn (fun b => Pt (some ⟨p, 0, none⟩) b ∨ G b) w (w7.setCell ⟨p, 2, none⟩ (.int .i64 ((k0 : Int) + (k : Int)))) := (hT7.more (fun b _ hb => Or.inr hb)).trans hT8 (fun b _ hb => Or.inl hb)
    have ALL := Lib.hid (And.intro hR8 (And.intro hK8 hT9))
    simp only [Rq.putAll, v14, v15]
    simp only [Act.put, List.setIfInBounds_toArray, List.set_cons_succ, List.set_cons_zero]
    clear hc2 HCL hS0 hF v14 v15 hp7 h78 hT7 hK7 h h3 h4 h5 h7 hB7 hT8 hB8 hR8 hK8 hT9 HC HE hL hcut hf
    go_wp2_with fail
    obtain ⟨hR8, hK8, hT9⟩ := ALL.out
    rcases HX.out with ⟨rfl, hk⟩ | ⟨hx, rfl⟩
    · refine (fail_ok0 _ F _ _ hR8).mono ?_
      rintro en w' ⟨rfl, rfl⟩
      go_wp2_with fail
      exact ⟨rfl, _, results_none (by kernel_rfl), rfl, by simpa using hR8, hT9, hK8⟩
    · refine (fail_now _ F _ x _ hR8 hx hI).mono ?_
      rintro en w9 ⟨rfl, hR9, hT10⟩
      go_wp2_with fail
      exact ⟨rfl, _, results_none (by kernel_rfl), rfl, by simpa [hx] using hR9, hT9.trans hT10 (fun b _ hb => Or.inl hb), hK _ _ hK8 hT10⟩
end Go.Proofs.Ytaboamkfpolpbaa.Wi
