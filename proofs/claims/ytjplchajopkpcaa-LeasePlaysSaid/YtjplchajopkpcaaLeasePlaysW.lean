/-
  LeasePlays's walk: leases, of any at first, under any calls tell what the document's tell; copies live apart: it returns true; nothing that was there turns. Conditions: what the law is given can be read as data.
-/
import Derived.Test.YtjplchajopkpcaaLsY
import Derived.Deep.CutBlock
import Derived.Deep.DeepCutAuto
namespace Go.Proofs.Ytjplchajopkpcaa.leasePlays
open Go.RowKit

/-- while the first ones are laid -/
def PlF (W : World) (K : Nat) (F : Pl.Mks) (mi i : Value) (wr : World) : Prop := ∃ (j : Nat) (A : Option Addr) (c : Nat), i = .int .i64 (j : Int) ∧ mi = .slice A j c ∧ j ≤ K ∧ OwnR encLs 2 28 wr W.heap.size (.slice A j c) (F.take j) ∧ Below W.heap.size W wr
/-- between one call and the next -/
def PlS (W : World) (q n : Nat) (P i : Value) (wr : World) : Prop := ∃ (j p b : Nat) (A : Option Addr) (c : Nat) (M : Pl.Mks), i = .int .i64 (j : Int) ∧ P = .pointer (some ⟨p, 0, none⟩) ∧ j ≤ n ∧ j ≤ 100 ∧ M.length ≤ 16 ∧ LeasesO wr W.heap.size p b M ∧ RefL wr W.heap.size q A c M ∧ Below W.heap.size W wr
set_option maxRecDepth 100000 in
set_option maxHeartbeats 16000000 in
theorem walk (W : World) (A : Option Addr) (n c : Nat) (F0 : Pl.Mks) (hF : Rws encLs W W.heap.size A n c F0 ∧ ∀ o ∈ F0, (0 ≤ o.1 ∧ o.1 < 4294967296) ∧ 0 ≤ o.2) (A' : Option Addr) (n' c' : Nat) (OL : List OpLs) (hO : Rws encOp W W.heap.size A' n' c' OL ∧ ∀ o ∈ OL, (0 ≤ o.x ∧ o.x < 4294967296) ∧ (0 ≤ o.t ∧ (Lit.int .u64 o.t).wf = true)) :
    Calls Try.prog 3 #[.slice A n c, .slice A' n' c'] W fun e w' => e = .returned (.bool true) ∧ Below W.heap.size W w' := by
  obtain ⟨hrow, hby⟩ := hF
  obtain ⟨hrow', hby'⟩ := hO
  obtain ⟨K, hK⟩ : ∃ K, K = min n 20 := ⟨_, rfl⟩
  have hle := hrow.le
  have hcap := hrow.cap
  have hle' := hrow'.le
  have hcap' := hrow'.cap
  unfold maxLen at hcap hcap'
  have hmin : (if (20 : Int) < (n : Int) then (20 : Int) else (n : Int)) = (K : Int) := by split <;> omega
  have hmin2 : min (n : Int) 20 = (K : Int) := by omega
  have sM := slice_ls_to A n c K (by omega)
  obtain ⟨F, hFF⟩ : ∃ F, F = F0.take K := ⟨_, rfl⟩
  have HR := Lib.hid (show Rws encLs W W.heap.size A K c F by rw [hFF]; exact Rws.upto encLs_len hrow (by omega))
  have HFB := Lib.hid (show ∀ o ∈ F, (0 ≤ o.1 ∧ o.1 < 4294967296) ∧ 0 ≤ o.2 from fun o ho => hby o (List.mem_of_mem_take (by rw [hFF] at ho; exact ho)))
  have HKK := Lib.hid (show K ≤ 20 ∧ K ≤ n by omega)
  have HOP := Lib.hid hrow'
  have HOB := Lib.hid hby'
  have HWK := fun w => Lib.hid (wakes_any w)
  have hkc : K ≤ c := by omega
  clear hrow hby hrow' hby' hK hFF
  go_enter Try.func3, Try.ntmps3
  go_wp2_with fail
  clear hmin hmin2 sM
  go_loopw [5, 6] (fun mi i wr => PlF W K F mi i wr) (fun _ i _ => K - (intOf i).toNat)
  case atStart => exact ⟨0, none, 0, rfl, rfl, Nat.zero_le _, OwnR.nil_ _ _ _ _ _, Below.refl _ _⟩
  case round =>
    obtain ⟨j, At, ct, rfl, rfl, hj, ho, hb⟩ := hrel
    have HO := Lib.hid ho
    have HB := Lib.hid hb
    by_cases hlt : j < K
    · have z1 : (j : Int) < (K : Int) := Int.ofNat_lt.2 hlt
      have z0 : (0 : Int) ≤ (j : Int) := Int.natCast_nonneg _
      have z12 : (K : Int) ≤ 20 := by have := HKK.out; omega
      obtain ⟨g, o, rfl, _, hc⟩ := Rws.at_ encLs_len (Rws.then_ HR.out hb) hlt
      have c0 := hc j hlt 0 _ (by decide) rfl
      have c1 := hc j hlt 1 _ (by decide) rfl
      have HTK := Lib.hid (show F.take (j + 1) = F.take j ++ [F.getD j default] by
        have hl := HR.out.len
        rw [List.take_succ_eq_append_getElem (by omega), List.getD_eq_getElem?_getD, List.getElem?_eq_getElem (by omega)]
        rfl)
      obtain ⟨⟨xk, vk⟩, hxk⟩ : ∃ q, q = F.getD j default := ⟨_, rfl⟩
      rw [← hxk] at c0 c1 HTK
      simp only [Nat.add_zero, ← Nat.add_assoc] at c0 c1
      have hlit := OwnR.lit (e := 28) encLs_len wr [(xk, vk)] (by simp [maxLen])
      have hab := below_alloc (Below.refl wr.heap.size wr) (.cells #[.int .u32 xk, .int .u64 vk] 28)
      have HOW := Lib.hid (OwnR.then_ HO.out hab)
      have HRW := Lib.hid (hlit.rws encLs_len).2
      have HB5 := Lib.hid (below_then HB.out hab)
      have hsz := HB5.out.size
      have HMS := Lib.hid (show K - (j + 1) < K - j by omega)
      have HLT := Lib.hid hlt
      clear hc hxk hlit hab ho hb hlt hj
      go_wp2_with (at_builtin; refine wpList_append_rws encLs_len encLs_one Try.underlying24 infoLn (by decide) (by decide) (wr.alloc (.cells #[.int .u32 xk, .int .u64 vk] 28)) rfl (.tmp 27) (.tmp 32) rfl W.heap.size At j ct (F.take j) (by rfl) HOW.out _ (some ⟨wr.heap.size, 0, none⟩) 1 1 [(xk, vk)] (by rfl) HRW.out (by unfold maxLen; omega) (by omega) hsz ?_)
      intro A6 c6 w6 h6 hg6 _
      rw [← HTK.out] at h6
      have HO6 := Lib.hid h6
      have HB6 := Lib.hid (OwnR.grownBelow HOW.out hg6 HB5.out hsz)
      clear h6 hg6 c0 c1 hsz
      go_wp2_with fail
      go_roundw
      case rel => exact ⟨j + 1, A6, c6, by go_num, rfl, HLT.out, HO6.out, HB6.out⟩
      case measure => simp [intOf]; (have := HMS.out; omega)
    · have z1 : decide ((j : Int) < (K : Int)) = false := decide_eq_false (by omega)
      have z1n : decide (j < K) = false := decide_eq_false hlt
      have hjm : j = K := by omega
      rw [hjm, List.take_of_length_le (by rw [HR.out.len]; exact Nat.le_refl _)] at ho
      obtain rfl : K = j := hjm.symm
      have hnw := new_any (OwnR.rws encLs_len ho).2 (by have := HKK.out; omega) HFB.out
      unfold RetNl at hnw
      have HNW := Lib.hid hnw
      have HRB := Lib.hid (Rws.then_ HR.out hb)
      clear ho hb hlt hj hnw HO HR
      go_wp2_with fail
      refine HNW.out.mono ?_
      rintro e w2 ⟨hn0, hn1, hb2⟩
      have HB2 := Lib.hid (below_then HB.out hb2)
      have HSZ := Lib.hid HB.out.size
      have hrn := rnew_any (Rws.then_ HRB.out hb2) (by have := HKK.out; omega)
      unfold RetNw at hrn
      have HRN := Lib.hid hrn
      clear hrn hb2 HNW HRB HB
      by_cases hnl : Pl.newL F = 0
      · obtain ⟨p, b, rfl, h2⟩ := hn0 hnl
        have H2 := Lib.hid h2
        have HNL := Lib.hid hnl
        clear hn0 hn1 hnl h2
        go_wp2_with fail
        refine HRN.out.mono ?_
        rintro e w3 ⟨hr0, _, hb3⟩
        obtain ⟨q, Aq, cq, rfl, h3, hl3⟩ := hr0 HNL.out
        have HX := Lib.hid (show PlS W q n' (.pointer (some ⟨p, 0, none⟩)) (.int .i64 ((0 : Nat) : Int)) w3 from ⟨0, p, b, Aq, cq, _, rfl, rfl, Nat.zero_le _, Nat.zero_le _, Nat.le_trans hl3 (Pl.newL_len HNL.out), (H2.out.then_ hb3).lower HSZ.out, h3.lower HB2.out.size, below_then HB2.out hb3⟩)
        clear hr0 hb3 h3 hl3 HRN HB2 H2 HNL
        go_wp2_with fail
        go_loopw [7, 11] (fun P i wr => PlS W q n' P i wr) (fun _ i _ => n' - (intOf i).toNat)
        case atStart => exact HX.out
        case round =>
          obtain ⟨j, p, b, Aq, cq, M, rfl, rfl, hj, hj100, hm, hx, hy, hb⟩ := hrel
          by_cases hlt : j < n'
          · have z1 : decide ((j : Int) < (n' : Int)) = true := decide_eq_true (by omega)
            have z1n : decide (j < n') = true := decide_eq_true hlt
            have z3 : (j : Int) < (n' : Int) := by omega
            have z0 : (0 : Int) ≤ (j : Int) := Int.natCast_nonneg _
            by_cases h100 : j < 100
            · have z2 : decide ((j : Int) < 100) = true := decide_eq_true (by omega)
              have z2n : decide (j < 100) = true := decide_eq_true h100
              obtain ⟨g, o, rfl, hg, hc⟩ := Rws.at_ encOp_len HOP.out hlt
              have c0 := hc j hlt 0 _ (by decide) rfl
              have c1 := hc j hlt 1 _ (by decide) rfl
              have c2 := hc j hlt 2 _ (by decide) rfl
              have hbd := HOB.out (OL.getD j default) (by rw [List.getD_eq_getElem?_getD, List.getElem?_eq_getElem (by rw [HOP.out.len]; exact hlt)]; exact List.getElem_mem _)
              obtain ⟨⟨k, x, t⟩, ho⟩ : ∃ z, z = OL.getD j default := ⟨_, rfl⟩
              rw [← ho] at c0 c1 c2 hbd
              rw [← hb.cell (p := ⟨g, _, none⟩) hg] at c0 c1 c2
              simp only [Nat.add_zero, ← Nat.add_assoc] at c0 c1 c2 hbd
              obtain ⟨V, hV, hbV, hbox⟩ := op_new wr k x t
              have HS := Lib.hid (show PyS W V p b q wr.heap.size Aq cq k x t M M from ⟨hx.then_ hbV, hy.then_ hbV, hbox, below_then hb hbV⟩)
              have HM := Lib.hid hm
              have HV := Lib.hid hV
              have HBD := Lib.hid hbd
              have HLT := Lib.hid (And.intro hlt h100)
              have HMS := Lib.hid (show n' - (j + 1) < n' - j by omega)
              clear hc hg ho hV hbV hbox hx hy hb hm hbd hlt h100 hj hj100
              go_upto_block 4 with fail
              rw [← HV.out]
              have d0 := HS.out.cells.1
              have d1 := HS.out.cells.2.1
              have d2 := HS.out.cells.2.2
              go_cut [7, 13] (fun P R wx => ∃ (p b : Nat) (A2 : Option Addr) (c2 : Nat) (M' : Pl.Mks), P = .pointer (some ⟨p, 0, none⟩) ∧ R = .bool true ∧ M'.length ≤ 16 ∧ PyS W wx p b q wr.heap.size A2 c2 k x t M' M')
              case first =>
                clear c0 c1 c2
                by_cases k0 : k = 0
                · subst k0
                  obtain ⟨⟨r, M'⟩, hst⟩ : ∃ z, z = Pl.setL M x t := ⟨_, rfl⟩
                  have hml : M'.length ≤ 16 := by have := Pl.set_len HM.out x t; rw [← hst] at this; exact this
                  have HML := Lib.hid hml
                  have HBX' := Lib.hid (show ∀ L w1, BkG (fun w => PyS W w p b q wr.heap.size Aq cq 0 x t M M) (fun w => PyS W w p b q wr.heap.size Aq cq 0 x t M' M) (fun w => ∃ A2 c2, PyS W w p b q wr.heap.size A2 c2 0 x t M' M') 5 11 L w1 → w1.cell? ⟨wr.heap.size, 1, none⟩ = some (.int .u32 x) ∧ w1.cell? ⟨wr.heap.size, 2, none⟩ = some (.int .u64 t) from fun L w1 h => h.any (fun _ h => h.cells.2) (fun _ h => h.cells.2) (fun _ ⟨_, _, h⟩ => h.cells.2))
                  have HC1' := Lib.hid (show ∀ L w1, L 5 = false → BkG (fun w => PyS W w p b q wr.heap.size Aq cq 0 x t M M) (fun w => PyS W w p b q wr.heap.size Aq cq 0 x t M' M) (fun w => ∃ A2 c2, PyS W w p b q wr.heap.size A2 c2 0 x t M' M') 5 11 L w1 → Calls Try.prog 11 #[.pointer (some ⟨p, 0, none⟩), .int .u32 x, .int .u64 t] w1 fun e w' => e = .returned (.int .i64 r) ∧ PyS W w' p b q wr.heap.size Aq cq 0 x t M' M from fun L w1 hL h => by
                    have h1 := h.2.1 hL
                    have := set_any h1.my.at_ HBD.out.1 t HBD.out.2.1
                    rw [← hst] at this
                    exact this.mono fun _ _ ⟨g1, g2, g3⟩ => ⟨g1, h1.turnx g2 g3⟩)
                  have HC2' := Lib.hid (show ∀ L w1, L 5 = true → L 11 = false → BkG (fun w => PyS W w p b q wr.heap.size Aq cq 0 x t M M) (fun w => PyS W w p b q wr.heap.size Aq cq 0 x t M' M) (fun w => ∃ A2 c2, PyS W w p b q wr.heap.size A2 c2 0 x t M' M') 5 11 L w1 → Calls Try.prog 12 #[.pointer (some ⟨q, 0, none⟩), .int .u32 x, .int .u64 t] w1 fun e w' => e = .returned (.int .i64 r) ∧ ∃ A2 c2, PyS W w' p b q wr.heap.size A2 c2 0 x t M' M' from fun L w1 hL hL2 h => by
                    have h1 := h.2.2.1 hL hL2
                    have := rset_any h1.dy HS.out.my.at_.ok.up (by have := HM.out; omega) h1.below.size x t HBD.out.2.1
                    rw [← hst] at this
                    exact this.mono fun _ _ ⟨A2, c2, g1, g2, g3⟩ => ⟨g1, A2, c2, h1.turny g2 g3⟩)
                  clear hst hml d0 d1 d2
                  go_wp2_with fail
                  have HC1 := HC1'.out
                  have HC2 := HC2'.out
                  have HBX := HBX'.out
                  refine Rq.wp_region_inv (BkG (fun w => PyS W w p b q wr.heap.size Aq cq 0 x t M M) (fun w => PyS W w p b q wr.heap.size Aq cq 0 x t M' M) (fun w => ∃ A2 c2, PyS W w p b q wr.heap.size A2 c2 0 x t M' M') 5 11) PR0 (Rq.Wd.at [.is (.pointer (some ⟨p, 0, none⟩)), .is (.pointer (some ⟨wr.heap.size, 1, none⟩)), .is (.int .u32 x), .is (.pointer (some ⟨wr.heap.size, 2, none⟩)), .is (.int .u64 t), .is (.int .i64 r), .is (.pointer (some ⟨q, 0, none⟩)), .is (.pointer (some ⟨wr.heap.size, 1, none⟩)), .is (.int .u32 x), .is (.pointer (some ⟨wr.heap.size, 2, none⟩)), .is (.int .u64 t), .is (.int .i64 r), .is (.bool true), .is (.bool true)]) (by kernel_rfl) (by kernel_rfl) (Rq.Wd.stays _ _ (fun i q hi => (by rcases i with _ | _ | _ | _ | _ | _ | _ | _ | _ | _ | _ | _ | _ | _ | i <;> simp at hi))) (BkG.begin (HS.out.then_ (below_drawn (Below.refl _ _)))) ⟨?_, ?_, ?_, ?_, ?_, ?_, ?_, ?_, ?_, ?_, ?_, ?_, ?_, ?_, trivial⟩ ?_
                  · intro L a w1 hL hS hb hd
                    have e7 := hb 7 (Rq.nw (by decide))
                    simp [Act.eval] at e7
                    exact Rq.does_pure (Rq.wanted_none rfl) (by simp [execOp, e7, go_sem]) rfl (hS.stay (by decide) (by decide)) trivial
                  · intro L a w1 hL hS hb hd
                    have e12 := hb 12 (Rq.nw (by decide))
                    simp [Act.eval] at e12
                    exact Rq.does_pure (Rq.wanted_none rfl) (by simp [execOp, e12, go_sem]) rfl (hS.stay (by decide) (by decide)) trivial
                  · intro L a w1 hL hS hb hd
                    have p80 := (hd ⟨1, .data⟩ (by simp) rfl).2 _ _ rfl rfl
                    have e80 : a.tmps[80]?.getD undef = (.pointer (some ⟨wr.heap.size, 1, none⟩)) := Rq.slot p80
                    exact Rq.does_pure (Rq.wanted_none rfl) (by simp [execOp, e80, (HBX L w1 hS).1, go_sem]) rfl (hS.stay (by decide) (by decide)) trivial
                  · intro L a w1 hL hS hb hd
                    have e12 := hb 12 (Rq.nw (by decide))
                    simp [Act.eval] at e12
                    exact Rq.does_pure (Rq.wanted_none rfl) (by simp [execOp, e12, go_sem]) rfl (hS.stay (by decide) (by decide)) trivial
                  · intro L a w1 hL hS hb hd
                    have p82 := (hd ⟨3, .data⟩ (by simp) rfl).2 _ _ rfl rfl
                    have e82 : a.tmps[82]?.getD undef = (.pointer (some ⟨wr.heap.size, 2, none⟩)) := Rq.slot p82
                    exact Rq.does_pure (Rq.wanted_none rfl) (by simp [execOp, e82, (HBX L w1 hS).2, go_sem]) rfl (hS.stay (by decide) (by decide)) trivial
                  · intro L a w1 hL hS hb hd
                    have p79 := (hd ⟨0, .data⟩ (by simp) rfl).2 _ _ rfl rfl
                    have e79 : a.tmps[79]?.getD undef = (.pointer (some ⟨p, 0, none⟩)) := Rq.slot p79
                    have p81 := (hd ⟨2, .data⟩ (by simp) rfl).2 _ _ rfl rfl
                    have e81 : a.tmps[81]?.getD undef = (.int .u32 x) := Rq.slot p81
                    have p83 := (hd ⟨4, .data⟩ (by simp) rfl).2 _ _ rfl rfl
                    have e83 : a.tmps[83]?.getD undef = (.int .u64 t) := Rq.slot p83
                    refine Rq.does_call (f := 11) (args := #[.pointer (some ⟨p, 0, none⟩), .int .u32 x, .int .u64 t]) (Rq.wanted_none rfl) (by simp [e79, e81, e83, go_sem]) ?_
                    exact (HC1 L w1 hL hS).mono fun e w3 ⟨h0, h1⟩ => ⟨_, h0, rfl, hS.first (by decide) hL h1, trivial⟩
                  · intro L a w1 hL hS hb hd
                    have e9 := hb 9 (Rq.nw (by decide))
                    simp [Act.eval] at e9
                    exact Rq.does_pure (Rq.wanted_none rfl) (by simp [execOp, e9, go_sem]) rfl (hS.stay (by decide) (by decide)) trivial
                  · intro L a w1 hL hS hb hd
                    have e12 := hb 12 (Rq.nw (by decide))
                    simp [Act.eval] at e12
                    exact Rq.does_pure (Rq.wanted_none rfl) (by simp [execOp, e12, go_sem]) rfl (hS.stay (by decide) (by decide)) trivial
                  · intro L a w1 hL hS hb hd
                    have p86 := (hd ⟨7, .data⟩ (by simp) rfl).2 _ _ rfl rfl
                    have e86 : a.tmps[86]?.getD undef = (.pointer (some ⟨wr.heap.size, 1, none⟩)) := Rq.slot p86
                    exact Rq.does_pure (Rq.wanted_none rfl) (by simp [execOp, e86, (HBX L w1 hS).1, go_sem]) rfl (hS.stay (by decide) (by decide)) trivial
                  · intro L a w1 hL hS hb hd
                    have e12 := hb 12 (Rq.nw (by decide))
                    simp [Act.eval] at e12
                    exact Rq.does_pure (Rq.wanted_none rfl) (by simp [execOp, e12, go_sem]) rfl (hS.stay (by decide) (by decide)) trivial
                  · intro L a w1 hL hS hb hd
                    have p88 := (hd ⟨9, .data⟩ (by simp) rfl).2 _ _ rfl rfl
                    have e88 : a.tmps[88]?.getD undef = (.pointer (some ⟨wr.heap.size, 2, none⟩)) := Rq.slot p88
                    exact Rq.does_pure (Rq.wanted_none rfl) (by simp [execOp, e88, (HBX L w1 hS).2, go_sem]) rfl (hS.stay (by decide) (by decide)) trivial
                  · intro L a w1 hL hS hb hd
                    have p85 := (hd ⟨6, .data⟩ (by simp) rfl).2 _ _ rfl rfl
                    have e85 : a.tmps[85]?.getD undef = (.pointer (some ⟨q, 0, none⟩)) := Rq.slot p85
                    have p87 := (hd ⟨8, .data⟩ (by simp) rfl).2 _ _ rfl rfl
                    have e87 : a.tmps[87]?.getD undef = (.int .u32 x) := Rq.slot p87
                    have p89 := (hd ⟨10, .data⟩ (by simp) rfl).2 _ _ rfl rfl
                    have e89 : a.tmps[89]?.getD undef = (.int .u64 t) := Rq.slot p89
                    refine Rq.does_call (f := 12) (args := #[.pointer (some ⟨q, 0, none⟩), .int .u32 x, .int .u64 t]) (Rq.wanted_none rfl) (by simp [e85, e87, e89, go_sem]) ?_
                    exact (HC2 L w1 (hd ⟨5, .chain⟩ (by simp) rfl).1 hL hS).mono fun e w3 ⟨h0, h1⟩ => ⟨_, h0, rfl, BkG.second (by decide) (hd ⟨5, .chain⟩ (by simp) rfl).1 h1, trivial⟩
                  · intro L a w1 hL hS hb hd
                    have p84 := (hd ⟨5, .data⟩ (by simp) rfl).2 _ _ rfl rfl
                    have e84 : a.tmps[84]?.getD undef = (.int .i64 r) := Rq.slot p84
                    have p90 := (hd ⟨11, .data⟩ (by simp) rfl).2 _ _ rfl rfl
                    have e90 : a.tmps[90]?.getD undef = (.int .i64 r) := Rq.slot p90
                    exact Rq.does_pure (Rq.wanted_none rfl) (by simp [execOp, e84, e90, go_sem]) rfl (hS.stay (by decide) (by decide)) trivial
                  · intro L a w1 hL hS hb hd
                    have p91 := (hd ⟨12, .data⟩ (by simp) rfl).2 _ _ rfl rfl
                    have e91 : a.tmps[91]?.getD undef = (.bool true) := Rq.slot p91
                    exact Rq.does_pure (Rq.wanted_none rfl) (by simp [execOp, e91, go_sem]) rfl (hS.stay (by decide) (by decide)) trivial
                  intro L v w3 hS hall hv
                  have h13 : v 13 = .bool true := hv 13 _ _ rfl rfl
                  obtain ⟨A2, c2, hS3⟩ := hS.2.2.2 (hall 5 (by decide)) (hall 11 (by decide))
                  have HS3 := Lib.hid hS3
                  simp only [Rq.putAll, Nat.zero_add, Nat.reduceAdd]
                  simp only [Act.put, List.setIfInBounds_toArray, List.set_cons_succ, List.set_cons_zero]
                  rw [h13]
                  clear h13 hS hS3 hall hv HC1 HC2 HBX HC1' HC2' HBX' HS
                  go_wp2_with fail
                  go_meet
                  exact ⟨p, b, A2, c2, M', rfl, rfl, HML.out, HS3.out⟩
                · have hk0 : (k == 0) = false := by rw [beq_eq_false_iff_ne]; exact k0
                  by_cases k1 : k = 1
                  · subst k1
                    as_aux_lemma =>
                      obtain ⟨⟨r, M'⟩, hst⟩ : ∃ z, z = Pl.setL M x t := ⟨_, rfl⟩
                      have hml : M'.length ≤ 16 := by have := Pl.set_len HM.out x t; rw [← hst] at this; exact this
                      have HML := Lib.hid hml
                      have HBX' := Lib.hid (show ∀ L w1, BkG (fun w => PyS W w p b q wr.heap.size Aq cq 1 x t M M) (fun w => PyS W w p b q wr.heap.size Aq cq 1 x t M' M) (fun w => ∃ A2 c2, PyS W w p b q wr.heap.size A2 c2 1 x t M' M') 5 11 L w1 → w1.cell? ⟨wr.heap.size, 1, none⟩ = some (.int .u32 x) ∧ w1.cell? ⟨wr.heap.size, 2, none⟩ = some (.int .u64 t) from fun L w1 h => h.any (fun _ h => h.cells.2) (fun _ h => h.cells.2) (fun _ ⟨_, _, h⟩ => h.cells.2))
                      have HC1' := Lib.hid (show ∀ L w1, L 5 = false → BkG (fun w => PyS W w p b q wr.heap.size Aq cq 1 x t M M) (fun w => PyS W w p b q wr.heap.size Aq cq 1 x t M' M) (fun w => ∃ A2 c2, PyS W w p b q wr.heap.size A2 c2 1 x t M' M') 5 11 L w1 → Calls Try.prog 11 #[.pointer (some ⟨p, 0, none⟩), .int .u32 x, .int .u64 t] w1 fun e w' => e = .returned (.int .i64 r) ∧ PyS W w' p b q wr.heap.size Aq cq 1 x t M' M from fun L w1 hL h => by
                        have h1 := h.2.1 hL
                        have := set_any h1.my.at_ HBD.out.1 t HBD.out.2.1
                        rw [← hst] at this
                        exact this.mono fun _ _ ⟨g1, g2, g3⟩ => ⟨g1, h1.turnx g2 g3⟩)
                      have HC2' := Lib.hid (show ∀ L w1, L 5 = true → L 11 = false → BkG (fun w => PyS W w p b q wr.heap.size Aq cq 1 x t M M) (fun w => PyS W w p b q wr.heap.size Aq cq 1 x t M' M) (fun w => ∃ A2 c2, PyS W w p b q wr.heap.size A2 c2 1 x t M' M') 5 11 L w1 → Calls Try.prog 12 #[.pointer (some ⟨q, 0, none⟩), .int .u32 x, .int .u64 t] w1 fun e w' => e = .returned (.int .i64 r) ∧ ∃ A2 c2, PyS W w' p b q wr.heap.size A2 c2 1 x t M' M' from fun L w1 hL hL2 h => by
                        have h1 := h.2.2.1 hL hL2
                        have := rset_any h1.dy HS.out.my.at_.ok.up (by have := HM.out; omega) h1.below.size x t HBD.out.2.1
                        rw [← hst] at this
                        exact this.mono fun _ _ ⟨A2, c2, g1, g2, g3⟩ => ⟨g1, A2, c2, h1.turny g2 g3⟩)
                      clear hst hml d0 d1 d2
                      go_wp2_with fail
                      have HC1 := HC1'.out
                      have HC2 := HC2'.out
                      have HBX := HBX'.out
                      refine Rq.wp_region_inv (BkG (fun w => PyS W w p b q wr.heap.size Aq cq 1 x t M M) (fun w => PyS W w p b q wr.heap.size Aq cq 1 x t M' M) (fun w => ∃ A2 c2, PyS W w p b q wr.heap.size A2 c2 1 x t M' M') 5 11) PR0 (Rq.Wd.at [.is (.pointer (some ⟨p, 0, none⟩)), .is (.pointer (some ⟨wr.heap.size, 1, none⟩)), .is (.int .u32 x), .is (.pointer (some ⟨wr.heap.size, 2, none⟩)), .is (.int .u64 t), .is (.int .i64 r), .is (.pointer (some ⟨q, 0, none⟩)), .is (.pointer (some ⟨wr.heap.size, 1, none⟩)), .is (.int .u32 x), .is (.pointer (some ⟨wr.heap.size, 2, none⟩)), .is (.int .u64 t), .is (.int .i64 r), .is (.bool true), .is (.bool true)]) (by kernel_rfl) (by kernel_rfl) (Rq.Wd.stays _ _ (fun i q hi => (by rcases i with _ | _ | _ | _ | _ | _ | _ | _ | _ | _ | _ | _ | _ | _ | i <;> simp at hi))) (BkG.begin (HS.out.then_ (below_drawn (Below.refl _ _)))) ⟨?_, ?_, ?_, ?_, ?_, ?_, ?_, ?_, ?_, ?_, ?_, ?_, ?_, ?_, trivial⟩ ?_
                      · intro L a w1 hL hS hb hd
                        have e7 := hb 7 (Rq.nw (by decide))
                        simp [Act.eval] at e7
                        exact Rq.does_pure (Rq.wanted_none rfl) (by simp [execOp, e7, go_sem]) rfl (hS.stay (by decide) (by decide)) trivial
                      · intro L a w1 hL hS hb hd
                        have e12 := hb 12 (Rq.nw (by decide))
                        simp [Act.eval] at e12
                        exact Rq.does_pure (Rq.wanted_none rfl) (by simp [execOp, e12, go_sem]) rfl (hS.stay (by decide) (by decide)) trivial
                      · intro L a w1 hL hS hb hd
                        have p80 := (hd ⟨1, .data⟩ (by simp) rfl).2 _ _ rfl rfl
                        have e80 : a.tmps[80]?.getD undef = (.pointer (some ⟨wr.heap.size, 1, none⟩)) := Rq.slot p80
                        exact Rq.does_pure (Rq.wanted_none rfl) (by simp [execOp, e80, (HBX L w1 hS).1, go_sem]) rfl (hS.stay (by decide) (by decide)) trivial
                      · intro L a w1 hL hS hb hd
                        have e12 := hb 12 (Rq.nw (by decide))
                        simp [Act.eval] at e12
                        exact Rq.does_pure (Rq.wanted_none rfl) (by simp [execOp, e12, go_sem]) rfl (hS.stay (by decide) (by decide)) trivial
                      · intro L a w1 hL hS hb hd
                        have p82 := (hd ⟨3, .data⟩ (by simp) rfl).2 _ _ rfl rfl
                        have e82 : a.tmps[82]?.getD undef = (.pointer (some ⟨wr.heap.size, 2, none⟩)) := Rq.slot p82
                        exact Rq.does_pure (Rq.wanted_none rfl) (by simp [execOp, e82, (HBX L w1 hS).2, go_sem]) rfl (hS.stay (by decide) (by decide)) trivial
                      · intro L a w1 hL hS hb hd
                        have p79 := (hd ⟨0, .data⟩ (by simp) rfl).2 _ _ rfl rfl
                        have e79 : a.tmps[79]?.getD undef = (.pointer (some ⟨p, 0, none⟩)) := Rq.slot p79
                        have p81 := (hd ⟨2, .data⟩ (by simp) rfl).2 _ _ rfl rfl
                        have e81 : a.tmps[81]?.getD undef = (.int .u32 x) := Rq.slot p81
                        have p83 := (hd ⟨4, .data⟩ (by simp) rfl).2 _ _ rfl rfl
                        have e83 : a.tmps[83]?.getD undef = (.int .u64 t) := Rq.slot p83
                        refine Rq.does_call (f := 11) (args := #[.pointer (some ⟨p, 0, none⟩), .int .u32 x, .int .u64 t]) (Rq.wanted_none rfl) (by simp [e79, e81, e83, go_sem]) ?_
                        exact (HC1 L w1 hL hS).mono fun e w3 ⟨h0, h1⟩ => ⟨_, h0, rfl, hS.first (by decide) hL h1, trivial⟩
                      · intro L a w1 hL hS hb hd
                        have e9 := hb 9 (Rq.nw (by decide))
                        simp [Act.eval] at e9
                        exact Rq.does_pure (Rq.wanted_none rfl) (by simp [execOp, e9, go_sem]) rfl (hS.stay (by decide) (by decide)) trivial
                      · intro L a w1 hL hS hb hd
                        have e12 := hb 12 (Rq.nw (by decide))
                        simp [Act.eval] at e12
                        exact Rq.does_pure (Rq.wanted_none rfl) (by simp [execOp, e12, go_sem]) rfl (hS.stay (by decide) (by decide)) trivial
                      · intro L a w1 hL hS hb hd
                        have p86 := (hd ⟨7, .data⟩ (by simp) rfl).2 _ _ rfl rfl
                        have e86 : a.tmps[86]?.getD undef = (.pointer (some ⟨wr.heap.size, 1, none⟩)) := Rq.slot p86
                        exact Rq.does_pure (Rq.wanted_none rfl) (by simp [execOp, e86, (HBX L w1 hS).1, go_sem]) rfl (hS.stay (by decide) (by decide)) trivial
                      · intro L a w1 hL hS hb hd
                        have e12 := hb 12 (Rq.nw (by decide))
                        simp [Act.eval] at e12
                        exact Rq.does_pure (Rq.wanted_none rfl) (by simp [execOp, e12, go_sem]) rfl (hS.stay (by decide) (by decide)) trivial
                      · intro L a w1 hL hS hb hd
                        have p88 := (hd ⟨9, .data⟩ (by simp) rfl).2 _ _ rfl rfl
                        have e88 : a.tmps[88]?.getD undef = (.pointer (some ⟨wr.heap.size, 2, none⟩)) := Rq.slot p88
                        exact Rq.does_pure (Rq.wanted_none rfl) (by simp [execOp, e88, (HBX L w1 hS).2, go_sem]) rfl (hS.stay (by decide) (by decide)) trivial
                      · intro L a w1 hL hS hb hd
                        have p85 := (hd ⟨6, .data⟩ (by simp) rfl).2 _ _ rfl rfl
                        have e85 : a.tmps[85]?.getD undef = (.pointer (some ⟨q, 0, none⟩)) := Rq.slot p85
                        have p87 := (hd ⟨8, .data⟩ (by simp) rfl).2 _ _ rfl rfl
                        have e87 : a.tmps[87]?.getD undef = (.int .u32 x) := Rq.slot p87
                        have p89 := (hd ⟨10, .data⟩ (by simp) rfl).2 _ _ rfl rfl
                        have e89 : a.tmps[89]?.getD undef = (.int .u64 t) := Rq.slot p89
                        refine Rq.does_call (f := 12) (args := #[.pointer (some ⟨q, 0, none⟩), .int .u32 x, .int .u64 t]) (Rq.wanted_none rfl) (by simp [e85, e87, e89, go_sem]) ?_
                        exact (HC2 L w1 (hd ⟨5, .chain⟩ (by simp) rfl).1 hL hS).mono fun e w3 ⟨h0, h1⟩ => ⟨_, h0, rfl, BkG.second (by decide) (hd ⟨5, .chain⟩ (by simp) rfl).1 h1, trivial⟩
                      · intro L a w1 hL hS hb hd
                        have p84 := (hd ⟨5, .data⟩ (by simp) rfl).2 _ _ rfl rfl
                        have e84 : a.tmps[84]?.getD undef = (.int .i64 r) := Rq.slot p84
                        have p90 := (hd ⟨11, .data⟩ (by simp) rfl).2 _ _ rfl rfl
                        have e90 : a.tmps[90]?.getD undef = (.int .i64 r) := Rq.slot p90
                        exact Rq.does_pure (Rq.wanted_none rfl) (by simp [execOp, e84, e90, go_sem]) rfl (hS.stay (by decide) (by decide)) trivial
                      · intro L a w1 hL hS hb hd
                        have p91 := (hd ⟨12, .data⟩ (by simp) rfl).2 _ _ rfl rfl
                        have e91 : a.tmps[91]?.getD undef = (.bool true) := Rq.slot p91
                        exact Rq.does_pure (Rq.wanted_none rfl) (by simp [execOp, e91, go_sem]) rfl (hS.stay (by decide) (by decide)) trivial
                      intro L v w3 hS hall hv
                      have h13 : v 13 = .bool true := hv 13 _ _ rfl rfl
                      obtain ⟨A2, c2, hS3⟩ := hS.2.2.2 (hall 5 (by decide)) (hall 11 (by decide))
                      have HS3 := Lib.hid hS3
                      simp only [Rq.putAll, Nat.zero_add, Nat.reduceAdd]
                      simp only [Act.put, List.setIfInBounds_toArray, List.set_cons_succ, List.set_cons_zero]
                      rw [h13]
                      clear h13 hS hS3 hall hv HC1 HC2 HBX HC1' HC2' HBX' HS
                      go_wp2_with fail
                      go_meet
                      exact ⟨p, b, A2, c2, M', rfl, rfl, HML.out, HS3.out⟩
                  · have hk1 : (k == 1) = false := by rw [beq_eq_false_iff_ne]; exact k1
                    by_cases k2 : k = 2
                    · subst k2
                      as_aux_lemma =>
                        obtain ⟨⟨r, M'⟩, hst⟩ : ∃ z, z = Pl.setL M x t := ⟨_, rfl⟩
                        have hml : M'.length ≤ 16 := by have := Pl.set_len HM.out x t; rw [← hst] at this; exact this
                        have HML := Lib.hid hml
                        have HBX' := Lib.hid (show ∀ L w1, BkG (fun w => PyS W w p b q wr.heap.size Aq cq 2 x t M M) (fun w => PyS W w p b q wr.heap.size Aq cq 2 x t M' M) (fun w => ∃ A2 c2, PyS W w p b q wr.heap.size A2 c2 2 x t M' M') 5 11 L w1 → w1.cell? ⟨wr.heap.size, 1, none⟩ = some (.int .u32 x) ∧ w1.cell? ⟨wr.heap.size, 2, none⟩ = some (.int .u64 t) from fun L w1 h => h.any (fun _ h => h.cells.2) (fun _ h => h.cells.2) (fun _ ⟨_, _, h⟩ => h.cells.2))
                        have HC1' := Lib.hid (show ∀ L w1, L 5 = false → BkG (fun w => PyS W w p b q wr.heap.size Aq cq 2 x t M M) (fun w => PyS W w p b q wr.heap.size Aq cq 2 x t M' M) (fun w => ∃ A2 c2, PyS W w p b q wr.heap.size A2 c2 2 x t M' M') 5 11 L w1 → Calls Try.prog 11 #[.pointer (some ⟨p, 0, none⟩), .int .u32 x, .int .u64 t] w1 fun e w' => e = .returned (.int .i64 r) ∧ PyS W w' p b q wr.heap.size Aq cq 2 x t M' M from fun L w1 hL h => by
                          have h1 := h.2.1 hL
                          have := set_any h1.my.at_ HBD.out.1 t HBD.out.2.1
                          rw [← hst] at this
                          exact this.mono fun _ _ ⟨g1, g2, g3⟩ => ⟨g1, h1.turnx g2 g3⟩)
                        have HC2' := Lib.hid (show ∀ L w1, L 5 = true → L 11 = false → BkG (fun w => PyS W w p b q wr.heap.size Aq cq 2 x t M M) (fun w => PyS W w p b q wr.heap.size Aq cq 2 x t M' M) (fun w => ∃ A2 c2, PyS W w p b q wr.heap.size A2 c2 2 x t M' M') 5 11 L w1 → Calls Try.prog 12 #[.pointer (some ⟨q, 0, none⟩), .int .u32 x, .int .u64 t] w1 fun e w' => e = .returned (.int .i64 r) ∧ ∃ A2 c2, PyS W w' p b q wr.heap.size A2 c2 2 x t M' M' from fun L w1 hL hL2 h => by
                          have h1 := h.2.2.1 hL hL2
                          have := rset_any h1.dy HS.out.my.at_.ok.up (by have := HM.out; omega) h1.below.size x t HBD.out.2.1
                          rw [← hst] at this
                          exact this.mono fun _ _ ⟨A2, c2, g1, g2, g3⟩ => ⟨g1, A2, c2, h1.turny g2 g3⟩)
                        clear hst hml d0 d1 d2
                        go_wp2_with fail
                        have HC1 := HC1'.out
                        have HC2 := HC2'.out
                        have HBX := HBX'.out
                        refine Rq.wp_region_inv (BkG (fun w => PyS W w p b q wr.heap.size Aq cq 2 x t M M) (fun w => PyS W w p b q wr.heap.size Aq cq 2 x t M' M) (fun w => ∃ A2 c2, PyS W w p b q wr.heap.size A2 c2 2 x t M' M') 5 11) PR0 (Rq.Wd.at [.is (.pointer (some ⟨p, 0, none⟩)), .is (.pointer (some ⟨wr.heap.size, 1, none⟩)), .is (.int .u32 x), .is (.pointer (some ⟨wr.heap.size, 2, none⟩)), .is (.int .u64 t), .is (.int .i64 r), .is (.pointer (some ⟨q, 0, none⟩)), .is (.pointer (some ⟨wr.heap.size, 1, none⟩)), .is (.int .u32 x), .is (.pointer (some ⟨wr.heap.size, 2, none⟩)), .is (.int .u64 t), .is (.int .i64 r), .is (.bool true), .is (.bool true)]) (by kernel_rfl) (by kernel_rfl) (Rq.Wd.stays _ _ (fun i q hi => (by rcases i with _ | _ | _ | _ | _ | _ | _ | _ | _ | _ | _ | _ | _ | _ | i <;> simp at hi))) (BkG.begin (HS.out.then_ (below_drawn (Below.refl _ _)))) ⟨?_, ?_, ?_, ?_, ?_, ?_, ?_, ?_, ?_, ?_, ?_, ?_, ?_, ?_, trivial⟩ ?_
                        · intro L a w1 hL hS hb hd
                          have e7 := hb 7 (Rq.nw (by decide))
                          simp [Act.eval] at e7
                          exact Rq.does_pure (Rq.wanted_none rfl) (by simp [execOp, e7, go_sem]) rfl (hS.stay (by decide) (by decide)) trivial
                        · intro L a w1 hL hS hb hd
                          have e12 := hb 12 (Rq.nw (by decide))
                          simp [Act.eval] at e12
                          exact Rq.does_pure (Rq.wanted_none rfl) (by simp [execOp, e12, go_sem]) rfl (hS.stay (by decide) (by decide)) trivial
                        · intro L a w1 hL hS hb hd
                          have p80 := (hd ⟨1, .data⟩ (by simp) rfl).2 _ _ rfl rfl
                          have e80 : a.tmps[80]?.getD undef = (.pointer (some ⟨wr.heap.size, 1, none⟩)) := Rq.slot p80
                          exact Rq.does_pure (Rq.wanted_none rfl) (by simp [execOp, e80, (HBX L w1 hS).1, go_sem]) rfl (hS.stay (by decide) (by decide)) trivial
                        · intro L a w1 hL hS hb hd
                          have e12 := hb 12 (Rq.nw (by decide))
                          simp [Act.eval] at e12
                          exact Rq.does_pure (Rq.wanted_none rfl) (by simp [execOp, e12, go_sem]) rfl (hS.stay (by decide) (by decide)) trivial
                        · intro L a w1 hL hS hb hd
                          have p82 := (hd ⟨3, .data⟩ (by simp) rfl).2 _ _ rfl rfl
                          have e82 : a.tmps[82]?.getD undef = (.pointer (some ⟨wr.heap.size, 2, none⟩)) := Rq.slot p82
                          exact Rq.does_pure (Rq.wanted_none rfl) (by simp [execOp, e82, (HBX L w1 hS).2, go_sem]) rfl (hS.stay (by decide) (by decide)) trivial
                        · intro L a w1 hL hS hb hd
                          have p79 := (hd ⟨0, .data⟩ (by simp) rfl).2 _ _ rfl rfl
                          have e79 : a.tmps[79]?.getD undef = (.pointer (some ⟨p, 0, none⟩)) := Rq.slot p79
                          have p81 := (hd ⟨2, .data⟩ (by simp) rfl).2 _ _ rfl rfl
                          have e81 : a.tmps[81]?.getD undef = (.int .u32 x) := Rq.slot p81
                          have p83 := (hd ⟨4, .data⟩ (by simp) rfl).2 _ _ rfl rfl
                          have e83 : a.tmps[83]?.getD undef = (.int .u64 t) := Rq.slot p83
                          refine Rq.does_call (f := 11) (args := #[.pointer (some ⟨p, 0, none⟩), .int .u32 x, .int .u64 t]) (Rq.wanted_none rfl) (by simp [e79, e81, e83, go_sem]) ?_
                          exact (HC1 L w1 hL hS).mono fun e w3 ⟨h0, h1⟩ => ⟨_, h0, rfl, hS.first (by decide) hL h1, trivial⟩
                        · intro L a w1 hL hS hb hd
                          have e9 := hb 9 (Rq.nw (by decide))
                          simp [Act.eval] at e9
                          exact Rq.does_pure (Rq.wanted_none rfl) (by simp [execOp, e9, go_sem]) rfl (hS.stay (by decide) (by decide)) trivial
                        · intro L a w1 hL hS hb hd
                          have e12 := hb 12 (Rq.nw (by decide))
                          simp [Act.eval] at e12
                          exact Rq.does_pure (Rq.wanted_none rfl) (by simp [execOp, e12, go_sem]) rfl (hS.stay (by decide) (by decide)) trivial
                        · intro L a w1 hL hS hb hd
                          have p86 := (hd ⟨7, .data⟩ (by simp) rfl).2 _ _ rfl rfl
                          have e86 : a.tmps[86]?.getD undef = (.pointer (some ⟨wr.heap.size, 1, none⟩)) := Rq.slot p86
                          exact Rq.does_pure (Rq.wanted_none rfl) (by simp [execOp, e86, (HBX L w1 hS).1, go_sem]) rfl (hS.stay (by decide) (by decide)) trivial
                        · intro L a w1 hL hS hb hd
                          have e12 := hb 12 (Rq.nw (by decide))
                          simp [Act.eval] at e12
                          exact Rq.does_pure (Rq.wanted_none rfl) (by simp [execOp, e12, go_sem]) rfl (hS.stay (by decide) (by decide)) trivial
                        · intro L a w1 hL hS hb hd
                          have p88 := (hd ⟨9, .data⟩ (by simp) rfl).2 _ _ rfl rfl
                          have e88 : a.tmps[88]?.getD undef = (.pointer (some ⟨wr.heap.size, 2, none⟩)) := Rq.slot p88
                          exact Rq.does_pure (Rq.wanted_none rfl) (by simp [execOp, e88, (HBX L w1 hS).2, go_sem]) rfl (hS.stay (by decide) (by decide)) trivial
                        · intro L a w1 hL hS hb hd
                          have p85 := (hd ⟨6, .data⟩ (by simp) rfl).2 _ _ rfl rfl
                          have e85 : a.tmps[85]?.getD undef = (.pointer (some ⟨q, 0, none⟩)) := Rq.slot p85
                          have p87 := (hd ⟨8, .data⟩ (by simp) rfl).2 _ _ rfl rfl
                          have e87 : a.tmps[87]?.getD undef = (.int .u32 x) := Rq.slot p87
                          have p89 := (hd ⟨10, .data⟩ (by simp) rfl).2 _ _ rfl rfl
                          have e89 : a.tmps[89]?.getD undef = (.int .u64 t) := Rq.slot p89
                          refine Rq.does_call (f := 12) (args := #[.pointer (some ⟨q, 0, none⟩), .int .u32 x, .int .u64 t]) (Rq.wanted_none rfl) (by simp [e85, e87, e89, go_sem]) ?_
                          exact (HC2 L w1 (hd ⟨5, .chain⟩ (by simp) rfl).1 hL hS).mono fun e w3 ⟨h0, h1⟩ => ⟨_, h0, rfl, BkG.second (by decide) (hd ⟨5, .chain⟩ (by simp) rfl).1 h1, trivial⟩
                        · intro L a w1 hL hS hb hd
                          have p84 := (hd ⟨5, .data⟩ (by simp) rfl).2 _ _ rfl rfl
                          have e84 : a.tmps[84]?.getD undef = (.int .i64 r) := Rq.slot p84
                          have p90 := (hd ⟨11, .data⟩ (by simp) rfl).2 _ _ rfl rfl
                          have e90 : a.tmps[90]?.getD undef = (.int .i64 r) := Rq.slot p90
                          exact Rq.does_pure (Rq.wanted_none rfl) (by simp [execOp, e84, e90, go_sem]) rfl (hS.stay (by decide) (by decide)) trivial
                        · intro L a w1 hL hS hb hd
                          have p91 := (hd ⟨12, .data⟩ (by simp) rfl).2 _ _ rfl rfl
                          have e91 : a.tmps[91]?.getD undef = (.bool true) := Rq.slot p91
                          exact Rq.does_pure (Rq.wanted_none rfl) (by simp [execOp, e91, go_sem]) rfl (hS.stay (by decide) (by decide)) trivial
                        intro L v w3 hS hall hv
                        have h13 : v 13 = .bool true := hv 13 _ _ rfl rfl
                        obtain ⟨A2, c2, hS3⟩ := hS.2.2.2 (hall 5 (by decide)) (hall 11 (by decide))
                        have HS3 := Lib.hid hS3
                        simp only [Rq.putAll, Nat.zero_add, Nat.reduceAdd]
                        simp only [Act.put, List.setIfInBounds_toArray, List.set_cons_succ, List.set_cons_zero]
                        rw [h13]
                        clear h13 hS hS3 hall hv HC1 HC2 HBX HC1' HC2' HBX' HS
                        go_wp2_with fail
                        go_meet
                        exact ⟨p, b, A2, c2, M', rfl, rfl, HML.out, HS3.out⟩
                    · have hk2 : (k == 2) = false := by rw [beq_eq_false_iff_ne]; exact k2
                      by_cases k3 : k = 3
                      · subst k3
                        as_aux_lemma =>
                          obtain ⟨⟨r, M'⟩, hst⟩ : ∃ z, z = Pl.setL M x t := ⟨_, rfl⟩
                          have hml : M'.length ≤ 16 := by have := Pl.set_len HM.out x t; rw [← hst] at this; exact this
                          have HML := Lib.hid hml
                          have HBX' := Lib.hid (show ∀ L w1, BkG (fun w => PyS W w p b q wr.heap.size Aq cq 3 x t M M) (fun w => PyS W w p b q wr.heap.size Aq cq 3 x t M' M) (fun w => ∃ A2 c2, PyS W w p b q wr.heap.size A2 c2 3 x t M' M') 5 11 L w1 → w1.cell? ⟨wr.heap.size, 1, none⟩ = some (.int .u32 x) ∧ w1.cell? ⟨wr.heap.size, 2, none⟩ = some (.int .u64 t) from fun L w1 h => h.any (fun _ h => h.cells.2) (fun _ h => h.cells.2) (fun _ ⟨_, _, h⟩ => h.cells.2))
                          have HC1' := Lib.hid (show ∀ L w1, L 5 = false → BkG (fun w => PyS W w p b q wr.heap.size Aq cq 3 x t M M) (fun w => PyS W w p b q wr.heap.size Aq cq 3 x t M' M) (fun w => ∃ A2 c2, PyS W w p b q wr.heap.size A2 c2 3 x t M' M') 5 11 L w1 → Calls Try.prog 11 #[.pointer (some ⟨p, 0, none⟩), .int .u32 x, .int .u64 t] w1 fun e w' => e = .returned (.int .i64 r) ∧ PyS W w' p b q wr.heap.size Aq cq 3 x t M' M from fun L w1 hL h => by
                            have h1 := h.2.1 hL
                            have := set_any h1.my.at_ HBD.out.1 t HBD.out.2.1
                            rw [← hst] at this
                            exact this.mono fun _ _ ⟨g1, g2, g3⟩ => ⟨g1, h1.turnx g2 g3⟩)
                          have HC2' := Lib.hid (show ∀ L w1, L 5 = true → L 11 = false → BkG (fun w => PyS W w p b q wr.heap.size Aq cq 3 x t M M) (fun w => PyS W w p b q wr.heap.size Aq cq 3 x t M' M) (fun w => ∃ A2 c2, PyS W w p b q wr.heap.size A2 c2 3 x t M' M') 5 11 L w1 → Calls Try.prog 12 #[.pointer (some ⟨q, 0, none⟩), .int .u32 x, .int .u64 t] w1 fun e w' => e = .returned (.int .i64 r) ∧ ∃ A2 c2, PyS W w' p b q wr.heap.size A2 c2 3 x t M' M' from fun L w1 hL hL2 h => by
                            have h1 := h.2.2.1 hL hL2
                            have := rset_any h1.dy HS.out.my.at_.ok.up (by have := HM.out; omega) h1.below.size x t HBD.out.2.1
                            rw [← hst] at this
                            exact this.mono fun _ _ ⟨A2, c2, g1, g2, g3⟩ => ⟨g1, A2, c2, h1.turny g2 g3⟩)
                          clear hst hml d0 d1 d2
                          go_wp2_with fail
                          have HC1 := HC1'.out
                          have HC2 := HC2'.out
                          have HBX := HBX'.out
                          refine Rq.wp_region_inv (BkG (fun w => PyS W w p b q wr.heap.size Aq cq 3 x t M M) (fun w => PyS W w p b q wr.heap.size Aq cq 3 x t M' M) (fun w => ∃ A2 c2, PyS W w p b q wr.heap.size A2 c2 3 x t M' M') 5 11) PR0 (Rq.Wd.at [.is (.pointer (some ⟨p, 0, none⟩)), .is (.pointer (some ⟨wr.heap.size, 1, none⟩)), .is (.int .u32 x), .is (.pointer (some ⟨wr.heap.size, 2, none⟩)), .is (.int .u64 t), .is (.int .i64 r), .is (.pointer (some ⟨q, 0, none⟩)), .is (.pointer (some ⟨wr.heap.size, 1, none⟩)), .is (.int .u32 x), .is (.pointer (some ⟨wr.heap.size, 2, none⟩)), .is (.int .u64 t), .is (.int .i64 r), .is (.bool true), .is (.bool true)]) (by kernel_rfl) (by kernel_rfl) (Rq.Wd.stays _ _ (fun i q hi => (by rcases i with _ | _ | _ | _ | _ | _ | _ | _ | _ | _ | _ | _ | _ | _ | i <;> simp at hi))) (BkG.begin (HS.out.then_ (below_drawn (Below.refl _ _)))) ⟨?_, ?_, ?_, ?_, ?_, ?_, ?_, ?_, ?_, ?_, ?_, ?_, ?_, ?_, trivial⟩ ?_
                          · intro L a w1 hL hS hb hd
                            have e7 := hb 7 (Rq.nw (by decide))
                            simp [Act.eval] at e7
                            exact Rq.does_pure (Rq.wanted_none rfl) (by simp [execOp, e7, go_sem]) rfl (hS.stay (by decide) (by decide)) trivial
                          · intro L a w1 hL hS hb hd
                            have e12 := hb 12 (Rq.nw (by decide))
                            simp [Act.eval] at e12
                            exact Rq.does_pure (Rq.wanted_none rfl) (by simp [execOp, e12, go_sem]) rfl (hS.stay (by decide) (by decide)) trivial
                          · intro L a w1 hL hS hb hd
                            have p80 := (hd ⟨1, .data⟩ (by simp) rfl).2 _ _ rfl rfl
                            have e80 : a.tmps[80]?.getD undef = (.pointer (some ⟨wr.heap.size, 1, none⟩)) := Rq.slot p80
                            exact Rq.does_pure (Rq.wanted_none rfl) (by simp [execOp, e80, (HBX L w1 hS).1, go_sem]) rfl (hS.stay (by decide) (by decide)) trivial
                          · intro L a w1 hL hS hb hd
                            have e12 := hb 12 (Rq.nw (by decide))
                            simp [Act.eval] at e12
                            exact Rq.does_pure (Rq.wanted_none rfl) (by simp [execOp, e12, go_sem]) rfl (hS.stay (by decide) (by decide)) trivial
                          · intro L a w1 hL hS hb hd
                            have p82 := (hd ⟨3, .data⟩ (by simp) rfl).2 _ _ rfl rfl
                            have e82 : a.tmps[82]?.getD undef = (.pointer (some ⟨wr.heap.size, 2, none⟩)) := Rq.slot p82
                            exact Rq.does_pure (Rq.wanted_none rfl) (by simp [execOp, e82, (HBX L w1 hS).2, go_sem]) rfl (hS.stay (by decide) (by decide)) trivial
                          · intro L a w1 hL hS hb hd
                            have p79 := (hd ⟨0, .data⟩ (by simp) rfl).2 _ _ rfl rfl
                            have e79 : a.tmps[79]?.getD undef = (.pointer (some ⟨p, 0, none⟩)) := Rq.slot p79
                            have p81 := (hd ⟨2, .data⟩ (by simp) rfl).2 _ _ rfl rfl
                            have e81 : a.tmps[81]?.getD undef = (.int .u32 x) := Rq.slot p81
                            have p83 := (hd ⟨4, .data⟩ (by simp) rfl).2 _ _ rfl rfl
                            have e83 : a.tmps[83]?.getD undef = (.int .u64 t) := Rq.slot p83
                            refine Rq.does_call (f := 11) (args := #[.pointer (some ⟨p, 0, none⟩), .int .u32 x, .int .u64 t]) (Rq.wanted_none rfl) (by simp [e79, e81, e83, go_sem]) ?_
                            exact (HC1 L w1 hL hS).mono fun e w3 ⟨h0, h1⟩ => ⟨_, h0, rfl, hS.first (by decide) hL h1, trivial⟩
                          · intro L a w1 hL hS hb hd
                            have e9 := hb 9 (Rq.nw (by decide))
                            simp [Act.eval] at e9
                            exact Rq.does_pure (Rq.wanted_none rfl) (by simp [execOp, e9, go_sem]) rfl (hS.stay (by decide) (by decide)) trivial
                          · intro L a w1 hL hS hb hd
                            have e12 := hb 12 (Rq.nw (by decide))
                            simp [Act.eval] at e12
                            exact Rq.does_pure (Rq.wanted_none rfl) (by simp [execOp, e12, go_sem]) rfl (hS.stay (by decide) (by decide)) trivial
                          · intro L a w1 hL hS hb hd
                            have p86 := (hd ⟨7, .data⟩ (by simp) rfl).2 _ _ rfl rfl
                            have e86 : a.tmps[86]?.getD undef = (.pointer (some ⟨wr.heap.size, 1, none⟩)) := Rq.slot p86
                            exact Rq.does_pure (Rq.wanted_none rfl) (by simp [execOp, e86, (HBX L w1 hS).1, go_sem]) rfl (hS.stay (by decide) (by decide)) trivial
                          · intro L a w1 hL hS hb hd
                            have e12 := hb 12 (Rq.nw (by decide))
                            simp [Act.eval] at e12
                            exact Rq.does_pure (Rq.wanted_none rfl) (by simp [execOp, e12, go_sem]) rfl (hS.stay (by decide) (by decide)) trivial
                          · intro L a w1 hL hS hb hd
                            have p88 := (hd ⟨9, .data⟩ (by simp) rfl).2 _ _ rfl rfl
                            have e88 : a.tmps[88]?.getD undef = (.pointer (some ⟨wr.heap.size, 2, none⟩)) := Rq.slot p88
                            exact Rq.does_pure (Rq.wanted_none rfl) (by simp [execOp, e88, (HBX L w1 hS).2, go_sem]) rfl (hS.stay (by decide) (by decide)) trivial
                          · intro L a w1 hL hS hb hd
                            have p85 := (hd ⟨6, .data⟩ (by simp) rfl).2 _ _ rfl rfl
                            have e85 : a.tmps[85]?.getD undef = (.pointer (some ⟨q, 0, none⟩)) := Rq.slot p85
                            have p87 := (hd ⟨8, .data⟩ (by simp) rfl).2 _ _ rfl rfl
                            have e87 : a.tmps[87]?.getD undef = (.int .u32 x) := Rq.slot p87
                            have p89 := (hd ⟨10, .data⟩ (by simp) rfl).2 _ _ rfl rfl
                            have e89 : a.tmps[89]?.getD undef = (.int .u64 t) := Rq.slot p89
                            refine Rq.does_call (f := 12) (args := #[.pointer (some ⟨q, 0, none⟩), .int .u32 x, .int .u64 t]) (Rq.wanted_none rfl) (by simp [e85, e87, e89, go_sem]) ?_
                            exact (HC2 L w1 (hd ⟨5, .chain⟩ (by simp) rfl).1 hL hS).mono fun e w3 ⟨h0, h1⟩ => ⟨_, h0, rfl, BkG.second (by decide) (hd ⟨5, .chain⟩ (by simp) rfl).1 h1, trivial⟩
                          · intro L a w1 hL hS hb hd
                            have p84 := (hd ⟨5, .data⟩ (by simp) rfl).2 _ _ rfl rfl
                            have e84 : a.tmps[84]?.getD undef = (.int .i64 r) := Rq.slot p84
                            have p90 := (hd ⟨11, .data⟩ (by simp) rfl).2 _ _ rfl rfl
                            have e90 : a.tmps[90]?.getD undef = (.int .i64 r) := Rq.slot p90
                            exact Rq.does_pure (Rq.wanted_none rfl) (by simp [execOp, e84, e90, go_sem]) rfl (hS.stay (by decide) (by decide)) trivial
                          · intro L a w1 hL hS hb hd
                            have p91 := (hd ⟨12, .data⟩ (by simp) rfl).2 _ _ rfl rfl
                            have e91 : a.tmps[91]?.getD undef = (.bool true) := Rq.slot p91
                            exact Rq.does_pure (Rq.wanted_none rfl) (by simp [execOp, e91, go_sem]) rfl (hS.stay (by decide) (by decide)) trivial
                          intro L v w3 hS hall hv
                          have h13 : v 13 = .bool true := hv 13 _ _ rfl rfl
                          obtain ⟨A2, c2, hS3⟩ := hS.2.2.2 (hall 5 (by decide)) (hall 11 (by decide))
                          have HS3 := Lib.hid hS3
                          simp only [Rq.putAll, Nat.zero_add, Nat.reduceAdd]
                          simp only [Act.put, List.setIfInBounds_toArray, List.set_cons_succ, List.set_cons_zero]
                          rw [h13]
                          clear h13 hS hS3 hall hv HC1 HC2 HBX HC1' HC2' HBX' HS
                          go_wp2_with fail
                          go_meet
                          exact ⟨p, b, A2, c2, M', rfl, rfl, HML.out, HS3.out⟩
                      · have hk3 : (k == 3) = false := by rw [beq_eq_false_iff_ne]; exact k3
                        by_cases k4 : k = 4
                        · subst k4
                          as_aux_lemma =>
                            obtain ⟨⟨r, M'⟩, hst⟩ : ∃ z, z = Pl.setL M x t := ⟨_, rfl⟩
                            have hml : M'.length ≤ 16 := by have := Pl.set_len HM.out x t; rw [← hst] at this; exact this
                            have HML := Lib.hid hml
                            have HBX' := Lib.hid (show ∀ L w1, BkG (fun w => PyS W w p b q wr.heap.size Aq cq 4 x t M M) (fun w => PyS W w p b q wr.heap.size Aq cq 4 x t M' M) (fun w => ∃ A2 c2, PyS W w p b q wr.heap.size A2 c2 4 x t M' M') 5 11 L w1 → w1.cell? ⟨wr.heap.size, 1, none⟩ = some (.int .u32 x) ∧ w1.cell? ⟨wr.heap.size, 2, none⟩ = some (.int .u64 t) from fun L w1 h => h.any (fun _ h => h.cells.2) (fun _ h => h.cells.2) (fun _ ⟨_, _, h⟩ => h.cells.2))
                            have HC1' := Lib.hid (show ∀ L w1, L 5 = false → BkG (fun w => PyS W w p b q wr.heap.size Aq cq 4 x t M M) (fun w => PyS W w p b q wr.heap.size Aq cq 4 x t M' M) (fun w => ∃ A2 c2, PyS W w p b q wr.heap.size A2 c2 4 x t M' M') 5 11 L w1 → Calls Try.prog 11 #[.pointer (some ⟨p, 0, none⟩), .int .u32 x, .int .u64 t] w1 fun e w' => e = .returned (.int .i64 r) ∧ PyS W w' p b q wr.heap.size Aq cq 4 x t M' M from fun L w1 hL h => by
                              have h1 := h.2.1 hL
                              have := set_any h1.my.at_ HBD.out.1 t HBD.out.2.1
                              rw [← hst] at this
                              exact this.mono fun _ _ ⟨g1, g2, g3⟩ => ⟨g1, h1.turnx g2 g3⟩)
                            have HC2' := Lib.hid (show ∀ L w1, L 5 = true → L 11 = false → BkG (fun w => PyS W w p b q wr.heap.size Aq cq 4 x t M M) (fun w => PyS W w p b q wr.heap.size Aq cq 4 x t M' M) (fun w => ∃ A2 c2, PyS W w p b q wr.heap.size A2 c2 4 x t M' M') 5 11 L w1 → Calls Try.prog 12 #[.pointer (some ⟨q, 0, none⟩), .int .u32 x, .int .u64 t] w1 fun e w' => e = .returned (.int .i64 r) ∧ ∃ A2 c2, PyS W w' p b q wr.heap.size A2 c2 4 x t M' M' from fun L w1 hL hL2 h => by
                              have h1 := h.2.2.1 hL hL2
                              have := rset_any h1.dy HS.out.my.at_.ok.up (by have := HM.out; omega) h1.below.size x t HBD.out.2.1
                              rw [← hst] at this
                              exact this.mono fun _ _ ⟨A2, c2, g1, g2, g3⟩ => ⟨g1, A2, c2, h1.turny g2 g3⟩)
                            clear hst hml d0 d1 d2
                            go_wp2_with fail
                            have HC1 := HC1'.out
                            have HC2 := HC2'.out
                            have HBX := HBX'.out
                            refine Rq.wp_region_inv (BkG (fun w => PyS W w p b q wr.heap.size Aq cq 4 x t M M) (fun w => PyS W w p b q wr.heap.size Aq cq 4 x t M' M) (fun w => ∃ A2 c2, PyS W w p b q wr.heap.size A2 c2 4 x t M' M') 5 11) PR0 (Rq.Wd.at [.is (.pointer (some ⟨p, 0, none⟩)), .is (.pointer (some ⟨wr.heap.size, 1, none⟩)), .is (.int .u32 x), .is (.pointer (some ⟨wr.heap.size, 2, none⟩)), .is (.int .u64 t), .is (.int .i64 r), .is (.pointer (some ⟨q, 0, none⟩)), .is (.pointer (some ⟨wr.heap.size, 1, none⟩)), .is (.int .u32 x), .is (.pointer (some ⟨wr.heap.size, 2, none⟩)), .is (.int .u64 t), .is (.int .i64 r), .is (.bool true), .is (.bool true)]) (by kernel_rfl) (by kernel_rfl) (Rq.Wd.stays _ _ (fun i q hi => (by rcases i with _ | _ | _ | _ | _ | _ | _ | _ | _ | _ | _ | _ | _ | _ | i <;> simp at hi))) (BkG.begin (HS.out.then_ (below_drawn (Below.refl _ _)))) ⟨?_, ?_, ?_, ?_, ?_, ?_, ?_, ?_, ?_, ?_, ?_, ?_, ?_, ?_, trivial⟩ ?_
                            · intro L a w1 hL hS hb hd
                              have e7 := hb 7 (Rq.nw (by decide))
                              simp [Act.eval] at e7
                              exact Rq.does_pure (Rq.wanted_none rfl) (by simp [execOp, e7, go_sem]) rfl (hS.stay (by decide) (by decide)) trivial
                            · intro L a w1 hL hS hb hd
                              have e12 := hb 12 (Rq.nw (by decide))
                              simp [Act.eval] at e12
                              exact Rq.does_pure (Rq.wanted_none rfl) (by simp [execOp, e12, go_sem]) rfl (hS.stay (by decide) (by decide)) trivial
                            · intro L a w1 hL hS hb hd
                              have p80 := (hd ⟨1, .data⟩ (by simp) rfl).2 _ _ rfl rfl
                              have e80 : a.tmps[80]?.getD undef = (.pointer (some ⟨wr.heap.size, 1, none⟩)) := Rq.slot p80
                              exact Rq.does_pure (Rq.wanted_none rfl) (by simp [execOp, e80, (HBX L w1 hS).1, go_sem]) rfl (hS.stay (by decide) (by decide)) trivial
                            · intro L a w1 hL hS hb hd
                              have e12 := hb 12 (Rq.nw (by decide))
                              simp [Act.eval] at e12
                              exact Rq.does_pure (Rq.wanted_none rfl) (by simp [execOp, e12, go_sem]) rfl (hS.stay (by decide) (by decide)) trivial
                            · intro L a w1 hL hS hb hd
                              have p82 := (hd ⟨3, .data⟩ (by simp) rfl).2 _ _ rfl rfl
                              have e82 : a.tmps[82]?.getD undef = (.pointer (some ⟨wr.heap.size, 2, none⟩)) := Rq.slot p82
                              exact Rq.does_pure (Rq.wanted_none rfl) (by simp [execOp, e82, (HBX L w1 hS).2, go_sem]) rfl (hS.stay (by decide) (by decide)) trivial
                            · intro L a w1 hL hS hb hd
                              have p79 := (hd ⟨0, .data⟩ (by simp) rfl).2 _ _ rfl rfl
                              have e79 : a.tmps[79]?.getD undef = (.pointer (some ⟨p, 0, none⟩)) := Rq.slot p79
                              have p81 := (hd ⟨2, .data⟩ (by simp) rfl).2 _ _ rfl rfl
                              have e81 : a.tmps[81]?.getD undef = (.int .u32 x) := Rq.slot p81
                              have p83 := (hd ⟨4, .data⟩ (by simp) rfl).2 _ _ rfl rfl
                              have e83 : a.tmps[83]?.getD undef = (.int .u64 t) := Rq.slot p83
                              refine Rq.does_call (f := 11) (args := #[.pointer (some ⟨p, 0, none⟩), .int .u32 x, .int .u64 t]) (Rq.wanted_none rfl) (by simp [e79, e81, e83, go_sem]) ?_
                              exact (HC1 L w1 hL hS).mono fun e w3 ⟨h0, h1⟩ => ⟨_, h0, rfl, hS.first (by decide) hL h1, trivial⟩
                            · intro L a w1 hL hS hb hd
                              have e9 := hb 9 (Rq.nw (by decide))
                              simp [Act.eval] at e9
                              exact Rq.does_pure (Rq.wanted_none rfl) (by simp [execOp, e9, go_sem]) rfl (hS.stay (by decide) (by decide)) trivial
                            · intro L a w1 hL hS hb hd
                              have e12 := hb 12 (Rq.nw (by decide))
                              simp [Act.eval] at e12
                              exact Rq.does_pure (Rq.wanted_none rfl) (by simp [execOp, e12, go_sem]) rfl (hS.stay (by decide) (by decide)) trivial
                            · intro L a w1 hL hS hb hd
                              have p86 := (hd ⟨7, .data⟩ (by simp) rfl).2 _ _ rfl rfl
                              have e86 : a.tmps[86]?.getD undef = (.pointer (some ⟨wr.heap.size, 1, none⟩)) := Rq.slot p86
                              exact Rq.does_pure (Rq.wanted_none rfl) (by simp [execOp, e86, (HBX L w1 hS).1, go_sem]) rfl (hS.stay (by decide) (by decide)) trivial
                            · intro L a w1 hL hS hb hd
                              have e12 := hb 12 (Rq.nw (by decide))
                              simp [Act.eval] at e12
                              exact Rq.does_pure (Rq.wanted_none rfl) (by simp [execOp, e12, go_sem]) rfl (hS.stay (by decide) (by decide)) trivial
                            · intro L a w1 hL hS hb hd
                              have p88 := (hd ⟨9, .data⟩ (by simp) rfl).2 _ _ rfl rfl
                              have e88 : a.tmps[88]?.getD undef = (.pointer (some ⟨wr.heap.size, 2, none⟩)) := Rq.slot p88
                              exact Rq.does_pure (Rq.wanted_none rfl) (by simp [execOp, e88, (HBX L w1 hS).2, go_sem]) rfl (hS.stay (by decide) (by decide)) trivial
                            · intro L a w1 hL hS hb hd
                              have p85 := (hd ⟨6, .data⟩ (by simp) rfl).2 _ _ rfl rfl
                              have e85 : a.tmps[85]?.getD undef = (.pointer (some ⟨q, 0, none⟩)) := Rq.slot p85
                              have p87 := (hd ⟨8, .data⟩ (by simp) rfl).2 _ _ rfl rfl
                              have e87 : a.tmps[87]?.getD undef = (.int .u32 x) := Rq.slot p87
                              have p89 := (hd ⟨10, .data⟩ (by simp) rfl).2 _ _ rfl rfl
                              have e89 : a.tmps[89]?.getD undef = (.int .u64 t) := Rq.slot p89
                              refine Rq.does_call (f := 12) (args := #[.pointer (some ⟨q, 0, none⟩), .int .u32 x, .int .u64 t]) (Rq.wanted_none rfl) (by simp [e85, e87, e89, go_sem]) ?_
                              exact (HC2 L w1 (hd ⟨5, .chain⟩ (by simp) rfl).1 hL hS).mono fun e w3 ⟨h0, h1⟩ => ⟨_, h0, rfl, BkG.second (by decide) (hd ⟨5, .chain⟩ (by simp) rfl).1 h1, trivial⟩
                            · intro L a w1 hL hS hb hd
                              have p84 := (hd ⟨5, .data⟩ (by simp) rfl).2 _ _ rfl rfl
                              have e84 : a.tmps[84]?.getD undef = (.int .i64 r) := Rq.slot p84
                              have p90 := (hd ⟨11, .data⟩ (by simp) rfl).2 _ _ rfl rfl
                              have e90 : a.tmps[90]?.getD undef = (.int .i64 r) := Rq.slot p90
                              exact Rq.does_pure (Rq.wanted_none rfl) (by simp [execOp, e84, e90, go_sem]) rfl (hS.stay (by decide) (by decide)) trivial
                            · intro L a w1 hL hS hb hd
                              have p91 := (hd ⟨12, .data⟩ (by simp) rfl).2 _ _ rfl rfl
                              have e91 : a.tmps[91]?.getD undef = (.bool true) := Rq.slot p91
                              exact Rq.does_pure (Rq.wanted_none rfl) (by simp [execOp, e91, go_sem]) rfl (hS.stay (by decide) (by decide)) trivial
                            intro L v w3 hS hall hv
                            have h13 : v 13 = .bool true := hv 13 _ _ rfl rfl
                            obtain ⟨A2, c2, hS3⟩ := hS.2.2.2 (hall 5 (by decide)) (hall 11 (by decide))
                            have HS3 := Lib.hid hS3
                            simp only [Rq.putAll, Nat.zero_add, Nat.reduceAdd]
                            simp only [Act.put, List.setIfInBounds_toArray, List.set_cons_succ, List.set_cons_zero]
                            rw [h13]
                            clear h13 hS hS3 hall hv HC1 HC2 HBX HC1' HC2' HBX' HS
                            go_wp2_with fail
                            go_meet
                            exact ⟨p, b, A2, c2, M', rfl, rfl, HML.out, HS3.out⟩
                        · have hk4 : (k == 4) = false := by rw [beq_eq_false_iff_ne]; exact k4
                          by_cases k5 : k = 5
                          · subst k5
                            as_aux_lemma =>
                              obtain ⟨⟨r, M'⟩, hst⟩ : ∃ z, z = Pl.dropL M x := ⟨_, rfl⟩
                              have hml : M'.length ≤ 16 := by have := Pl.drop_len HM.out x; rw [← hst] at this; exact this
                              have HML := Lib.hid hml
                              have HBX' := Lib.hid (show ∀ L w1, BkG (fun w => PyS W w p b q wr.heap.size Aq cq 5 x t M M) (fun w => PyS W w p b q wr.heap.size Aq cq 5 x t M' M) (fun w => ∃ A2 c2, PyS W w p b q wr.heap.size A2 c2 5 x t M' M') 3 7 L w1 → w1.cell? ⟨wr.heap.size, 1, none⟩ = some (.int .u32 x) ∧ w1.cell? ⟨wr.heap.size, 2, none⟩ = some (.int .u64 t) from fun L w1 h => h.any (fun _ h => h.cells.2) (fun _ h => h.cells.2) (fun _ ⟨_, _, h⟩ => h.cells.2))
                              have HC1' := Lib.hid (show ∀ L w1, L 3 = false → BkG (fun w => PyS W w p b q wr.heap.size Aq cq 5 x t M M) (fun w => PyS W w p b q wr.heap.size Aq cq 5 x t M' M) (fun w => ∃ A2 c2, PyS W w p b q wr.heap.size A2 c2 5 x t M' M') 3 7 L w1 → Calls Try.prog 13 #[.pointer (some ⟨p, 0, none⟩), .int .u32 x] w1 fun e w' => e = .returned (.int .i64 r) ∧ PyS W w' p b q wr.heap.size Aq cq 5 x t M' M from fun L w1 hL h => by
                                have h1 := h.2.1 hL
                                have := drop_any h1.my.at_ HBD.out.1
                                rw [← hst] at this
                                exact this.mono fun _ _ ⟨g1, g2, g3⟩ => ⟨g1, h1.turnx g2 g3⟩)
                              have HC2' := Lib.hid (show ∀ L w1, L 3 = true → L 7 = false → BkG (fun w => PyS W w p b q wr.heap.size Aq cq 5 x t M M) (fun w => PyS W w p b q wr.heap.size Aq cq 5 x t M' M) (fun w => ∃ A2 c2, PyS W w p b q wr.heap.size A2 c2 5 x t M' M') 3 7 L w1 → Calls Try.prog 14 #[.pointer (some ⟨q, 0, none⟩), .int .u32 x] w1 fun e w' => e = .returned (.int .i64 r) ∧ ∃ A2 c2, PyS W w' p b q wr.heap.size A2 c2 5 x t M' M' from fun L w1 hL hL2 h => by
                                have h1 := h.2.2.1 hL hL2
                                have := rdrop_any h1.dy HS.out.my.at_.ok.up (by have := HM.out; omega) h1.below.size x
                                rw [← hst] at this
                                exact this.mono fun _ _ ⟨A2, c2, g1, g2, g3⟩ => ⟨g1, A2, c2, h1.turny g2 g3⟩)
                              clear hst hml d0 d1 d2
                              go_wp2_with fail
                              have HC1 := HC1'.out
                              have HC2 := HC2'.out
                              have HBX := HBX'.out
                              refine Rq.wp_region_inv (BkG (fun w => PyS W w p b q wr.heap.size Aq cq 5 x t M M) (fun w => PyS W w p b q wr.heap.size Aq cq 5 x t M' M) (fun w => ∃ A2 c2, PyS W w p b q wr.heap.size A2 c2 5 x t M' M') 3 7) PR0 (Rq.Wd.at [.is (.pointer (some ⟨p, 0, none⟩)), .is (.pointer (some ⟨wr.heap.size, 1, none⟩)), .is (.int .u32 x), .is (.int .i64 r), .is (.pointer (some ⟨q, 0, none⟩)), .is (.pointer (some ⟨wr.heap.size, 1, none⟩)), .is (.int .u32 x), .is (.int .i64 r), .is (.bool true), .is (.bool true)]) (by kernel_rfl) (by kernel_rfl) (Rq.Wd.stays _ _ (fun i q hi => (by rcases i with _ | _ | _ | _ | _ | _ | _ | _ | _ | _ | i <;> simp at hi))) (BkG.begin (HS.out.then_ (below_drawn (Below.refl _ _)))) ⟨?_, ?_, ?_, ?_, ?_, ?_, ?_, ?_, ?_, ?_, trivial⟩ ?_
                              · intro L a w1 hL hS hb hd
                                have e7 := hb 7 (Rq.nw (by decide))
                                simp [Act.eval] at e7
                                exact Rq.does_pure (Rq.wanted_none rfl) (by simp [execOp, e7, go_sem]) rfl (hS.stay (by decide) (by decide)) trivial
                              · intro L a w1 hL hS hb hd
                                have e12 := hb 12 (Rq.nw (by decide))
                                simp [Act.eval] at e12
                                exact Rq.does_pure (Rq.wanted_none rfl) (by simp [execOp, e12, go_sem]) rfl (hS.stay (by decide) (by decide)) trivial
                              · intro L a w1 hL hS hb hd
                                have p95 := (hd ⟨1, .data⟩ (by simp) rfl).2 _ _ rfl rfl
                                have e95 : a.tmps[95]?.getD undef = (.pointer (some ⟨wr.heap.size, 1, none⟩)) := Rq.slot p95
                                exact Rq.does_pure (Rq.wanted_none rfl) (by simp [execOp, e95, (HBX L w1 hS).1, go_sem]) rfl (hS.stay (by decide) (by decide)) trivial
                              · intro L a w1 hL hS hb hd
                                have p94 := (hd ⟨0, .data⟩ (by simp) rfl).2 _ _ rfl rfl
                                have e94 : a.tmps[94]?.getD undef = (.pointer (some ⟨p, 0, none⟩)) := Rq.slot p94
                                have p96 := (hd ⟨2, .data⟩ (by simp) rfl).2 _ _ rfl rfl
                                have e96 : a.tmps[96]?.getD undef = (.int .u32 x) := Rq.slot p96
                                refine Rq.does_call (f := 13) (args := #[.pointer (some ⟨p, 0, none⟩), .int .u32 x]) (Rq.wanted_none rfl) (by simp [e94, e96, go_sem]) ?_
                                exact (HC1 L w1 hL hS).mono fun e w3 ⟨h0, h1⟩ => ⟨_, h0, rfl, hS.first (by decide) hL h1, trivial⟩
                              · intro L a w1 hL hS hb hd
                                have e9 := hb 9 (Rq.nw (by decide))
                                simp [Act.eval] at e9
                                exact Rq.does_pure (Rq.wanted_none rfl) (by simp [execOp, e9, go_sem]) rfl (hS.stay (by decide) (by decide)) trivial
                              · intro L a w1 hL hS hb hd
                                have e12 := hb 12 (Rq.nw (by decide))
                                simp [Act.eval] at e12
                                exact Rq.does_pure (Rq.wanted_none rfl) (by simp [execOp, e12, go_sem]) rfl (hS.stay (by decide) (by decide)) trivial
                              · intro L a w1 hL hS hb hd
                                have p99 := (hd ⟨5, .data⟩ (by simp) rfl).2 _ _ rfl rfl
                                have e99 : a.tmps[99]?.getD undef = (.pointer (some ⟨wr.heap.size, 1, none⟩)) := Rq.slot p99
                                exact Rq.does_pure (Rq.wanted_none rfl) (by simp [execOp, e99, (HBX L w1 hS).1, go_sem]) rfl (hS.stay (by decide) (by decide)) trivial
                              · intro L a w1 hL hS hb hd
                                have p98 := (hd ⟨4, .data⟩ (by simp) rfl).2 _ _ rfl rfl
                                have e98 : a.tmps[98]?.getD undef = (.pointer (some ⟨q, 0, none⟩)) := Rq.slot p98
                                have p100 := (hd ⟨6, .data⟩ (by simp) rfl).2 _ _ rfl rfl
                                have e100 : a.tmps[100]?.getD undef = (.int .u32 x) := Rq.slot p100
                                refine Rq.does_call (f := 14) (args := #[.pointer (some ⟨q, 0, none⟩), .int .u32 x]) (Rq.wanted_none rfl) (by simp [e98, e100, go_sem]) ?_
                                exact (HC2 L w1 (hd ⟨3, .chain⟩ (by simp) rfl).1 hL hS).mono fun e w3 ⟨h0, h1⟩ => ⟨_, h0, rfl, BkG.second (by decide) (hd ⟨3, .chain⟩ (by simp) rfl).1 h1, trivial⟩
                              · intro L a w1 hL hS hb hd
                                have p97 := (hd ⟨3, .data⟩ (by simp) rfl).2 _ _ rfl rfl
                                have e97 : a.tmps[97]?.getD undef = (.int .i64 r) := Rq.slot p97
                                have p101 := (hd ⟨7, .data⟩ (by simp) rfl).2 _ _ rfl rfl
                                have e101 : a.tmps[101]?.getD undef = (.int .i64 r) := Rq.slot p101
                                exact Rq.does_pure (Rq.wanted_none rfl) (by simp [execOp, e97, e101, go_sem]) rfl (hS.stay (by decide) (by decide)) trivial
                              · intro L a w1 hL hS hb hd
                                have p102 := (hd ⟨8, .data⟩ (by simp) rfl).2 _ _ rfl rfl
                                have e102 : a.tmps[102]?.getD undef = (.bool true) := Rq.slot p102
                                exact Rq.does_pure (Rq.wanted_none rfl) (by simp [execOp, e102, go_sem]) rfl (hS.stay (by decide) (by decide)) trivial
                              intro L v w3 hS hall hv
                              have h13 : v 9 = .bool true := hv 9 _ _ rfl rfl
                              obtain ⟨A2, c2, hS3⟩ := hS.2.2.2 (hall 3 (by decide)) (hall 7 (by decide))
                              have HS3 := Lib.hid hS3
                              simp only [Rq.putAll, Nat.zero_add, Nat.reduceAdd]
                              simp only [Act.put, List.setIfInBounds_toArray, List.set_cons_succ, List.set_cons_zero]
                              rw [h13]
                              clear h13 hS hS3 hall hv HC1 HC2 HBX HC1' HC2' HBX' HS
                              go_wp2_with fail
                              go_meet
                              exact ⟨p, b, A2, c2, M', rfl, rfl, HML.out, HS3.out⟩
                          · have hk5 : (k == 5) = false := by rw [beq_eq_false_iff_ne]; exact k5
                            by_cases k6 : k = 6
                            · subst k6
                              as_aux_lemma =>
                                have HE := Lib.hid (expire_any HS.out.my.at_ t HBD.out.2.1)
                                clear d0 d1
                                go_wp2_with fail
                                refine HE.out.mono ?_
                                rintro e w2 ⟨A3, c3, rfl, ho3, hx3, ht3⟩
                                have HO3 := Lib.hid ho3
                                have HS3 := Lib.hid (HS.out.turnx hx3 ht3)
                                have HQ := Lib.hid HS.out.dy.lt
                                have hE2 := rexpire_any HS3.out.dy HS.out.my.at_.ok.up (by have := HM.out; omega) HS3.out.below.size t
                                have HE2 := Lib.hid hE2
                                have d2 := HS3.out.cells.2.2
                                obtain ⟨gn, hgn⟩ : ∃ z, z = (Pl.whichM false t M).length := ⟨_, rfl⟩
                                clear ho3 hx3 ht3 hE2 HE hgn gn
                                go_wp2_with fail
                                refine HE2.out.mono ?_
                                rintro e w3 ⟨A4, c4, A5, c5, rfl, ho5, hy5, ht5⟩
                                have HS5 := Lib.hid (HS3.out.turny hy5 ht5)
                                have HSM := Lib.hid (rsame_yes (OwnR.rws encC_len (OwnR.tn HO3.out ht5 (fun g hg e => by have := (OwnR.lt HO3.out g hg).1; have := HQ.out; omega))).2 (OwnR.rws encC_len ho5).2 rfl)
                                clear ho5 hy5 ht5 HE2 HS3 HS HO3 HQ d2
                                go_wp2_with fail
                                refine (show Calls Try.prog 16 _ _ _ from HSM.out).mono ?_
                                rintro e w4 ⟨rfl, hb4⟩
                                have HS6 := Lib.hid (HS5.out.then_ hb4)
                                clear hb4 HSM HS5
                                go_wp2_with fail
                                go_meet
                                exact ⟨p, b, A4, c4, Pl.thereM t M, rfl, rfl, Pl.there_len HM.out t, HS6.out⟩
                            · have hk6 : (k == 6) = false := by rw [beq_eq_false_iff_ne]; exact k6
                              by_cases k7 : k = 7
                              · subst k7
                                as_aux_lemma =>
                                  have HE := Lib.hid (copy_any HS.out.my.at_)
                                  clear d1 d2
                                  go_wp2_with fail
                                  refine HE.out.mono ?_
                                  rintro e w2 ⟨p2, b2, rfl, hp2, hb2, hx2, hbl⟩
                                  have hS2 := HS.out.then_ hbl
                                  have HS2 := Lib.hid (show PyS W w2 p2 b2 q wr.heap.size Aq cq 7 x t M M from ⟨⟨Nat.le_trans HS.out.below.size hp2, Nat.le_trans HS.out.below.size hb2, hx2⟩, hS2.dy, hS2.box, hS2.below⟩)
                                  have HZ := Lib.hid hS2.my.at_
                                  have HNE := Lib.hid (show p2 ≠ b ∧ b2 ≠ b ∧ W.heap.size ≤ b by have := HS.out.my.at_.own.lt; have := HS.out.my.b_; omega)
                                  clear hp2 hb2 hx2 hbl hS2 HE HS d0
                                  have d0 := HS2.out.cells.1
                                  obtain ⟨x1, hx1⟩ : ∃ z, z = IntKind.u32.wrap (x + 1) := ⟨_, rfl⟩
                                  have hxb : 0 ≤ x1 ∧ x1 < 4294967296 := by rw [hx1, IntKind.wrap_u32]; omega
                                  obtain ⟨t9, ht9⟩ : ∃ z, z = IntKind.u64.wrap (t + 9) := ⟨_, rfl⟩
                                  have htb : 0 ≤ t9 := by rw [ht9, IntKind.wrap_u64]; omega
                                  have HXT := Lib.hid (And.intro hxb htb)
                                  have hwx := hx1.symm
                                  have hwt := ht9.symm
                                  have d1 := HS2.out.cells.2.1
                                  have d2 := HS2.out.cells.2.2
                                  have HE := Lib.hid (set_any HZ.out HBD.out.1 t HBD.out.2.1)
                                  clear hxb htb hx1 ht9
                                  go_wp2_with fail
                                  refine HE.out.mono ?_
                                  rintro e w3 ⟨rfl, hz3, ht3⟩
                                  have HZ3 := Lib.hid hz3
                                  have HS3 := Lib.hid (HS2.out.turnz HZ.out HNE.out.2.2 HNE.out.1 HNE.out.2.1 ht3)
                                  have HE := Lib.hid (drop_any hz3 HXT.out.1)
                                  clear hz3 ht3 d1 d2
                                  have d1 := HS3.out.cells.2.1
                                  have d2 := HS3.out.cells.2.2
                                  clear HS2 HZ
                                  go_wp2_with fail
                                  refine HE.out.mono ?_
                                  rintro e w4 ⟨rfl, hz4, ht4⟩
                                  have HS4 := Lib.hid (HS3.out.turnz HZ3.out HNE.out.2.2 HNE.out.1 HNE.out.2.1 ht4)
                                  have HZ4 := Lib.hid hz4
                                  have HE := Lib.hid (expire_any hz4 t9 HXT.out.2)
                                  clear hz4 ht4 d1 d2
                                  have d2 := HS4.out.cells.2.2
                                  clear HS3 HZ3
                                  go_wp2_with fail
                                  refine HE.out.mono ?_
                                  rintro e w5 ⟨A5, c5, rfl, _, _, ht5⟩
                                  have HS5 := Lib.hid (HS4.out.turnz HZ4.out HNE.out.2.2 HNE.out.1 HNE.out.2.1 ht5)
                                  clear ht5 d2 HE HS4 HZ4
                                  go_wp2_with fail
                                  go_meet
                                  exact ⟨p2, b2, Aq, cq, M, rfl, rfl, HM.out, HS5.out⟩
                              · have hk7 : (k == 7) = false := by rw [beq_eq_false_iff_ne]; exact k7
                                by_cases k8 : k = 8
                                · subst k8
                                  as_aux_lemma =>
                                    have HE := Lib.hid (copy_any HS.out.my.at_)
                                    clear d1 d2
                                    go_wp2_with fail
                                    refine HE.out.mono ?_
                                    rintro e w2 ⟨p2, b2, rfl, hp2, hb2, hx2, hbl⟩
                                    have hS2 := HS.out.then_ hbl
                                    have HNE := Lib.hid (show p ≠ b2 ∧ b ≠ b2 ∧ W.heap.size ≤ b2 by have := HS.out.my.at_.lt; have := HS.out.my.at_.own.lt; have := HS.out.below.size; omega)
                                    have HS2 := Lib.hid hS2
                                    have HZ := Lib.hid hx2
                                    clear hp2 hb2 hx2 hbl hS2 HE HS d0
                                    have d0 := HS2.out.cells.1
                                    obtain ⟨x1, hx1⟩ : ∃ z, z = IntKind.u32.wrap (x + 1) := ⟨_, rfl⟩
                                    have hxb : 0 ≤ x1 ∧ x1 < 4294967296 := by rw [hx1, IntKind.wrap_u32]; omega
                                    obtain ⟨t9, ht9⟩ : ∃ z, z = IntKind.u64.wrap (t + 9) := ⟨_, rfl⟩
                                    have htb : 0 ≤ t9 := by rw [ht9, IntKind.wrap_u64]; omega
                                    have HXT := Lib.hid (And.intro hxb htb)
                                    have hwx := hx1.symm
                                    have hwt := ht9.symm
                                    have d1 := HS2.out.cells.2.1
                                    have d2 := HS2.out.cells.2.2
                                    have HE := Lib.hid (set_any HZ.out HBD.out.1 t HBD.out.2.1)
                                    clear hxb htb hx1 ht9
                                    go_wp2_with fail
                                    refine HE.out.mono ?_
                                    rintro e w3 ⟨rfl, hz3, ht3⟩
                                    have HZ3 := Lib.hid hz3
                                    have HS3 := Lib.hid (HS2.out.turnz HZ.out HNE.out.2.2 HNE.out.1 HNE.out.2.1 ht3)
                                    have HE := Lib.hid (drop_any hz3 HXT.out.1)
                                    clear hz3 ht3 d1 d2
                                    have d1 := HS3.out.cells.2.1
                                    have d2 := HS3.out.cells.2.2
                                    clear HS2 HZ
                                    go_wp2_with fail
                                    refine HE.out.mono ?_
                                    rintro e w4 ⟨rfl, hz4, ht4⟩
                                    have HS4 := Lib.hid (HS3.out.turnz HZ3.out HNE.out.2.2 HNE.out.1 HNE.out.2.1 ht4)
                                    have HZ4 := Lib.hid hz4
                                    have HE := Lib.hid (expire_any hz4 t9 HXT.out.2)
                                    clear hz4 ht4 d1 d2
                                    have d2 := HS4.out.cells.2.2
                                    clear HS3 HZ3
                                    go_wp2_with fail
                                    refine HE.out.mono ?_
                                    rintro e w5 ⟨A5, c5, rfl, _, _, ht5⟩
                                    have HS5 := Lib.hid (HS4.out.turnz HZ4.out HNE.out.2.2 HNE.out.1 HNE.out.2.1 ht5)
                                    clear ht5 d2 HE HS4 HZ4
                                    go_wp2_with fail
                                    go_meet
                                    exact ⟨p, b, Aq, cq, M, rfl, rfl, HM.out, HS5.out⟩
                                · have hk8 : (k == 8) = false := by rw [beq_eq_false_iff_ne]; exact k8
                                  clear d1 d2
                                  go_wp2_with fail
                                  go_meet
                                  exact ⟨p, b, Aq, cq, M, rfl, rfl, HM.out, HS.out⟩
              case rest =>
                obtain ⟨p, b, A, c, M, rfl, rfl, hm, hS9⟩ := hcut
                clear HS HM c0 c1 c2 d0 d1 d2
                obtain ⟨m, hmm⟩ : ∃ m, m = M.length := ⟨_, rfl⟩
                have HMM := Lib.hid hmm
                have HS9 := Lib.hid hS9
                have HM := Lib.hid hm
                obtain ⟨lv, hlv⟩ : ∃ z, z = Pl.liveM M x t := ⟨_, rfl⟩
                obtain ⟨cs, hcs⟩ : ∃ z, z = Pl.whichM true t M := ⟨_, rfl⟩
                have h0 := Lib.hid (show ∀ w1, Below wc.heap.size wc w1 → w1.cell? ⟨q, 0, none⟩ = some (.slice A m c) ∧ Rws encLs w1 w1.heap.size A m c M from fun w1 hb => by
                  have h := (hS9.then_ hb).dy
                  rw [hmm]
                  exact ⟨h.cell, h.rws⟩)
                have hx := Lib.hid (show ∀ w1, Below wc.heap.size wc w1 → w1.cell? ⟨wr.heap.size, 1, none⟩ = some (.int .u32 x) ∧ w1.cell? ⟨wr.heap.size, 2, none⟩ = some (.int .u64 t) from fun w1 hb => (hS9.then_ hb).cells.2)
                have h1 := Lib.hid (show ∀ w1, Below wc.heap.size wc w1 → Calls Try.prog 20 #[.pointer (some ⟨p, 0, none⟩)] w1 (RetLl w1 M) from fun w1 hb => all_any (hS9.then_ hb).my.at_)
                have h2 := Lib.hid (show ∀ w1, Below wc.heap.size wc w1 → Calls Try.prog 21 #[.pointer (some ⟨p, 0, none⟩), .int .u32 x, .int .u64 t] w1 fun e w' => e = .returned (.bool lv) ∧ w' = w1 from fun w1 hb => by rw [hlv]; exact live_any (hS9.then_ hb).my.at_ HBD.out.1 t HBD.out.2.1)
                have h3 := Lib.hid (show ∀ w1, Below wc.heap.size wc w1 → Calls Try.prog 22 #[.pointer (some ⟨q, 0, none⟩), .int .u32 x, .int .u64 t] w1 fun e w' => e = .returned (.bool lv) ∧ Below w1.heap.size w1 w' from fun w1 hb => by rw [hlv]; exact rlive_any (hS9.then_ hb).dy hS9.my.at_.ok.up x t)
                have h4 := Lib.hid (show ∀ w1, Below wc.heap.size wc w1 → Calls Try.prog 23 #[.pointer (some ⟨p, 0, none⟩), .int .u64 t] w1 (RetC w1 cs) from fun w1 hb => by rw [hcs]; exact there_any (hS9.then_ hb).my.at_ t HBD.out.2.1)
                have h5 := Lib.hid (show ∀ w1, Below wc.heap.size wc w1 → Calls Try.prog 24 #[.pointer (some ⟨q, 0, none⟩), .bool true, .int .u64 t] w1 (RetC w1 cs) from fun w1 hb => by rw [hcs]; exact which_any (hS9.then_ hb).dy (by omega) true t)
                clear hS9 hm hmm hlv hcs
                go_wp2_with fail
                have HY0 := h0.out
                have HBX := hx.out
                have HY1 := h1.out
                have HY2 := h2.out
                have HY3 := h3.out
                have HY4 := h4.out
                have HY5 := h5.out
                refine Rg.wp_region_inv (fun w'' => Below wc.heap.size wc w'') (Rg.Wd.at [.is (.bool true), .is (.bool false), .is (.bool false), .is (.pointer (some ⟨p, 0, none⟩)), .pred (CmM M) CmM.stb, .is (.pointer (some ⟨q, 0, none⟩)), .is (.pointer (some ⟨q, 0, none⟩)), .is (.pointer (some ⟨q, 0, none⟩)), .is (.slice A m c), .is (.bool true), .is (.bool false), .is (.bool false), .is (.bool false), .is (.pointer (some ⟨p, 0, none⟩)), .is (.pointer (some ⟨wr.heap.size, 1, none⟩)), .is (.int .u32 x), .is (.pointer (some ⟨wr.heap.size, 2, none⟩)), .is (.int .u64 t), .is (.bool lv), .is (.pointer (some ⟨q, 0, none⟩)), .is (.pointer (some ⟨wr.heap.size, 1, none⟩)), .is (.int .u32 x), .is (.pointer (some ⟨wr.heap.size, 2, none⟩)), .is (.int .u64 t), .is (.bool lv), .is (.bool false), .is (.bool false), .is (.bool false), .is (.pointer (some ⟨p, 0, none⟩)), .is (.pointer (some ⟨wr.heap.size, 2, none⟩)), .is (.int .u64 t), .pred (CmC cs) CmC.stb, .is (.pointer (some ⟨q, 0, none⟩)), .is (.pointer (some ⟨wr.heap.size, 2, none⟩)), .is (.int .u64 t), .pred (CmC cs) CmC.stb, .is (.bool true), .is (.bool false), .is (.bool false)]) (by kernel_rfl) (by kernel_rfl) (Rg.Wd.stays _ _) (below_drawn (Below.refl _ _)) ⟨?_, ?_, ?_, ?_, ?_, ?_, ?_, ?_, ?_, ?_, ?_, ?_, ?_, ?_, ?_, ?_, ?_, ?_, ?_, ?_, ?_, ?_, ?_, ?_, ?_, ?_, ?_, ?_, ?_, ?_, ?_, ?_, ?_, ?_, ?_, ?_, ?_, ?_, ?_, trivial⟩ ?_
                · intro a w1 hS hb hd
                  have e13 := hb 13 (Rg.nw (by decide))
                  simp [Act.eval] at e13
                  exact Rg.does_pure (Rg.wanted_none rfl) (by simp [execOp, e13, go_sem]) hS rfl
                · intro a w1 hS hb hd
                  have e142 := hd ⟨0, .data⟩ (by simp) rfl _ _ rfl rfl
                  have e142 : a.tmps[142]?.getD undef = (.bool true) := Rg.slot e142
                  exact Rg.does_pure (Rg.wanted_none rfl) (by simp [execOp, e142, go_sem]) hS rfl
                · intro a w1 hS hb hd
                  have e143 := hd ⟨1, .data⟩ (by simp) rfl _ _ rfl rfl
                  have e143 : a.tmps[143]?.getD undef = (.bool false) := Rg.slot e143
                  exact Rg.does_pure (Rg.wanted_none rfl) (by simp [execOp, e143, go_sem]) hS rfl
                · intro a w1 hS hb hd
                  have e7 := hb 7 (Rg.nw (by decide))
                  simp [Act.eval] at e7
                  have e144 := hd ⟨2, .guard⟩ (by simp) rfl _ _ rfl rfl
                  exact Rg.does_pure (Rg.wanted_some rfl rfl rfl e144) (by simp [execOp, e7, go_sem]) hS rfl
                · intro a w1 hS hb hd
                  have e145 := hd ⟨3, .data⟩ (by simp) rfl _ _ rfl rfl
                  have e145 : a.tmps[145]?.getD undef = (.pointer (some ⟨p, 0, none⟩)) := Rg.slot e145
                  have e144 := hd ⟨2, .guard⟩ (by simp) rfl _ _ rfl rfl
                  refine Rg.does_call (f := 20) (args := #[.pointer (some ⟨p, 0, none⟩)]) (Rg.wanted_some rfl rfl rfl e144) (by simp [e145, go_sem]) ?_
                  refine (HY1 w1 hS).mono ?_; rintro e w3 ⟨A3, c3, rfl, hr, _, hb⟩; exact ⟨_, rfl, ⟨A3, c3, rfl, hr⟩, below_then hS hb, hb⟩
                · intro a w1 hS hb hd
                  have e9 := hb 9 (Rg.nw (by decide))
                  simp [Act.eval] at e9
                  have e144 := hd ⟨2, .guard⟩ (by simp) rfl _ _ rfl rfl
                  exact Rg.does_pure (Rg.wanted_some rfl rfl rfl e144) (by simp [execOp, e9, go_sem]) hS rfl
                · intro a w1 hS hb hd
                  have e147 := hd ⟨5, .data⟩ (by simp) rfl _ _ rfl rfl
                  have e147 : a.tmps[147]?.getD undef = (.pointer (some ⟨q, 0, none⟩)) := Rg.slot e147
                  have e144 := hd ⟨2, .guard⟩ (by simp) rfl _ _ rfl rfl
                  exact Rg.does_pure (Rg.wanted_some rfl rfl rfl e144) (by simp [execOp, e147, go_sem]) hS rfl
                · intro a w1 hS hb hd
                  have e148 := hd ⟨6, .data⟩ (by simp) rfl _ _ rfl rfl
                  have e148 : a.tmps[148]?.getD undef = (.pointer (some ⟨q, 0, none⟩)) := Rg.slot e148
                  have e144 := hd ⟨2, .guard⟩ (by simp) rfl _ _ rfl rfl
                  exact Rg.does_pure (Rg.wanted_some rfl rfl rfl e144) (by simp [execOp, e148, go_sem]) hS rfl
                · intro a w1 hS hb hd
                  have e149 := hd ⟨7, .data⟩ (by simp) rfl _ _ rfl rfl
                  have e149 : a.tmps[149]?.getD undef = (.pointer (some ⟨q, 0, none⟩)) := Rg.slot e149
                  have e144 := hd ⟨2, .guard⟩ (by simp) rfl _ _ rfl rfl
                  exact Rg.does_pure (Rg.wanted_some rfl rfl rfl e144) (by simp [execOp, e149, (HY0 w1 hS).1, go_sem]) hS rfl
                · intro a w1 hS hb hd
                  have e146 := hd ⟨4, .data⟩ (by simp) rfl _ _ rfl rfl
                  have e150 := hd ⟨8, .data⟩ (by simp) rfl _ _ rfl rfl
                  have e150 : a.tmps[150]?.getD undef = (.slice A m c) := Rg.slot e150
                  have e144 := hd ⟨2, .guard⟩ (by simp) rfl _ _ rfl rfl
                  obtain ⟨A8, c8, q8, hC8⟩ := e146; have r8 := Rg.slot q8; have hC9 := (HY0 w1 hS).2; rw [← HMM.out] at r8 hC8; refine Rg.does_call (f := 19) (args := #[.slice A8 m c8, .slice A m c]) (Rg.wanted_some rfl rfl rfl e144) (by simp [r8, e150, go_sem]) ?_; exact (same_eq hC8 hC9).mono fun e w3 ⟨h0, h1⟩ => ⟨_, h0, rfl, below_then hS h1, h1⟩
                · intro a w1 hS hb hd
                  have e151 := hd ⟨9, .data⟩ (by simp) rfl _ _ rfl rfl
                  have e151 : a.tmps[151]?.getD undef = (.bool true) := Rg.slot e151
                  have e144 := hd ⟨2, .guard⟩ (by simp) rfl _ _ rfl rfl
                  exact Rg.does_pure (Rg.wanted_some rfl rfl rfl e144) (by simp [execOp, e151, go_sem]) hS rfl
                · intro a w1 hS hb hd
                  have e144 := hd ⟨2, .data⟩ (by simp) rfl _ _ rfl rfl
                  have e144 : a.tmps[144]?.getD undef = (.bool false) := Rg.slot e144
                  have e152 := hd ⟨10, .data⟩ (by simp) rfl _ _ rfl rfl
                  have e152 : a.tmps[152]?.getD undef = (.bool false) := Rg.slot e152
                  exact Rg.does_pure (Rg.wanted_none rfl) (by simp [execOp, e144, e152, go_sem]) hS rfl
                · intro a w1 hS hb hd
                  have e153 := hd ⟨11, .data⟩ (by simp) rfl _ _ rfl rfl
                  have e153 : a.tmps[153]?.getD undef = (.bool false) := Rg.slot e153
                  exact Rg.does_pure (Rg.wanted_none rfl) (by simp [execOp, e153, go_sem]) hS rfl
                · intro a w1 hS hb hd
                  have e7 := hb 7 (Rg.nw (by decide))
                  simp [Act.eval] at e7
                  have e154 := hd ⟨12, .guard⟩ (by simp) rfl _ _ rfl rfl
                  exact Rg.does_pure (Rg.wanted_some rfl rfl rfl e154) (by simp [execOp, e7, go_sem]) hS rfl
                · intro a w1 hS hb hd
                  have e12 := hb 12 (Rg.nw (by decide))
                  simp [Act.eval] at e12
                  have e154 := hd ⟨12, .guard⟩ (by simp) rfl _ _ rfl rfl
                  exact Rg.does_pure (Rg.wanted_some rfl rfl rfl e154) (by simp [execOp, e12, go_sem]) hS rfl
                · intro a w1 hS hb hd
                  have e156 := hd ⟨14, .data⟩ (by simp) rfl _ _ rfl rfl
                  have e156 : a.tmps[156]?.getD undef = (.pointer (some ⟨wr.heap.size, 1, none⟩)) := Rg.slot e156
                  have e154 := hd ⟨12, .guard⟩ (by simp) rfl _ _ rfl rfl
                  exact Rg.does_pure (Rg.wanted_some rfl rfl rfl e154) (by simp [execOp, e156, (HBX w1 hS).1, go_sem]) hS rfl
                · intro a w1 hS hb hd
                  have e12 := hb 12 (Rg.nw (by decide))
                  simp [Act.eval] at e12
                  have e154 := hd ⟨12, .guard⟩ (by simp) rfl _ _ rfl rfl
                  exact Rg.does_pure (Rg.wanted_some rfl rfl rfl e154) (by simp [execOp, e12, go_sem]) hS rfl
                · intro a w1 hS hb hd
                  have e158 := hd ⟨16, .data⟩ (by simp) rfl _ _ rfl rfl
                  have e158 : a.tmps[158]?.getD undef = (.pointer (some ⟨wr.heap.size, 2, none⟩)) := Rg.slot e158
                  have e154 := hd ⟨12, .guard⟩ (by simp) rfl _ _ rfl rfl
                  exact Rg.does_pure (Rg.wanted_some rfl rfl rfl e154) (by simp [execOp, e158, (HBX w1 hS).2, go_sem]) hS rfl
                · intro a w1 hS hb hd
                  have e155 := hd ⟨13, .data⟩ (by simp) rfl _ _ rfl rfl
                  have e155 : a.tmps[155]?.getD undef = (.pointer (some ⟨p, 0, none⟩)) := Rg.slot e155
                  have e157 := hd ⟨15, .data⟩ (by simp) rfl _ _ rfl rfl
                  have e157 : a.tmps[157]?.getD undef = (.int .u32 x) := Rg.slot e157
                  have e159 := hd ⟨17, .data⟩ (by simp) rfl _ _ rfl rfl
                  have e159 : a.tmps[159]?.getD undef = (.int .u64 t) := Rg.slot e159
                  have e154 := hd ⟨12, .guard⟩ (by simp) rfl _ _ rfl rfl
                  refine Rg.does_call (f := 21) (args := #[.pointer (some ⟨p, 0, none⟩), .int .u32 x, .int .u64 t]) (Rg.wanted_some rfl rfl rfl e154) (by simp [e155, e157, e159, go_sem]) ?_
                  refine (HY2 w1 hS).mono ?_; rintro e w3 ⟨rfl, hw⟩; subst hw; exact ⟨_, rfl, rfl, hS, Below.refl _ _⟩
                · intro a w1 hS hb hd
                  have e9 := hb 9 (Rg.nw (by decide))
                  simp [Act.eval] at e9
                  have e154 := hd ⟨12, .guard⟩ (by simp) rfl _ _ rfl rfl
                  exact Rg.does_pure (Rg.wanted_some rfl rfl rfl e154) (by simp [execOp, e9, go_sem]) hS rfl
                · intro a w1 hS hb hd
                  have e12 := hb 12 (Rg.nw (by decide))
                  simp [Act.eval] at e12
                  have e154 := hd ⟨12, .guard⟩ (by simp) rfl _ _ rfl rfl
                  exact Rg.does_pure (Rg.wanted_some rfl rfl rfl e154) (by simp [execOp, e12, go_sem]) hS rfl
                · intro a w1 hS hb hd
                  have e162 := hd ⟨20, .data⟩ (by simp) rfl _ _ rfl rfl
                  have e162 : a.tmps[162]?.getD undef = (.pointer (some ⟨wr.heap.size, 1, none⟩)) := Rg.slot e162
                  have e154 := hd ⟨12, .guard⟩ (by simp) rfl _ _ rfl rfl
                  exact Rg.does_pure (Rg.wanted_some rfl rfl rfl e154) (by simp [execOp, e162, (HBX w1 hS).1, go_sem]) hS rfl
                · intro a w1 hS hb hd
                  have e12 := hb 12 (Rg.nw (by decide))
                  simp [Act.eval] at e12
                  have e154 := hd ⟨12, .guard⟩ (by simp) rfl _ _ rfl rfl
                  exact Rg.does_pure (Rg.wanted_some rfl rfl rfl e154) (by simp [execOp, e12, go_sem]) hS rfl
                · intro a w1 hS hb hd
                  have e164 := hd ⟨22, .data⟩ (by simp) rfl _ _ rfl rfl
                  have e164 : a.tmps[164]?.getD undef = (.pointer (some ⟨wr.heap.size, 2, none⟩)) := Rg.slot e164
                  have e154 := hd ⟨12, .guard⟩ (by simp) rfl _ _ rfl rfl
                  exact Rg.does_pure (Rg.wanted_some rfl rfl rfl e154) (by simp [execOp, e164, (HBX w1 hS).2, go_sem]) hS rfl
                · intro a w1 hS hb hd
                  have e161 := hd ⟨19, .data⟩ (by simp) rfl _ _ rfl rfl
                  have e161 : a.tmps[161]?.getD undef = (.pointer (some ⟨q, 0, none⟩)) := Rg.slot e161
                  have e163 := hd ⟨21, .data⟩ (by simp) rfl _ _ rfl rfl
                  have e163 : a.tmps[163]?.getD undef = (.int .u32 x) := Rg.slot e163
                  have e165 := hd ⟨23, .data⟩ (by simp) rfl _ _ rfl rfl
                  have e165 : a.tmps[165]?.getD undef = (.int .u64 t) := Rg.slot e165
                  have e154 := hd ⟨12, .guard⟩ (by simp) rfl _ _ rfl rfl
                  refine Rg.does_call (f := 22) (args := #[.pointer (some ⟨q, 0, none⟩), .int .u32 x, .int .u64 t]) (Rg.wanted_some rfl rfl rfl e154) (by simp [e161, e163, e165, go_sem]) ?_
                  refine (HY3 w1 hS).mono ?_; rintro e w3 ⟨rfl, hb⟩; exact ⟨_, rfl, rfl, below_then hS hb, hb⟩
                · intro a w1 hS hb hd
                  have e160 := hd ⟨18, .data⟩ (by simp) rfl _ _ rfl rfl
                  have e160 : a.tmps[160]?.getD undef = (.bool lv) := Rg.slot e160
                  have e166 := hd ⟨24, .data⟩ (by simp) rfl _ _ rfl rfl
                  have e166 : a.tmps[166]?.getD undef = (.bool lv) := Rg.slot e166
                  have e154 := hd ⟨12, .guard⟩ (by simp) rfl _ _ rfl rfl
                  exact Rg.does_pure (Rg.wanted_some rfl rfl rfl e154) (by simp [execOp, e160, e166, go_sem]) hS rfl
                · intro a w1 hS hb hd
                  have e154 := hd ⟨12, .data⟩ (by simp) rfl _ _ rfl rfl
                  have e154 : a.tmps[154]?.getD undef = (.bool false) := Rg.slot e154
                  have e167 := hd ⟨25, .data⟩ (by simp) rfl _ _ rfl rfl
                  have e167 : a.tmps[167]?.getD undef = (.bool false) := Rg.slot e167
                  exact Rg.does_pure (Rg.wanted_none rfl) (by simp [execOp, e154, e167, go_sem]) hS rfl
                · intro a w1 hS hb hd
                  have e168 := hd ⟨26, .data⟩ (by simp) rfl _ _ rfl rfl
                  have e168 : a.tmps[168]?.getD undef = (.bool false) := Rg.slot e168
                  exact Rg.does_pure (Rg.wanted_none rfl) (by simp [execOp, e168, go_sem]) hS rfl
                · intro a w1 hS hb hd
                  have e7 := hb 7 (Rg.nw (by decide))
                  simp [Act.eval] at e7
                  have e169 := hd ⟨27, .guard⟩ (by simp) rfl _ _ rfl rfl
                  exact Rg.does_pure (Rg.wanted_some rfl rfl rfl e169) (by simp [execOp, e7, go_sem]) hS rfl
                · intro a w1 hS hb hd
                  have e12 := hb 12 (Rg.nw (by decide))
                  simp [Act.eval] at e12
                  have e169 := hd ⟨27, .guard⟩ (by simp) rfl _ _ rfl rfl
                  exact Rg.does_pure (Rg.wanted_some rfl rfl rfl e169) (by simp [execOp, e12, go_sem]) hS rfl
                · intro a w1 hS hb hd
                  have e171 := hd ⟨29, .data⟩ (by simp) rfl _ _ rfl rfl
                  have e171 : a.tmps[171]?.getD undef = (.pointer (some ⟨wr.heap.size, 2, none⟩)) := Rg.slot e171
                  have e169 := hd ⟨27, .guard⟩ (by simp) rfl _ _ rfl rfl
                  exact Rg.does_pure (Rg.wanted_some rfl rfl rfl e169) (by simp [execOp, e171, (HBX w1 hS).2, go_sem]) hS rfl
                · intro a w1 hS hb hd
                  have e170 := hd ⟨28, .data⟩ (by simp) rfl _ _ rfl rfl
                  have e170 : a.tmps[170]?.getD undef = (.pointer (some ⟨p, 0, none⟩)) := Rg.slot e170
                  have e172 := hd ⟨30, .data⟩ (by simp) rfl _ _ rfl rfl
                  have e172 : a.tmps[172]?.getD undef = (.int .u64 t) := Rg.slot e172
                  have e169 := hd ⟨27, .guard⟩ (by simp) rfl _ _ rfl rfl
                  refine Rg.does_call (f := 23) (args := #[.pointer (some ⟨p, 0, none⟩), .int .u64 t]) (Rg.wanted_some rfl rfl rfl e169) (by simp [e170, e172, go_sem]) ?_
                  refine (HY4 w1 hS).mono ?_; rintro e w3 ⟨A3, c3, rfl, ho, hb⟩; exact ⟨_, rfl, ⟨A3, c3, rfl, (OwnR.rws encC_len ho).2⟩, below_then hS hb, hb⟩
                · intro a w1 hS hb hd
                  have e9 := hb 9 (Rg.nw (by decide))
                  simp [Act.eval] at e9
                  have e169 := hd ⟨27, .guard⟩ (by simp) rfl _ _ rfl rfl
                  exact Rg.does_pure (Rg.wanted_some rfl rfl rfl e169) (by simp [execOp, e9, go_sem]) hS rfl
                · intro a w1 hS hb hd
                  have e12 := hb 12 (Rg.nw (by decide))
                  simp [Act.eval] at e12
                  have e169 := hd ⟨27, .guard⟩ (by simp) rfl _ _ rfl rfl
                  exact Rg.does_pure (Rg.wanted_some rfl rfl rfl e169) (by simp [execOp, e12, go_sem]) hS rfl
                · intro a w1 hS hb hd
                  have e175 := hd ⟨33, .data⟩ (by simp) rfl _ _ rfl rfl
                  have e175 : a.tmps[175]?.getD undef = (.pointer (some ⟨wr.heap.size, 2, none⟩)) := Rg.slot e175
                  have e169 := hd ⟨27, .guard⟩ (by simp) rfl _ _ rfl rfl
                  exact Rg.does_pure (Rg.wanted_some rfl rfl rfl e169) (by simp [execOp, e175, (HBX w1 hS).2, go_sem]) hS rfl
                · intro a w1 hS hb hd
                  have e174 := hd ⟨32, .data⟩ (by simp) rfl _ _ rfl rfl
                  have e174 : a.tmps[174]?.getD undef = (.pointer (some ⟨q, 0, none⟩)) := Rg.slot e174
                  have e176 := hd ⟨34, .data⟩ (by simp) rfl _ _ rfl rfl
                  have e176 : a.tmps[176]?.getD undef = (.int .u64 t) := Rg.slot e176
                  have e169 := hd ⟨27, .guard⟩ (by simp) rfl _ _ rfl rfl
                  refine Rg.does_call (f := 24) (args := #[.pointer (some ⟨q, 0, none⟩), .bool true, .int .u64 t]) (Rg.wanted_some rfl rfl rfl e169) (by simp [e174, e176, go_sem]) ?_
                  refine (HY5 w1 hS).mono ?_; rintro e w3 ⟨A3, c3, rfl, ho, hb⟩; exact ⟨_, rfl, ⟨A3, c3, rfl, (OwnR.rws encC_len ho).2⟩, below_then hS hb, hb⟩
                · intro a w1 hS hb hd
                  have e173 := hd ⟨31, .data⟩ (by simp) rfl _ _ rfl rfl
                  have e177 := hd ⟨35, .data⟩ (by simp) rfl _ _ rfl rfl
                  have e169 := hd ⟨27, .guard⟩ (by simp) rfl _ _ rfl rfl
                  obtain ⟨A8, c8, q8, hC8⟩ := e173; obtain ⟨A9, c9, q9, hC9⟩ := e177; have r8 := Rg.slot q8; have r9 := Rg.slot q9; refine Rg.does_call (f := 16) (args := #[.slice A8 cs.length c8, .slice A9 cs.length c9]) (Rg.wanted_some rfl rfl rfl e169) (by simp [r8, r9, go_sem]) ?_; exact (rsame_yes hC8 hC9 rfl).mono fun e w3 ⟨h0, h1⟩ => ⟨_, h0, rfl, below_then hS h1, h1⟩
                · intro a w1 hS hb hd
                  have e178 := hd ⟨36, .data⟩ (by simp) rfl _ _ rfl rfl
                  have e178 : a.tmps[178]?.getD undef = (.bool true) := Rg.slot e178
                  have e169 := hd ⟨27, .guard⟩ (by simp) rfl _ _ rfl rfl
                  exact Rg.does_pure (Rg.wanted_some rfl rfl rfl e169) (by simp [execOp, e178, go_sem]) hS rfl
                · intro a w1 hS hb hd
                  have e169 := hd ⟨27, .data⟩ (by simp) rfl _ _ rfl rfl
                  have e169 : a.tmps[169]?.getD undef = (.bool false) := Rg.slot e169
                  have e179 := hd ⟨37, .data⟩ (by simp) rfl _ _ rfl rfl
                  have e179 : a.tmps[179]?.getD undef = (.bool false) := Rg.slot e179
                  exact Rg.does_pure (Rg.wanted_none rfl) (by simp [execOp, e169, e179, go_sem]) hS rfl
                intro v w5 hS hv
                have h180 : v 38 = .bool false := hv 38 _ _ rfl rfl
                have HS5 := Lib.hid (HS9.out.then_ hS)
                simp only [Rg.putAll, Nat.zero_add, Nat.reduceAdd]
                simp only [Act.put, List.setIfInBounds_toArray, List.set_cons_succ, List.set_cons_zero]
                rw [h180]
                clear h180 hv hS HY0 HY1 HY2 HY3 HY4 HY5 HBX h0 h1 h2 h3 h4 h5 hx HS9
                go_wp2_with fail
                go_roundw
                case rel => exact ⟨j + 1, p, b, A, c, M, by go_num, rfl, HLT.out.1, HLT.out.2, HM.out, HS5.out.my, HS5.out.dy, HS5.out.below⟩
                case measure => simp [intOf]; (have := HMS.out; omega)
            · have z2 : decide ((j : Int) < 100) = false := decide_eq_false (by omega)
              have z2n : decide (j < 100) = false := decide_eq_false h100
              have HB := Lib.hid hb
              clear hx hy hb hlt h100 hj hj100
              go_wp2_with fail
              refine (HWK _).out.mono ?_
              rintro e w9 ⟨rfl, hb9⟩
              have HB9 := Lib.hid (below_then HB.out hb9)
              clear hb9
              go_wp2_with fail
              go_ret
              exact ⟨rfl, HB9.out⟩
          · have z1 : decide ((j : Int) < (n' : Int)) = false := decide_eq_false (by omega)
            have z1n : decide (j < n') = false := decide_eq_false hlt
            have HB := Lib.hid hb
            clear hx hy hb hlt hj hj100
            go_wp2_with fail
            refine (HWK _).out.mono ?_
            rintro e w9 ⟨rfl, hb9⟩
            have HB9 := Lib.hid (below_then HB.out hb9)
            clear hb9
            go_wp2_with fail
            go_ret
            exact ⟨rfl, HB9.out⟩
      · obtain rfl := hn1 hnl
        have HNL := Lib.hid hnl
        clear hn0 hn1 hnl
        go_wp2_with fail
        refine HRN.out.mono ?_
        rintro e w3 ⟨_, hr1, hb3⟩
        obtain rfl := hr1 HNL.out
        have HB3 := Lib.hid (below_then HB2.out hb3)
        obtain ⟨r, hr⟩ : ∃ r, r = Pl.newL F := ⟨_, rfl⟩
        rw [← hr] at HNL ⊢
        have y0 : (r != r) = false := by simp
        have y1 : (r == 0) = false := by simpa using HNL.out
        have y2 : (r != 0) = true := by simpa using HNL.out
        clear hr1 hb3 hr HRN HB2
        go_wp2_with fail
        refine (HWK _).out.mono ?_
        rintro e w9 ⟨rfl, hb9⟩
        have HB9 := Lib.hid (below_then HB3.out hb9)
        clear hb9
        go_wp2_with fail
        go_ret
        exact ⟨rfl, HB9.out⟩
end Go.Proofs.Ytjplchajopkpcaa.leasePlays
