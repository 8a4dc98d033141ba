/-
  Contracts of piece: part, for any closure whose own contract is known; New. Conditions: the buffers have at most 2^30 code points; the places asked for are at most 2^30.
-/
import Derived.Test.YtogmddneimhpeaaPceC
namespace Go.Proofs.Ytogmddneimhpeaa
open Go.RowKit
open Pl (Pc Plc Tab)

theorem max_run (x y z : Int) (h : z = max x y) : ∀ (w' : World) (ts : Array TypeId) (t : TypeId), (Builtin.max_ ts t #[.int .i64 x, .int .i64 y]).run Try.prog w' = .ok (.int .i64 z) w' := by
  intro w' ts t
  rw [run_max_int2]
  subst h
  congr 2
  split <;> omega
theorem min_run (x y z : Int) (h : z = min x y) : ∀ (w' : World) (ts : Array TypeId) (t : TypeId), (Builtin.min_ ts t #[.int .i64 x, .int .i64 y]).run Try.prog w' = .ok (.int .i64 z) w' := by
  intro w' ts t
  rw [run_min_int2]
  subst h
  congr 2
  split <;> omega

theorem clip_append : ∀ (a b : List Pc) (f u : Int), Pl.clip f u (a ++ b) = Pl.clip f u a ++ Pl.clip (f - (Pl.total a : Int)) (u - (Pl.total a : Int)) b
  | [], b, f, u => by simp [Pl.clip, Pl.total]
  | p :: a, b, f, u => by
    rw [List.cons_append, Pl.clip, Pl.clip, clip_append a b, List.append_assoc]
    have e : (Pl.total (p :: a) : Int) = (p.len : Int) + (Pl.total a : Int) := by simp [Pl.total]
    rw [e, Int.sub_sub, Int.sub_sub]
/-- part's loop: the pieces ahead of j are handed on -/
def PRel (G0 : Nat → Prop) (w : World) (ps acc : List Pc) (f0 u0 : Int) (J : (Nat → Prop) → List Pc → World → Prop) (f u i : Value) (wr : World) : Prop :=
  ∃ (j : Nat) (G : Nat → Prop), i = .int .i64 (j : Int) ∧ j ≤ ps.length ∧ f = .int .i64 (f0 - (Pl.total (ps.take j) : Int)) ∧ u = .int .i64 (u0 - (Pl.total (ps.take j) : Int)) ∧ J G (acc ++ Pl.clip f0 u0 (ps.take j)) wr ∧ Tn G0 w wr ∧ ∀ b, G b → G0 b ∨ w.heap.size ≤ b
/-- a state that a closure keeps: of its own blocks, all at or above base; what grows beside it does not matter -/
def Keeps (base : Nat) (J : (Nat → Prop) → List Pc → World → Prop) : Prop := (∀ G acc w1 w2, J G acc w1 → Below w1.heap.size w1 w2 → J G acc w2) ∧ ∀ G acc w1, J G acc w1 → ∀ b, G b → base ≤ b ∧ b < w1.heap.size
/-- what a closure leaves -/
def Left (J : (Nat → Prop) → List Pc → World → Prop) (G : Nat → Prop) (acc : List Pc) (w1 : World) (e : Ending) (w2 : World) : Prop := e = .returned (.tuple #[]) ∧ Tn G w1 w2 ∧ ∃ G', J G' acc w2 ∧ ∀ b, G' b → G b ∨ w1.heap.size ≤ b
set_option maxRecDepth 100000 in
set_option maxHeartbeats 1000000 in
theorem part_any {w : World} {F : Nat → Prop} {p : Nat} {t : Tab} {m : Nat} (h : Tb w F p t m) (f0 u0 : Int) (hf0 : 0 ≤ f0 ∧ f0 ≤ 1073741824) (hu0 : 0 ≤ u0 ∧ u0 ≤ 1073741824) (f : FuncId) (caps : Array Value) (base : Nat) (J : (Nat → Prop) → List Pc → World → Prop) (G0 : Nat → Prop) (acc : List Pc)
    (hf : ∀ args w, (callFunc f args).run Try.prog w = .ok (.enter f args) w) (hF : ∀ b, F b → b < base) (hbase : base ≤ w.heap.size)
    (hJ : J G0 acc w) (hJr : Keeps base J)
    (hH : ∀ G acc2 x w1, J G (acc ++ acc2) w1 → Below base w w1 → 1 ≤ x.len → x.at_ + x.len ≤ (t.buf x.s).length → (∃ r, Pl.clip f0 u0 (Pl.group t.L) = (acc2 ++ [x]) ++ r) → Calls Try.prog f (#[aggP x] ++ caps) w1 (Left J G (acc ++ (acc2 ++ [x])) w1)) :
    Calls Try.prog 46 #[.pointer (some ⟨p, 0, none⟩), .int .i64 f0, .int .i64 u0, .func (.func f) #[] caps] w (Left J G0 (acc ++ Pl.clip f0 u0 (Pl.group t.L)) w) := by
  have hok := h.ok
  have hm := h.le
  have hlt := h.lt
  obtain ⟨_, _, _, hp, A1, c1, q, A2, c2, A3, c3, h1, h2, h3, h4, h5, h6, h7, h8, h9, h10⟩ := h
  have d3 := cell3 h1
  have hT := Pl.total_group t.L
  have hps := Pl.group_len t.L
  have hlen := hok.len
  obtain ⟨ps, hps0⟩ : ∃ ps, ps = Pl.group t.L := ⟨_, rfl⟩
  have HPC := Lib.hid (fun (f u : Int) (x : Pc) (hx : x ∈ Pl.clip f u (Pl.group t.L)) => hok.pc_clip (f := f) (u := u) hx)
  rw [← hps0] at d3 h5 hT hps hH HPC h10 ⊢
  have HT := Lib.hid hT
  have HR := Lib.hid (OwnR.rws encP_len h5).2
  have HA3 := Lib.hid (show ∀ g, A3 = some g → g.block < base from fun g hg => by subst hg; exact hF _ (h10 g.block rfl).1)
  have HJ := Lib.hid (And.intro hJ hJr)
  have HH := Lib.hid hH
  have HPS := Lib.hid hps0
  have hpsl : ps.length ≤ 1073741824 := by omega
  have hL : t.L.length ≤ 1073741824 := by omega
  have HBUF := Lib.hid (show ∀ s, (t.buf s).length ≤ 1073741824 from fun s => by have := hok.2.2; unfold Tab.buf; split <;> omega)
  clear h1 h2 h3 h4 h5 h6 h7 h8 h9 h10 hok hlt hp hps hlen hJ hJr hH hF hT hps0
  go_enter Try.func46, Try.ntmps46
  go_wp2_with fail
  go_loopw [1, 2, 17] (fun f u i wr => PRel G0 w ps acc f0 u0 J f u i wr) (fun _ _ i _ => ps.length - (intOf i).toNat)
  case atStart => exact ⟨0, G0, rfl, Nat.zero_le _, by simp [Pl.total], by simp [Pl.total], by simpa [Pl.clip] using HJ.out.1, Tn.refl _ _, fun b h => Or.inl h⟩
  case round =>
    obtain ⟨j, G, rfl, hj, rfl, rfl, hJ, htn, hGG⟩ := hrel
    have hb := htn.new hbase (fun b hb => (HJ.out.2.2 G0 acc w HJ.out.1 b hb).1)
    have HB := Lib.hid (And.intro htn hGG)
    have HJ1 := Lib.hid hJ
    by_cases hlt : j < ps.length
    · obtain ⟨g, o, e3, hg, hc0⟩ := Pcs.at_ (Rws.more HR.out (B' := w.heap.size) (Nat.le_refl _)) hlt
      have hgb : g < base := HA3.out ⟨g, o, none⟩ e3
      subst e3
      obtain ⟨x0, x1, x2⟩ := hc0 j hlt
      have k0 := (hb.cell (p := ⟨g, _, none⟩) hgb).trans x0
      have k1 := (hb.cell (p := ⟨g, _, none⟩) hgb).trans x1
      have k2 := (hb.cell (p := ⟨g, _, none⟩) hgb).trans x2
      have hs := Pl.total_take ps j hlt
      have hs2 := Pl.total_take_le ps (j + 1)
      rw [HT.out] at hs2
      have hcl := Pl.clip_take ps j hlt f0 u0
      have hmem : ps.getD j default ∈ ps := by rw [List.getD_eq_getElem?_getD, List.getElem?_eq_getElem hlt]; exact List.getElem_mem _
      have hcl2 : ∀ x ∈ Pl.clip1 (f0 - (Pl.total (ps.take j) : Int)) (u0 - (Pl.total (ps.take j) : Int)) (ps.getD j default), x ∈ Pl.clip f0 u0 ps := fun x hx => by
        have h1 : ps = ps.take (j + 1) ++ ps.drop (j + 1) := (List.take_append_drop _ _).symm
        have hca : ∀ (a b : List Pc) (f u : Int), ∀ x ∈ Pl.clip f u a, x ∈ Pl.clip f u (a ++ b) := fun a => by
          induction a with
          | nil => intro b f u x hx; cases hx
          | cons y a ih =>
            intro b f u x hx
            rcases List.mem_append.1 hx with hx | hx
            · exact List.mem_append_left _ hx
            · exact List.mem_append_right _ (ih b _ _ x hx)
        rw [h1]
        exact hca _ _ _ _ x (by rw [hcl]; exact List.mem_append_right _ hx)
      have HCLN := Lib.hid (show ∃ r, Pl.clip f0 u0 ps = (Pl.clip f0 u0 (ps.take j) ++ Pl.clip1 (f0 - (Pl.total (ps.take j) : Int)) (u0 - (Pl.total (ps.take j) : Int)) (ps.getD j default)) ++ r from
        ⟨_, by rw [← hcl, ← clip_append, List.take_append_drop]⟩)
      obtain ⟨⟨s, a, l⟩, ha⟩ : ∃ x, x = ps.getD j default := ⟨_, rfl⟩
      obtain ⟨y, hy⟩ : ∃ y, y = Pl.total (ps.take j) := ⟨_, rfl⟩
      obtain ⟨y2, hy2⟩ : ∃ y2, y2 = Pl.total (ps.take (j + 1)) := ⟨_, rfl⟩
      obtain ⟨C, hC⟩ : ∃ C, C = Pl.clip f0 u0 (ps.take j) := ⟨_, rfl⟩
      obtain ⟨C2, hC2⟩ : ∃ C2, C2 = Pl.clip f0 u0 (ps.take (j + 1)) := ⟨_, rfl⟩
      rw [← ha] at k0 k1 k2 hs hcl hcl2 HCLN
      rw [← hy] at hs hcl hcl2 HCLN
      rw [← hy2] at hs hs2
      rw [← hC] at hcl HJ1 HCLN
      rw [← hC2] at hcl
      rw [← hy]
      simp only at k0 k1 k2 hs
      have hbd : y + l ≤ 1073741824 := by omega
      obtain ⟨fj, hfj⟩ : ∃ z : Int, z = f0 - (y : Int) := ⟨_, rfl⟩
      obtain ⟨uj, huj⟩ : ∃ z : Int, z = u0 - (y : Int) := ⟨_, rfl⟩
      have hfb : -1073741824 ≤ fj ∧ fj ≤ 1073741824 := by omega
      have hub : -1073741824 ≤ uj ∧ uj ≤ 1073741824 := by omega
      have hf2 : fj - (l : Int) = f0 - (y2 : Int) := by omega
      have hu2 : uj - (l : Int) = u0 - (y2 : Int) := by omega
      rw [← hfj, ← huj] at hcl hcl2 HCLN
      rw [← hfj, ← huj]
      obtain ⟨mx, hmx⟩ : ∃ z : Int, z = max fj 0 := ⟨_, rfl⟩
      obtain ⟨mn, hmn⟩ : ∃ z : Int, z = min uj (l : Int) := ⟨_, rfl⟩
      have rmx := max_run fj 0 mx hmx
      have rmn := min_run uj (l : Int) mn hmn
      have hmb : 0 ≤ mx ∧ mx ≤ 1073741824 := by omega
      have hnb : -1073741824 ≤ mn ∧ mn ≤ (l : Int) := by omega
      obtain ⟨W, hW⟩ : ∃ W, W = wr.alloc (.cells #[.bool s, .int .i64 (a : Int), .int .i64 (l : Int)] 59) := ⟨_, rfl⟩
      have hbW : Below wr.heap.size wr W := by rw [hW]; exact (Below.refl _ _).alloc (Nat.le_refl _) _
      have hq1 : W.heap[wr.heap.size]? = some (.cells #[.bool s, .int .i64 (a : Int), .int .i64 (l : Int)] 59 (0, 0)) := by rw [hW, heap_alloc_new]
      have HQ := Lib.hid hq1
      have HJW := Lib.hid (HJ.out.2.1 G (acc ++ C) wr W.drew HJ1.out (hbW.drew))
      have HBW := Lib.hid (hb.trans (hbW.mono (by have := hb.size; omega))).drew
      have HEQ := Lib.hid (And.intro hC2 (And.intro hy2 (And.intro hf2 hu2)))
      have HW := Lib.hid hW
      have HBW2 := Lib.hid hbW
      clear hs2 hC hC2 hy hy2 hf2 hu2 hfj huj hc0 x0 x1 x2 hmem ha hs hW hq1 hbW hb hJ htn hGG
      by_cases hlt2 : mx < mn
      · have hmx' : mx = max fj 0 := hmx
        have e1 : Pl.clip1 fj uj ⟨s, a, l⟩ = [⟨s, a + mx.toNat, (mn - mx).toNat⟩] := by
          unfold Pl.clip1
          simp only
          rw [← hmx, ← hmn, if_pos hlt2]
        rw [e1] at hcl hcl2 HCLN
        have hpc := HPC.out f0 u0 ⟨s, a + mx.toNat, (mn - mx).toNat⟩ (hcl2 _ (by simp))
        have hag : aggP ⟨s, a + mx.toNat, (mn - mx).toNat⟩ = .agg #[.bool s, .int .i64 ((a : Int) + mx), .int .i64 (mn - mx)] := by
          unfold aggP
          simp only
          rw [Int.natCast_add, Int.toNat_of_nonneg hmb.1, Int.toNat_of_nonneg (by omega)]
        have HC := Lib.hid (HH.out G C ⟨s, a + mx.toNat, (mn - mx).toNat⟩ W.drew HJW.out HBW.out (by simp only; omega) hpc HCLN.out)
        rw [hag] at HC
        have hal : (a : Int) + mx ≤ 1073741824 := by
          have h1 : a + mx.toNat + (mn - mx).toNat ≤ (t.buf s).length := hpc
          have h2 := HBUF.out s
          omega
        have g2 := cell2 HQ.out
        have g0 := cell0 HQ.out
        have g1 := cell1 HQ.out
        have hcl' := hcl
        have HCL := Lib.hid hcl
        clear hcl hcl' hcl2 hpc hag e1 hmx' hmx hmn
        go_wp2_with fail
        rw [← HW.out]
        go_region
        go_wp2_with fail
        refine HC.out.mono ?_
        rintro e w3 ⟨rfl, htn3, G3, hJ3, hG3⟩
        have htn3' : Tn G W w3 := htn3.drawn
        have zW : W.heap.size = wr.heap.size + 1 := by rw [HW.out]; simp
        have hnG : ¬ G wr.heap.size := fun h => by have := (HJ.out.2.2 _ _ _ HJ1.out _ h).2; omega
        have hq3 := htn3'.old HQ.out hnG
        have g3 := cell2 hq3
        have HN := Lib.hid (show J G3 (acc ++ C2) w3 ∧ Tn G0 w w3 ∧ ∀ b, G3 b → G0 b ∨ w.heap.size ≤ b by
          obtain ⟨ht, hGG⟩ := HB.out
          have z1 := ht.size
          refine ⟨by rw [HCL.out]; exact hJ3, (ht.trans (Tn.of G HBW2.out) (fun b h1 h2 => (hGG b h2).elim id (fun h => by omega))).trans htn3' (fun b h1 h2 => (hGG b h2).elim id (fun h => by omega)), fun b hb => ?_⟩
          rcases hG3 b hb with h | h
          · exact hGG b h
          · have h2 : W.heap.size ≤ b := h
            omega)
        clear hJ3 hG3 htn3 htn3' hnG hq3 g0 g1 g2 HC
        go_wp2_with fail
        go_region
        go_wp2_with fail
        go_roundw
        case rel =>
          obtain ⟨hC2, hy2, hf2, hu2⟩ := HEQ.out
          obtain ⟨h1, h2, h3⟩ := HN.out
          rw [hf2, hu2, hy2]
          exact ⟨j + 1, G3, by go_num, by omega, rfl, rfl, by rw [← hC2]; exact HJ.out.2.1 _ _ _ _ h1 (Below.refl _ _).drew, h2.drew, h3⟩
        case measure => simp [intOf]; omega
      · have e1 : Pl.clip1 fj uj ⟨s, a, l⟩ = [] := by
          unfold Pl.clip1
          simp only
          rw [← hmx, ← hmn, if_neg hlt2]
        rw [e1, List.append_nil] at hcl
        have HCL := Lib.hid hcl
        have g2 := cell2 HQ.out
        clear hcl hcl2 e1 hmx hmn
        go_wp2_with fail
        rw [← HW.out]
        go_region
        go_wp2_with fail
        go_region
        go_wp2_with fail
        go_roundw
        case rel =>
          obtain ⟨hC2, hy2, hf2, hu2⟩ := HEQ.out
          obtain ⟨ht, hGG⟩ := HB.out
          rw [hf2, hu2, hy2]
          exact ⟨j + 1, G, by go_num, by omega, rfl, rfl, by rw [← hC2, HCL.out]; exact HJ.out.2.1 _ _ _ _ HJW.out (Below.refl _ _).drew, ((ht.trans (Tn.of G0 HBW2.out) (fun b h1 h2 => h2)).drew).drew, hGG⟩
        case measure => simp [intOf]; omega
    · have hjn : j = ps.length := by omega
      have HX := Lib.hid (show J G (acc ++ Pl.clip f0 u0 ps) wr by rw [hjn, List.take_length] at hJ; exact hJ)
      clear hjn hJ htn hGG hb
      go_wp2_with fail
      refine ⟨rfl, _, results_none (by kernel_rfl) _ _ _, rfl, HB.out.1, G, HX.out, HB.out.2⟩
end Go.Proofs.Ytogmddneimhpeaa
