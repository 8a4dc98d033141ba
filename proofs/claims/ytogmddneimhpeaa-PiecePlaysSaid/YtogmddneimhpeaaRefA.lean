/-
  The document's own table in memory, and contracts of its Own, right, Read, Text. Conditions: at most a million code points.
-/
import Derived.Test.YtogmddneimhpeaaPceS
import Derived.Test.YtogmddneimhpeaaPceR
namespace Go.Proofs.Ytogmddneimhpeaa
open Go.RowKit
open Pl (Pc Plc Tab)

namespace Pl
/-- a code point, and where it comes from -/
structure On where
  c : Int
  s : Bool
  a : Nat
deriving Inhabited
def on_ (t : Tab) (q : Plc) : On := ⟨t.look q, q.1, q.2⟩
def ones (t : Tab) : List On := t.L.map (on_ t)
theorem len_ones (t : Tab) : (ones t).length = t.L.length := by simp [ones]
theorem ones_text (t : Tab) : (ones t).map (·.c) = t.text := by unfold ones Tab.text; rw [List.map_map]; rfl
end Pl
open Pl (On)
def encO (x : On) : List Value := [.int .i32 x.c, .bool x.s, .int .i64 (x.a : Int)]
theorem encO_len (x : On) : (encO x).length = 3 := rfl
theorem encO_one (x : On) : ∀ u ∈ encO x, u.oneCell' = true := by
  intro u hu
  simp only [encO, List.mem_cons, List.not_mem_nil, or_false] at hu
  rcases hu with rfl | rfl | rfl <;> rfl
theorem infoOn : (Try.prog.info? 83).map (fun i => (i.zero, i.size, i.bytes)) = some (some (.agg #[.int .i32 0, .bool false, .int .i64 0]), 3, 16) := by kernel_rfl
abbrev Ons := Rws encO
abbrev OwnO (w : World) (base : Nat) (v : Value) (l : List On) : Prop := OwnR encO 3 83 w base v l
theorem Ons.at_ {w : World} {B : Nat} {A : Option Addr} {n c : Nat} {l : List On} (h : Ons w B A n c l) {i : Nat} (hi : i < n) :
    ∃ g o, A = some ⟨g, o, none⟩ ∧ g < B ∧ ∀ i, i < n → w.cell? ⟨g, o + i * 3, none⟩ = some (.int .i32 (l.getD i default).c) ∧ w.cell? ⟨g, o + i * 3 + 1, none⟩ = some (.bool (l.getD i default).s) ∧ w.cell? ⟨g, o + i * 3 + 2, none⟩ = some (.int .i64 ((l.getD i default).a : Int)) := by
  obtain ⟨g, o, e, hg, hc⟩ := Rws.at_ encO_len h hi
  refine ⟨g, o, e, hg, fun i hi => ⟨?_, ?_, ?_⟩⟩
  · exact hc i hi 0 _ (by decide) rfl
  · exact hc i hi 1 _ (by decide) rfl
  · exact hc i hi 2 _ (by decide) rfl
/-- the document's table at block r -/
def Rf (w : World) (base r : Nat) (A : Option Addr) (n c : Nat) (l : List On) (ad : Nat) : Prop :=
  w.heap[r]? = some (.cells #[.slice A n c, .int .i64 (ad : Int)] 48 (0, 0)) ∧ OwnO w base (.slice A n c) l ∧ base ≤ r ∧ Value.ownBlock (.slice A n c) ≠ some r
section
variable {w w' : World} {base r n c ad : Nat} {A : Option Addr} {l : List On}
theorem Rf.c0 (h : Rf w base r A n c l ad) : w.cell? ⟨r, 0, none⟩ = some (.slice A n c) := cell0 h.1
theorem Rf.c1 (h : Rf w base r A n c l ad) : w.cell? ⟨r, 1, none⟩ = some (.int .i64 (ad : Int)) := cell1 h.1
theorem Rf.rows (h : Rf w base r A n c l ad) : n = l.length ∧ Ons w w.heap.size A n c l := OwnR.rws encO_len h.2.1
theorem Rf.lt (h : Rf w base r A n c l ad) : r < w.heap.size := lt_of_block h.1
theorem Rf.then_ (h : Rf w base r A n c l ad) (hb : Below w.heap.size w w') : Rf w' base r A n c l ad := ⟨below_old hb h.1 h.lt, OwnR.then_ h.2.1 hb, h.2.2⟩
theorem Rf.tn {T : Nat → Prop} (h : Rf w base r A n c l ad) (ht : Tn T w w') (h1 : ¬ T r) (h2 : ∀ g, Value.ownBlock (.slice A n c) = some g → ¬ T g) : Rf w' base r A n c l ad := ⟨ht.old h.1 h1, OwnR.tn h.2.1 ht h2, h.2.2⟩
theorem Rf.fr (h : Rf w base r A n c l ad) (j : Nat) : w.frozen? ⟨r, j, none⟩ = false := frozen_of_row w r j _ _ h.1
end

set_option maxRecDepth 100000 in
set_option maxHeartbeats 400000 in
theorem own_any (A : Option Addr) (n c : Nat) (cs : List Int) (w : World) (h : Crs w w.heap.size A n c cs) (hn : n ≤ 1000000) :
    Calls Try.prog 10 #[.slice A n c] w (RetC w cs) := by
  have HL := Lib.hid h.len
  have H := Lib.hid h
  clear h
  go_enter Try.func10, Try.ntmps10
  go_wp2_with (at_builtin; refine wpList_append_crs w rfl (.tmp 4) (.tmp 5) rfl w.heap.size none 0 0 [] (by rfl) (OwnC.nil_ _ _) w.heap.size A n c cs (by rfl) H.out (by omega) (Nat.le_refl _) ?_)
  intro A4 c4 w4 hO4 hg4 _
  have HB4 := Lib.hid (below_appendC (OwnC.nil_ w w.heap.size) hg4 (Below.refl _ _) (Nat.le_refl _))
  rw [← HL.out] at hO4
  have HO4 := Lib.hid hO4
  have HE := Lib.hid (show Value.slice A4 n c4 = .slice A4 cs.length c4 by rw [HL.out])
  clear hO4 hg4
  go_wp2_with fail
  go_ret
  exact ⟨A4, c4, congrArg Ending.returned HE.out, HO4.out, HB4.out⟩
set_option maxRecDepth 100000 in
set_option maxHeartbeats 1000000 in
theorem right_any {w : World} {base r : Nat} {A : Option Addr} {n c : Nat} {l : List On} {ad : Nat} (h : Rf w base r A n c l ad) (pos nn : Int) (hn : n ≤ 1000000) :
    Calls Try.prog 48 #[.pointer (some ⟨r, 0, none⟩), .int .i64 pos, .int .i64 nn] w fun e w' => e = .returned (.bool (decide (Pl.reachE n pos nn = 0))) ∧ w = w' := by
  have x0 := h.c0
  clear h
  by_cases h1 : 0 ≤ pos
  · have e1 : decide (0 ≤ pos) = true := decide_eq_true h1
    by_cases h2 : 0 ≤ nn
    · have e2 : decide (0 ≤ nn) = true := decide_eq_true h2
      by_cases h3 : pos ≤ (n : Int)
      · have e3 : decide (pos ≤ (n : Int)) = true := decide_eq_true h3
        by_cases h4 : nn ≤ (n : Int) - pos
        · have HE := Lib.hid (show decide (Pl.reachE n pos nn = 0) = true by rw [Pl.reach0 h1 h2 h4]; rfl)
          have e4 : decide (nn ≤ (n : Int) - pos) = true := decide_eq_true h4
          go_enter Try.func48, Try.ntmps48
          go_wp2_with fail
          go_ret
          exact ⟨ret_bool HE.out.symm, rfl⟩
        · have HE := Lib.hid (show decide (Pl.reachE n pos nn = 0) = false by rw [Pl.reach30 (Or.inr (Or.inr (by omega)))]; rfl)
          have e4 : decide (nn ≤ (n : Int) - pos) = false := decide_eq_false h4
          go_enter Try.func48, Try.ntmps48
          go_wp2_with fail
          go_ret
          exact ⟨ret_bool HE.out.symm, rfl⟩
      · have HE := Lib.hid (show decide (Pl.reachE n pos nn = 0) = false by rw [Pl.reach30 (Or.inr (Or.inr (by omega)))]; rfl)
        have e3 : decide (pos ≤ (n : Int)) = false := decide_eq_false h3
        go_enter Try.func48, Try.ntmps48
        go_wp2_with fail
        go_ret
        exact ⟨ret_bool HE.out.symm, rfl⟩
    · have HE := Lib.hid (show decide (Pl.reachE n pos nn = 0) = false by rw [Pl.reach30 (Or.inr (Or.inl (by omega)))]; rfl)
      have e2 : decide (0 ≤ nn) = false := decide_eq_false h2
      go_enter Try.func48, Try.ntmps48
      go_wp2_with fail
      go_ret
      exact ⟨ret_bool HE.out.symm, rfl⟩
  · have HE := Lib.hid (show decide (Pl.reachE n pos nn = 0) = false by rw [Pl.reach30 (Or.inl (by omega))]; rfl)
    have e1 : decide (0 ≤ pos) = false := decide_eq_false h1
    go_enter Try.func48, Try.ntmps48
    go_wp2_with fail
    go_ret
    exact ⟨ret_bool HE.out.symm, rfl⟩

/-- read so far -/
def RdRel (w : World) (l : List On) (k q : Nat) (o i : Value) (wr : World) : Prop := ∃ (j p : Nat) (A : Option Addr) (c : Nat), i = .int .i64 (p : Int) ∧ p = k + j ∧ j ≤ q ∧ o = .slice A j c ∧ OwnC wr w.heap.size (.slice A j c) (((l.drop k).map (·.c)).take j) ∧ Below w.heap.size w wr
/-- what is read: a stretch, or nothing and 30 -/
def Pl.rdT (l : List On) (pos nn : Int) : List Int := if Pl.reachE l.length pos nn = 0 then ((l.drop pos.toNat).map (·.c)).take nn.toNat else []
set_option maxRecDepth 100000 in
set_option maxHeartbeats 1000000 in
theorem rread_any {w : World} {base r : Nat} {A : Option Addr} {n c : Nat} {l : List On} {ad : Nat} (h : Rf w base r A n c l ad) (hl : ∀ x ∈ l, Pl.J x.c) (pos nn : Int) (hn : n ≤ 1000000) :
    Calls Try.prog 18 #[.pointer (some ⟨r, 0, none⟩), .int .i64 pos, .int .i64 nn] w (RetRead w (Pl.rdT l pos nn) (Pl.reachE l.length pos nn)) := by
  have HR := fun w' => fun (hb : Below w.heap.size w w') => Lib.hid (right_any (h.then_ hb) pos nn hn)
  have hnl := h.rows.1
  have HH := Lib.hid h
  have HJ := Lib.hid hl
  have x0 := h.c0
  unfold RetRead
  rw [hnl] at HR
  by_cases hg : Pl.reachE l.length pos nn = 0
  · have hin : 0 ≤ pos ∧ 0 ≤ nn ∧ nn ≤ (l.length : Int) - pos := by
      refine ⟨?_, ?_, ?_⟩
      · exact Decidable.byContradiction fun hc => by rw [Pl.reach30 (Or.inl (by omega))] at hg; cases hg
      · exact Decidable.byContradiction fun hc => by rw [Pl.reach30 (Or.inr (Or.inl (by omega)))] at hg; cases hg
      · exact Decidable.byContradiction fun hc => by rw [Pl.reach30 (Or.inr (Or.inr (by omega)))] at hg; cases hg
    obtain ⟨k, rfl⟩ : ∃ k : Nat, pos = (k : Int) := ⟨pos.toNat, by omega⟩
    obtain ⟨q, rfl⟩ : ∃ q : Nat, nn = (q : Int) := ⟨nn.toNat, by omega⟩
    have hkq : k + q ≤ n := by omega
    have HRT := Lib.hid (show Pl.rdT l (k : Int) (q : Int) = ((l.drop k).map (·.c)).take q ∧ Pl.reachE l.length (k : Int) (q : Int) = 0 from ⟨by unfold Pl.rdT; rw [if_pos hg, Int.toNat_natCast, Int.toNat_natCast], hg⟩)
    rw [decide_eq_true hg] at HR
    have HLD := Lib.hid (show ((l.drop k).map (·.c)).length = n - k by simp [hnl])
    obtain ⟨dl, hdl⟩ : ∃ d, d = (l.drop k).map (·.c) := ⟨_, rfl⟩
    have HDL := Lib.hid hdl
    have HR1 := Lib.hid (HR w (Below.refl _ _)).out
    obtain ⟨e0, he0⟩ : ∃ e0, e0 = k + q := ⟨_, rfl⟩
    have hq64 : (k : Int) + (q : Int) = (e0 : Int) := by omega
    clear hg hin h hl HR hdl
    rw [HRT.out.1, HRT.out.2, ← HDL.out]
    rw [← HDL.out] at HLD
    have HTL := Lib.hid (show (dl.take q).length = q by rw [List.length_take, HLD.out]; omega)
    rw [HTL.out]
    go_enter Try.func18, Try.ntmps18
    go_wp2_with fail
    refine HR1.out.mono ?_
    rintro e w1 ⟨rfl, rfl⟩
    go_wp2_with fail
    go_loopw [8, 9] (fun o i wr => RdRel w l k q o i wr) (fun _ i _ => e0 - (intOf i).toNat)
    case atStart => exact ⟨0, k, none, 0, rfl, rfl, Nat.zero_le _, rfl, by rw [List.take_zero]; exact OwnC.nil_ _ _, Below.refl _ _⟩
    case round =>
      obtain ⟨j, p, A3, c3, rfl, hp, hj, rfl, hO, hb⟩ := hrel
      rw [← HDL.out] at hO
      have HO := Lib.hid hO
      have HB := Lib.hid hb
      have y0 := (HH.out.then_ hb).c0
      clear x0
      by_cases hlt : j < q
      · have hpe : p < e0 := by omega
        have hpn : p < n := by omega
        obtain ⟨g, o, rfl, _, hc⟩ := Ons.at_ (HH.out.then_ hb).rows.2 (i := p) hpn
        obtain ⟨y1, _, _⟩ := hc p hpn
        have hx : (l.getD p default).c = dl.getD j 0 := by
          rw [hp, HDL.out, List.getD_eq_getElem?_getD, List.getD_eq_getElem?_getD, List.getElem?_map, List.getElem?_drop, List.getElem?_eq_getElem (show k + j < l.length by omega)]
          rfl
        have hJ : Pl.J (l.getD p default).c := by
          rw [hp, List.getD_eq_getElem?_getD, List.getElem?_eq_getElem (show k + j < l.length by omega)]
          exact HJ.out _ (List.getElem_mem _)
        obtain ⟨z, hz⟩ : ∃ z, z = (l.getD p default).c := ⟨_, rfl⟩
        rw [← hz] at y1 hx hJ
        have HT := Lib.hid (show dl.take j ++ [z] = dl.take (j + 1) by
          rw [List.take_add_one, List.getElem?_eq_getElem (show j < dl.length by rw [HLD.out]; omega), hx, List.getD_eq_getElem?_getD, List.getElem?_eq_getElem (show j < dl.length by rw [HLD.out]; omega)]; rfl)
        have HO2 := Lib.hid (hO.alloc (.cells #[.int .i32 z] 29))
        have HS2 := Lib.hid (crs_lit wr [z] (fun y hy => by simp at hy; rw [hy]; exact hJ) (by unfold maxLen; simp)).crs.2
        have HB3 := Lib.hid (hb.alloc hb.size (.cells #[.int .i32 z] 29))
        have HP := Lib.hid (And.intro hp he0)
        clear hO hb hx hJ hz hc hp he0
        go_wp2_with (at_builtin; refine wpList_append_crs (wr.alloc (.cells #[.int .i32 z] 29)) rfl (.tmp 23) (.tmp 32) rfl w.heap.size A3 j c3 (dl.take j) (by rfl) HO2.out _ (some ⟨wr.heap.size, 0, none⟩) 1 1 [z] (by rfl) HS2.out (by omega) HB3.out.size ?_)
        intro A4 c4 w4 hO4 hg4 _
        have HB4 := Lib.hid (below_appendC HO2.out hg4 HB3.out HB3.out.size)
        rw [HT.out] at hO4
        have HO4 := Lib.hid hO4
        clear hO4 hg4
        go_wp2_with fail
        go_roundw
        case rel => exact ⟨j + 1, p + 1, A4, c4, by go_num, by have := HP.out.1; omega, by omega, rfl, by rw [← HDL.out]; exact HO4.out, HB4.out⟩
        case measure => simp [intOf]; omega
      · have hjq : j = q := by omega
        obtain rfl : p = e0 := by omega
        subst hjq
        clear hO hb he0 hp
        go_wp2_with fail
        go_ret2
        exact ⟨A3, c3, rfl, HO.out, HB.out⟩
  · have h30 : Pl.reachE l.length pos nn = 30 := by
      refine Pl.reach30 ?_
      exact Decidable.byContradiction fun hc => hg (Pl.reach0 (by omega) (by omega) (by omega))
    have HRT := Lib.hid (show Pl.rdT l pos nn = [] ∧ Pl.reachE l.length pos nn = 30 from ⟨by unfold Pl.rdT; rw [if_neg hg], h30⟩)
    rw [decide_eq_false hg] at HR
    have HR1 := Lib.hid (HR w (Below.refl _ _)).out
    clear hg h30 h hl HR x0
    rw [HRT.out.1, HRT.out.2]
    go_enter Try.func18, Try.ntmps18
    go_wp2_with fail
    refine HR1.out.mono ?_
    rintro e w1 ⟨rfl, rfl⟩
    go_wp2_with fail
    go_ret2
    exact ⟨none, 0, rfl, OwnC.nil_ _ _, Below.refl _ _⟩
end Go.Proofs.Ytogmddneimhpeaa
