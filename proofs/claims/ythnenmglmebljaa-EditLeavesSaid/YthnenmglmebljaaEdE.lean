/-
  edit.wrong, edit.Type, edit.Erase. Conditions: those that each states.
-/
import Derived.Test.YthnenmglmebljaaEdD
import Derived.Deep.OwnRows
namespace Go.Proofs.Ythnenmglmebljaa
open Go.RowKit
open Pl (Un)

namespace Pl
/-- what is wrong with n units from a place on -/
def wrongE (p n : Int) : Int := if p < 0 ∨ n < 0 then 1 else if 256 < n then 3 else 0
theorem rowR_one (r : Rn) : rowR [r] = unitsR r := row_one r
theorem units_type (p : Int) (cs : List Int) (x y : Int) : unitsR ⟨1, p, x, y, cs⟩ = typeL p cs x y := by
  unfold unitsR typeL
  refine List.map_congr_left fun i _ => ?_
  rfl
theorem units_erase (p : Int) (n : Nat) (x y : Int) : unitsR ⟨2, p, x, y, List.replicate n 0⟩ = eraseL p n x y := by
  unfold unitsR eraseL
  simp only [List.length_replicate]
  refine List.ext_getElem (by simp) fun i h1 h2 => ?_
  have hi : i < n := by simpa using h1
  simp [unitAt, posAt, List.getD_eq_getElem?_getD, hi]
end Pl
set_option maxRecDepth 100000 in
set_option maxHeartbeats 400000 in
theorem wrong_any (p n : Int) (w : World) :
    Calls Try.prog 26 #[.int .i64 p, .int .i64 n] w fun e w' => e = .returned (.int .i64 (Pl.wrongE p n)) ∧ w = w' := by
  obtain ⟨r, hr⟩ : ∃ r, r = Pl.wrongE p n := ⟨_, rfl⟩
  rw [← hr]
  have HR := Lib.hid hr
  clear hr
  by_cases h1 : p < 0
  · have HE := Lib.hid (show r = 1 by rw [HR.out]; exact if_pos (Or.inl h1))
    go_enter Try.func26, Try.ntmps26
    go_wp2_with fail
    go_ret
    exact ⟨ret_int HE.out.symm, rfl⟩
  · by_cases h2 : n < 0
    · have HE := Lib.hid (show r = 1 by rw [HR.out]; exact if_pos (Or.inr h2))
      go_enter Try.func26, Try.ntmps26
      go_wp2_with fail
      go_ret
      exact ⟨ret_int HE.out.symm, rfl⟩
    · by_cases h3 : 256 < n
      · have HE := Lib.hid (show r = 3 by rw [HR.out]; unfold Pl.wrongE; rw [if_neg (by omega), if_pos h3])
        go_enter Try.func26, Try.ntmps26
        go_wp2_with fail
        go_ret
        exact ⟨ret_int HE.out.symm, rfl⟩
      · have HE := Lib.hid (show r = 0 by rw [HR.out]; unfold Pl.wrongE; rw [if_neg (by omega), if_neg h3])
        go_enter Try.func26, Try.ntmps26
        go_wp2_with fail
        go_ret
        exact ⟨ret_int HE.out.symm, rfl⟩
set_option maxRecDepth 100000 in
set_option maxHeartbeats 400000 in
theorem mayNot_any (c : Int) (w : World) :
    Calls Try.prog 27 #[.int .i32 c] w fun e w' => e = .returned (.bool (!decide (Pl.May c))) ∧ w = w' := by
  have HM := fun w => Lib.hid (may_any c w)
  obtain ⟨r, hr⟩ : ∃ r, r = decide (Pl.May c) := ⟨_, rfl⟩
  rw [← hr] at HM ⊢
  clear hr
  go_enter Try.func27, Try.ntmps27
  go_wp2_with fail
  refine (HM _).out.mono ?_
  rintro e w' ⟨rfl, rfl⟩
  go_wp2_with fail
  go_ret
  exact ⟨rfl, rfl⟩
def IxR (w : World) (l : List Int) (i : Value) (wr : World) : Prop := ∃ j : Nat, i = .int .i64 (j : Int) ∧ j ≤ l.length ∧ (∀ u ∈ l.take j, Pl.May u) ∧ w = wr
theorem getD_of_getI {l : List Int} {i : Nat} (h : i < l.length) : l[i]? = some (l.getD i 0) := by
  rw [List.getD_eq_getElem?_getD, List.getElem?_eq_getElem h]; rfl
set_option maxRecDepth 100000 in
set_option maxHeartbeats 400000 in
theorem indexF_any (A : Option Addr) (n c : Nat) (l : List Int) (w : World) (h1 : Crs w w.heap.size A n c l) :
    Calls Try.prog 40 #[.slice A n c, .func (.func 27) #[] #[]] w fun e w' => ∃ r : Int, e = .returned (.int .i64 r) ∧ (0 ≤ r ↔ ¬ ∀ u ∈ l, Pl.May u) ∧ w = w' := by
  have hcap1 := h1.cap
  have hle1 := h1.le
  unfold maxLen at hcap1
  have HL := Lib.hid h1.len
  have H1 := Lib.hid h1
  clear h1
  go_enter Try.func40, Try.ntmps40
  go_wp2_with fail
  go_loopw [8] (fun i wr => IxR w l i wr) (fun i _ => n - (intOf i).toNat)
  case atStart => exact ⟨0, rfl, Nat.zero_le _, (fun u hu => by simp at hu), rfl⟩
  case round =>
    obtain ⟨j, rfl, hj, hs, rfl⟩ := hrel
    have HS := Lib.hid hs
    rw [HL.out] at hj
    clear hs
    by_cases hlt : j < n
    · obtain ⟨g1, o1, rfl, hg1, hc1⟩ := H1.out.at_ hlt
      have a0 := hc1 j hlt
      have hjl : j < l.length := by rw [HL.out]; exact hlt
      obtain ⟨u, hu⟩ : ∃ u, u = l.getD j 0 := ⟨_, rfl⟩
      rw [← hu] at a0
      have HM := Lib.hid (mayNot_any u w)
      have HY := Lib.hid (show Pl.May u → ∀ v ∈ l.take (j + 1), Pl.May v from fun h v hv => by
        rw [List.take_add_one, getD_of_getI hjl, ← hu] at hv
        rcases List.mem_append.1 hv with hv | hv
        · exact HS.out v hv
        · simp at hv; rw [hv]; exact h)
      have HN := Lib.hid (show ¬ Pl.May u → ¬ ∀ v ∈ l, Pl.May v from fun h h2 => h (h2 u (by rw [hu, List.getD_eq_getElem?_getD, List.getElem?_eq_getElem hjl]; exact List.getElem_mem hjl)))
      have z0 : (0 : Int) ≤ (j : Int) := by omega
      have z1 : (j : Int) < (n : Int) := by omega
      clear hc1 hu
      by_cases hO : Pl.May u
      · rw [decide_eq_true hO] at HM
        have HY2 := Lib.hid (HY.out hO)
        clear hO
        go_wp2_with fail
        refine HM.out.mono ?_
        rintro e w' ⟨rfl, rfl⟩
        clear a0
        go_wp2_with fail
        go_roundw
        case rel => exact ⟨j + 1, by go_num, by rw [HL.out]; omega, HY2.out, rfl⟩
        case measure => simp [intOf]; omega
      · rw [decide_eq_false hO] at HM
        have HN2 := Lib.hid (HN.out hO)
        clear hO
        go_wp2_with fail
        refine HM.out.mono ?_
        rintro e w' ⟨rfl, rfl⟩
        clear a0
        go_wp2_with fail
        go_ret
        exact ⟨_, rfl, ⟨fun _ => HN2.out, fun _ => by omega⟩, rfl⟩
    · have hjn : j = n := by omega
      have HE := Lib.hid (show ∀ u ∈ l, Pl.May u from by
        have := HS.out
        rw [List.take_of_length_le (by rw [HL.out]; omega)] at this
        exact this)
      clear hjn
      go_wp2_with fail
      go_ret
      exact ⟨_, rfl, ⟨fun h => by omega, fun h => absurd HE.out h⟩, rfl⟩
set_option maxRecDepth 100000 in
set_option maxHeartbeats 400000 in
theorem contains_any (A : Option Addr) (n c : Nat) (l : List Int) (w : World) (h1 : Crs w w.heap.size A n c l) :
    Calls Try.prog 29 #[.slice A n c, .func (.func 27) #[] #[]] w fun e w' => e = .returned (.bool (decide (¬ ∀ u ∈ l, Pl.May u))) ∧ w = w' := by
  have H1 := Lib.hid (indexF_any A n c l w h1)
  clear h1
  go_enter Try.func29, Try.ntmps29
  go_wp2_with fail
  refine H1.out.mono ?_
  rintro e w' ⟨r, rfl, hr, rfl⟩
  have HR := Lib.hid hr
  clear hr
  go_wp2_with fail
  go_ret
  refine ⟨ret_bool ?_, rfl⟩
  rw [Bool.eq_iff_iff]
  simp only [decide_eq_true_iff]
  exact HR.out
/-- an Id in a box of its own -/
def IdAt (w : World) (b : Nat) (x y : Int) : Prop := w.heap[b]? = some (.cells #[.int .u32 x, .int .u64 y] 26 (0, 0))
theorem IdAt.cells {w : World} {b : Nat} {x y : Int} (h : IdAt w b x y) : w.cell? ⟨b, 0, none⟩ = some (.int .u32 x) ∧ w.cell? ⟨b, 1, none⟩ = some (.int .u64 y) := by
  unfold IdAt at h
  constructor <;> (rw [cell_of_row w b _ _ _ _ h]; rfl)
theorem IdAt.below {w w' : World} {b B : Nat} {x y : Int} (h : IdAt w b x y) (hb : Below B w w') (hB : b < B) : IdAt w' b x y := (hb.block b hB).trans h
/-- one run, written out -/
theorem run_row (w : World) (r : RnV) : OwnN (w.alloc (.cells #[.int .i64 r.k, .int .i64 r.p, .int .u32 r.x, .int .u64 r.y, .slice r.A r.n r.c] 49)) w.heap.size (.slice (some ⟨w.heap.size, 0, none⟩) 1 1) [r] := OwnR.lit encR_len w [r] (by simp [maxLen])
theorem run_rns (w : World) (r : RnV) (h : Crs w w.heap.size r.A r.n r.c r.cs) : Rns (w.alloc (.cells #[.int .i64 r.k, .int .i64 r.p, .int .u32 r.x, .int .u64 r.y, .slice r.A r.n r.c] 49)) (some ⟨w.heap.size, 0, none⟩) 1 1 [r] :=
  ⟨(OwnR.rws encR_len (run_row w r)).2, fun s hs => by rw [List.mem_singleton.1 hs]; exact h.then_ (below_box w _)⟩
/-- a row and what is wrong: where something is, no row -/
def RetE (w : World) (r : Int) (l : List Un) (e : Ending) (w' : World) : Prop := Below w.heap.size w w' ∧
  (r ≠ 0 ∧ e = .returned (.tuple #[.slice none 0 0, .int .i64 r]) ∨ r = 0 ∧ ∃ B d, e = .returned (.tuple #[.slice B l.length d, .int .i64 0]) ∧ OwnU w' w.heap.size (.slice B l.length d) l)
theorem RetE.bad {w w' : World} {r : Int} {l : List Un} (hr : r ≠ 0) (hb : Below w.heap.size w w') : RetE w r l (.returned (.tuple #[.slice none 0 0, .int .i64 r])) w' := ⟨hb, Or.inl ⟨hr, rfl⟩⟩
theorem RetE.ok {w w' : World} {r : Int} {l : List Un} {n d : Nat} {B : Option Addr} (hr : r = 0) (hb : Below w.heap.size w w') (ho : OwnU w' w.heap.size (.slice B n d) l) : RetE w r l (.returned (.tuple #[.slice B n d, .int .i64 0])) w' := by
  have hn := OwnU.len ho
  subst hn
  exact ⟨hb, Or.inr ⟨hr, B, d, rfl, ho⟩⟩
def Pl.typeE (p : Int) (cs : List Int) : Int := if Pl.wrongE p (cs.length : Int) ≠ 0 then Pl.wrongE p (cs.length : Int) else if ∀ c ∈ cs, Pl.May c then 0 else 21
set_option maxRecDepth 100000 in
set_option maxHeartbeats 1000000 in
theorem type_any (p : Int) (A : Option Addr) (n c : Nat) (cs : List Int) (x y : Int) (w : World) (h1 : Crs w w.heap.size A n c cs) :
    Calls Try.prog 9 #[.int .i64 p, .slice A n c, .agg #[.int .u32 x, .int .u64 y]] w (RetE w (Pl.typeE p cs) (Pl.typeL p cs x y)) := by
  have H1 := Lib.hid h1
  have HL := Lib.hid h1.len
  have HW := fun w => Lib.hid (wrong_any p n w)
  have hb1 := below_box w (.cells #[.int .u32 x, .int .u64 y] 26)
  have HB1 := Lib.hid hb1
  have HC1 := Lib.hid (h1.then_ hb1)
  have HID := Lib.hid (show IdAt (w.alloc (.cells #[.int .u32 x, .int .u64 y] 26)) w.heap.size x y from heap_new rfl)
  have HCO := Lib.hid (contains_any A n c cs _ HC1.out)
  obtain ⟨r, hr⟩ : ∃ r, r = Pl.wrongE p n := ⟨_, rfl⟩
  simp only [← hr] at HW
  obtain ⟨R, hR⟩ : ∃ R, R = Pl.typeE p cs := ⟨_, rfl⟩
  rw [← hR]
  have HR := Lib.hid (show R = if r ≠ 0 then r else if ∀ c ∈ cs, Pl.May c then 0 else 21 by rw [hR, hr, ← HL.out]; rfl)
  clear h1 hb1 hR
  go_enter Try.func9, Try.ntmps9
  go_wp2_with fail
  refine (HW _).out.mono ?_
  rintro e w' ⟨rfl, rfl⟩
  by_cases h0 : r = 0
  · subst h0
    have HZ := Lib.hid (show n ≤ 256 by unfold Pl.wrongE at hr; split at hr <;> (try split at hr) <;> omega)
    clear hr HW
    obtain ⟨W, hW⟩ : ∃ W, W = w.alloc (.cells #[.int .u32 x, .int .u64 y] 26) := ⟨_, rfl⟩
    rw [← hW] at HB1 HC1 HID HCO
    have HWW := Lib.hid hW
    clear hW
    by_cases hm : ∀ u ∈ cs, Pl.May u
    · rw [decide_eq_false (fun h => h hm)] at HCO
      have HM := Lib.hid (show R = 0 by rw [HR.out, if_neg (by simp), if_pos hm])
      clear hm
      go_wp2_with fail
      rw [← HWW.out]
      refine HCO.out.mono ?_
      rintro e w' ⟨rfl, rfl⟩
      obtain ⟨i0, i1⟩ := HID.out.cells
      have HRN := Lib.hid (run_rns W ⟨1, p, x, y, A, n, c, cs⟩ HC1.out)
      have HB2 := Lib.hid (below_then HB1.out (below_box W (.cells #[.int .i64 1, .int .i64 p, .int .u32 x, .int .u64 y, .slice A n c] 49)))
      have HRW := Lib.hid (row_any _ 1 1 _ _ HRN.out (by omega) (by have := HZ.out; have := HL.out; simp [Pl.sumR, RnV.rn]; omega))
      clear HRN HCO
      simp only at HRW HB2
      go_wp2_with fail
      refine HRW.out.mono ?_
      rintro e w2 ⟨B, d, rfl, ho, hb⟩
      have HB3 := Lib.hid (below_then HB2.out hb)
      have e1 : Pl.rowR (List.map RnV.rn [⟨1, p, x, y, A, n, c, cs⟩]) = Pl.typeL p cs x y := by simp only [List.map_cons, List.map_nil, RnV.rn]; rw [Pl.rowR_one, Pl.units_type]
      rw [e1, Pl.len_type] at ho
      simp only [e1, Pl.len_type]
      have HO := Lib.hid (OwnR.lower ho HB2.out.size)
      clear ho hb e1
      go_wp2_with fail
      go_returns
      exact RetE.ok HM.out HB3.out HO.out
    · rw [decide_eq_true hm] at HCO
      have HM := Lib.hid (show R = 21 by rw [HR.out, if_neg (by simp), if_neg hm])
      clear hm
      go_wp2_with fail
      rw [← HWW.out]
      refine HCO.out.mono ?_
      rintro e w' ⟨rfl, rfl⟩
      go_wp2_with fail
      go_returns
      rw [HM.out]
      exact RetE.bad (by decide) HB1.out
  · have HE := Lib.hid h0
    have HM := Lib.hid (show R = r by rw [HR.out, if_pos h0])
    have hq : (r != 0) = true := by simpa using h0
    clear hr HW HCO
    go_wp2_with fail
    go_returns
    rw [HM.out]
    exact RetE.bad HE.out HB1.out
/-! ### Erase -/
theorem made_rep (v : Value) (n : Nat) : madeCells #[v] n = (List.replicate n v).toArray := by
  unfold madeCells
  apply Array.ext
  · simp
  · intro i h1 h2
    simp [Nat.mod_one]
set_option maxRecDepth 100000 in
theorem make_chars (n : Nat) (hn : n ≤ 256) (W : World) : (Instr.makeSlice 22 (.int .i64 (n : Int)) (.int .i64 (n : Int))).run Try.prog W = .ok (.slice (some ⟨W.heap.size, 0, none⟩) n n) (W.alloc (.cells (cellsC (List.replicate n 0)).toArray 42)) := by
  rw [run_make_row' (P := Try.prog) 22 42 (.int .i32 0) 4 Try.underlying22 infoChar rfl .i64 .i64 n (by omega) (by omega) W, made_rep]
  unfold cellsC
  rw [List.map_replicate]
/-- n zeros in a block of their own -/
def Zs (n : Nat) (v : Value) (w : World) : Prop := ∃ g, v = .slice (some ⟨g, 0, none⟩) n n ∧ Crs w w.heap.size (some ⟨g, 0, none⟩) n n (List.replicate n 0)
def Zr (n : Nat) (p x y : Int) (v : Value) (w : World) : Prop := ∃ g, v = .agg #[.int .i64 2, .int .i64 p, .int .u32 x, .int .u64 y, .slice (some ⟨g, 0, none⟩) n n] ∧ Crs w w.heap.size (some ⟨g, 0, none⟩) n n (List.replicate n 0)
def Zl (n : Nat) (p x y : Int) (v : Value) (w : World) : Prop := ∃ b g, v = .slice (some ⟨b, 0, none⟩) 1 1 ∧ Rns w (some ⟨b, 0, none⟩) 1 1 [⟨2, p, x, y, some ⟨g, 0, none⟩, n, n, List.replicate n 0⟩]
def Eo (base n : Nat) (p x y : Int) (v : Value) (w : World) : Prop := ∃ A c, v = .slice A n c ∧ OwnU w base (.slice A n c) (Pl.eraseL p n x y)
theorem Zs.stb (n : Nat) : Rg.Stb (Zs n) := fun _ _ _ ⟨g, e, h⟩ hb => ⟨g, e, h.then_ hb⟩
theorem Zr.stb (n : Nat) (p x y : Int) : Rg.Stb (Zr n p x y) := fun _ _ _ ⟨g, e, h⟩ hb => ⟨g, e, h.then_ hb⟩
theorem Zl.stb (n : Nat) (p x y : Int) : Rg.Stb (Zl n p x y) := fun _ _ _ ⟨b, g, e, h⟩ hb => ⟨b, g, e, h.then_ hb⟩
theorem Eo.stb (base n : Nat) (p x y : Int) : Rg.Stb (Eo base n p x y) := fun _ _ _ ⟨A, c, e, h⟩ hb => ⟨A, c, e, OwnR.then_ h hb⟩
theorem zs_new (w : World) (n : Nat) (hn : n ≤ 256) : Crs (w.alloc (.cells (cellsC (List.replicate n 0)).toArray 42)) (w.alloc (.cells (cellsC (List.replicate n 0)).toArray 42)).heap.size (some ⟨w.heap.size, 0, none⟩) n n (List.replicate n 0) := by
  have h := crs_lit w (List.replicate n 0) (fun x hx => by rw [List.eq_of_mem_replicate hx]; unfold Pl.J; omega) (by simp [maxLen]; omega)
  simp only [List.length_replicate] at h
  exact h.crs.2
theorem zl_new (w : World) (n : Nat) (p x y : Int) (g : Nat) (h : Crs w w.heap.size (some ⟨g, 0, none⟩) n n (List.replicate n 0)) :
    Rns (w.alloc (.cells #[.int .i64 2, .int .i64 p, .int .u32 x, .int .u64 y, .slice (some ⟨g, 0, none⟩) n n] 49)) (some ⟨w.heap.size, 0, none⟩) 1 1 [⟨2, p, x, y, some ⟨g, 0, none⟩, n, n, List.replicate n 0⟩] := run_rns w ⟨2, p, x, y, some ⟨g, 0, none⟩, n, n, List.replicate n 0⟩ h
theorem row_zl (n : Nat) (p x y : Int) (w : World) (b g : Nat) (hn : n ≤ 256) (h : Rns w (some ⟨b, 0, none⟩) 1 1 [⟨2, p, x, y, some ⟨g, 0, none⟩, n, n, List.replicate n 0⟩]) :
    Calls Try.prog 20 #[.slice (some ⟨b, 0, none⟩) 1 1] w fun e w' => ∃ A c, e = .returned (.slice A n c) ∧ OwnU w' w.heap.size (.slice A n c) (Pl.eraseL p n x y) ∧ Below w.heap.size w w' := by
  refine (row_any _ 1 1 _ w h (by omega) (by simp [Pl.sumR, RnV.rn]; omega)).mono ?_
  rintro e w' ⟨A, c, rfl, ho, hb⟩
  have e1 : Pl.rowR (List.map RnV.rn [⟨2, p, x, y, some ⟨g, 0, none⟩, n, n, List.replicate n 0⟩]) = Pl.eraseL p n x y := by simp only [List.map_cons, List.map_nil, RnV.rn]; rw [Pl.rowR_one, Pl.units_erase]
  rw [e1, Pl.len_erase] at ho ⊢
  exact ⟨A, c, rfl, ho, hb⟩
set_option maxRecDepth 100000 in
set_option maxHeartbeats 1000000 in
theorem erase_any (p : Int) (N : Int) (x y : Int) (w : World) :
    Calls Try.prog 11 #[.int .i64 p, .int .i64 N, .agg #[.int .u32 x, .int .u64 y]] w (RetE w (Pl.wrongE p N) (Pl.eraseL p N.toNat x y)) := by
  have HW := fun w => Lib.hid (wrong_any p N w)
  have hb1 := below_box w (.cells #[.int .u32 x, .int .u64 y] 26)
  have HB1 := Lib.hid hb1
  have HID := Lib.hid (show IdAt (w.alloc (.cells #[.int .u32 x, .int .u64 y] 26)) w.heap.size x y from heap_new rfl)
  clear hb1
  obtain ⟨r, hr⟩ : ∃ r, r = Pl.wrongE p N := ⟨_, rfl⟩
  simp only [← hr] at HW ⊢
  by_cases h0 : r = 0
  · subst h0
    obtain ⟨n, rfl⟩ : ∃ n : Nat, N = (n : Int) := ⟨N.toNat, by unfold Pl.wrongE at hr; split at hr <;> (try split at hr) <;> omega⟩
    have HN := Lib.hid (show n ≤ 256 by unfold Pl.wrongE at hr; split at hr <;> (try split at hr) <;> omega)
    simp only [Int.toNat_natCast]
    obtain ⟨pos, hpos⟩ : ∃ pos, pos = p := ⟨_, rfl⟩
    subst hpos
    clear hr
    go_enter Try.func11, Try.ntmps11
    go_wp2_with fail
    refine (HW _).out.mono ?_
    rintro e w' ⟨rfl, rfl⟩
    go_wp2_with fail
    refine Rg.wp_region_inv ((fun w' => Below (w.alloc (.cells #[.int .u32 x, .int .u64 y] 26)).heap.size (w.alloc (.cells #[.int .u32 x, .int .u64 y] 26)) w')) (Rg.Wd.at [.is (.int .i64 pos), .is (.agg #[.int .u32 x, .int .u64 y]), .is (.int .i64 (n : Int)), .pred (Zs n) (Zs.stb n), .pred (Zr n pos x y) (Zr.stb n pos x y), .pred (Zl n pos x y) (Zl.stb n pos x y), .pred (Eo w.heap.size n pos x y) (Eo.stb w.heap.size n pos x y), .pred (Eo w.heap.size n pos x y) (Eo.stb w.heap.size n pos x y), .is (.int .i64 0)]) (by kernel_rfl) (by kernel_rfl) (Rg.Wd.stays _ _) ((below_drawn (Below.refl _ _))) ⟨?_, ?_, ?_, ?_, ?_, ?_, ?_, ?_, ?_, trivial⟩ ?_
    · intro a w1 hS hb hd
      have e0 := hb 0 (Rg.nw (by decide))
      simp [Act.eval] at e0
      exact Rg.does_pure (Rg.wanted_none rfl) (by simp [execOp, e0, go_sem]) hS rfl
    · intro a w1 hS hb hd
      have e5 := hb 5 (Rg.nw (by decide))
      simp [Act.eval] at e5
      exact Rg.does_pure (Rg.wanted_none rfl) (by simp [execOp, e5, (IdAt.cells (HID.out.below hS (by simp))).1, (IdAt.cells (HID.out.below hS (by simp))).2, go_sem]) hS rfl
    · intro a w1 hS hb hd
      have e1 := hb 1 (Rg.nw (by decide))
      simp [Act.eval] at e1
      exact Rg.does_pure (Rg.wanted_none rfl) (by simp [execOp, e1, go_sem]) hS rfl
    · intro a w1 hS hb hd
      have e17 := hd ⟨2, .data⟩ (by simp) rfl _ _ rfl rfl
      have e17 : a.tmps[17]?.getD undef = (.int .i64 (n : Int)) := Rg.slot e17
      exact Rg.does_new (Rg.wanted_none rfl) (by simp [execOp, e17, make_chars, HN.out, go_sem]) (below_alloc hS _) ⟨_, rfl, zs_new w1 n HN.out⟩
    · intro a w1 hS hb hd
      have e15 := hd ⟨0, .data⟩ (by simp) rfl _ _ rfl rfl
      have e15 : a.tmps[15]?.getD undef = (.int .i64 pos) := Rg.slot e15
      have e16 := hd ⟨1, .data⟩ (by simp) rfl _ _ rfl rfl
      have e16 : a.tmps[16]?.getD undef = (.agg #[.int .u32 x, .int .u64 y]) := Rg.slot e16
      have e18 := hd ⟨3, .data⟩ (by simp) rfl _ _ rfl rfl
      obtain ⟨g18, f18, c18⟩ := e18; have e18 := Rg.slot f18; exact Rg.does_pure (Rg.wanted_none rfl) (by simp [execOp, e15, e16, e18, go_sem]) hS ⟨g18, rfl, c18⟩
    · intro a w1 hS hb hd
      have e19 := hd ⟨4, .data⟩ (by simp) rfl _ _ rfl rfl
      obtain ⟨g19, f19, c19⟩ := e19; have e19 := Rg.slot f19; exact Rg.does_new (Rg.wanted_none rfl) (by simp [execOp, e19, go_sem]) (below_alloc hS _) ⟨_, g19, rfl, zl_new w1 n pos x y g19 c19⟩
    · intro a w1 hS hb hd
      have e20 := hd ⟨5, .data⟩ (by simp) rfl _ _ rfl rfl
      obtain ⟨b20, g20, f20, c20⟩ := e20; have e20 := Rg.slot f20; refine Rg.does_call (f := 20) (args := #[.slice (some ⟨b20, 0, none⟩) 1 1]) (Rg.wanted_none rfl) (by simp [e20, go_sem]) ?_; exact (row_zl n pos x y w1 b20 g20 HN.out c20).mono fun e w' ⟨A, c, h1, h2, h3⟩ => ⟨_, h1, ⟨A, c, rfl, OwnR.lower h2 (Nat.le_trans HB1.out.size hS.size)⟩, below_then' hS h3 hS.size, h3⟩
    · intro a w1 hS hb hd
      have e21 := hd ⟨6, .data⟩ (by simp) rfl _ _ rfl rfl
      obtain ⟨A21, c21, f21, h21⟩ := e21; have e21 := Rg.slot f21; exact Rg.does_pure (Rg.wanted_none rfl) (by simp [execOp, e21, go_sem]) hS ⟨A21, c21, rfl, h21⟩
    · intro a w1 hS hb hd
      exact Rg.does_pure (Rg.wanted_none rfl) (by simp [execOp, go_sem]) hS rfl
    · intro v w3 hS hv
      have h0 := hv 0 _ _ rfl rfl
      have h1 := hv 1 _ _ rfl rfl
      have h2 := hv 2 _ _ rfl rfl
      have h6 := hv 7 _ _ rfl rfl
      have h7 := hv 8 _ _ rfl rfl
      obtain ⟨B, d, e6, ho⟩ := h6
      have HO := Lib.hid ho
      have HB := Lib.hid (below_then HB1.out hS)
      replace h7 : v 8 = .int .i64 0 := h7
      clear h0 h1 h2 hS hv ho
      simp only [Rg.putAll, e6, h7]
      simp only [Act.put, List.setIfInBounds_toArray, List.set_cons_succ, List.set_cons_zero]
      go_wp2_with fail
      go_returns
      exact RetE.ok rfl HB.out HO.out
  · have HE := Lib.hid h0
    have hq : (r != 0) = true := by simpa using h0
    clear hr
    go_enter Try.func11, Try.ntmps11
    go_wp2_with fail
    refine (HW _).out.mono ?_
    rintro e w' ⟨rfl, rfl⟩
    go_wp2_with fail
    go_returns
    exact RetE.bad HE.out HB1.out
end Go.Proofs.Ythnenmglmebljaa
