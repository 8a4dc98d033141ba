/-
  Contracts of slices.Grow of nil, slices.Concat, slices.Clone and t[k:] at rows of operations. Conditions: at most three parts, together at most a million; a row that is cloned of at most a million.
-/
import Derived.Test.YtkgehgedbgogbaaPaO
import Derived.Lib.AppendZerosOnto
import Derived.Deep.RegionHeld3
import Derived.Lib.SlBytesConst
namespace Go.Proofs.Ytkgehgedbgogbaa
open Go.RowKit
open Pl (Un)

/-- one part of what is laid behind each other -/
structure PartR (α : Type) where
  A : Option Addr
  n : Nat
  c : Nat
  l : List α
instance {α : Type} : Inhabited (PartR α) := ⟨⟨none, 0, 0, []⟩⟩
section
variable {α : Type}
def PartR.val (q : PartR α) : Value := .slice q.A q.n q.c
/-- what the first j have -/
def uptoR (P : List (PartR α)) (j : Nat) : List α := (P.take j).flatMap PartR.l
/-- parts in a block -/
def PartsR (enc : α → List Value) (w : World) (g : Nat) (P : List (PartR α)) : Prop :=
  g < w.heap.size ∧ ∀ j, j < P.length → w.cell? ⟨g, j, none⟩ = some (P.getD j default).val ∧ Rws enc w w.heap.size (P.getD j default).A (P.getD j default).n (P.getD j default).c (P.getD j default).l
theorem PartsR.then_ {enc : α → List Value} {w w' : World} {g : Nat} {P : List (PartR α)} (h : PartsR enc w g P) (hb : Below w.heap.size w w') : PartsR enc w' g P :=
  ⟨Nat.lt_of_lt_of_le h.1 hb.size, fun j hj => ⟨(hb.cell (p := ⟨g, j, none⟩) h.1).trans (h.2 j hj).1, (h.2 j hj).2.then_ hb⟩⟩
theorem uptoR_succ {P : List (PartR α)} {j : Nat} (hj : j < P.length) : uptoR P (j + 1) = uptoR P j ++ (P.getD j default).l := by
  unfold uptoR
  rw [List.take_add_one, List.flatMap_append, List.getD_eq_getElem?_getD, List.getElem?_eq_getElem hj]
  simp
theorem uptoR_le (P : List (PartR α)) (j : Nat) : (uptoR P j).length ≤ (uptoR P P.length).length := by
  unfold uptoR
  rw [List.take_length]
  conv => rhs; rw [← List.take_append_drop j P, List.flatMap_append, List.length_append]
  omega
def CRelR1 (w : World) (P : List (PartR α)) (s i : Value) (wr : World) : Prop := ∃ j : Nat, i = .int .i64 (j : Int) ∧ s = .int .i64 ((uptoR P j).length : Int) ∧ j ≤ P.length ∧ Below w.heap.size w wr
def CRelR2 (enc : α → List Value) (k : Nat) (e : TypeId) (w : World) (P : List (PartR α)) (s i : Value) (wr : World) : Prop := ∃ (j : Nat) (A : Option Addr) (c : Nat), i = .int .i64 (j : Int) ∧ s = .slice A (uptoR P j).length c ∧ j ≤ P.length ∧ Below w.heap.size w wr ∧ OwnR enc k e wr w.heap.size (.slice A (uptoR P j).length c) (uptoR P j)
/-- a call's answer: a row in new memory, nothing that was there turned -/
def RetR (enc : α → List Value) (k : Nat) (t : TypeId) (w : World) (l : List α) (e : Ending) (w' : World) : Prop := ∃ A c, e = .returned (.slice A l.length c) ∧ OwnR enc k t w' w.heap.size (.slice A l.length c) l ∧ Below w.heap.size w w'
theorem Rws.upto {enc : α → List Value} {k : Nat} (hk : ∀ x, (enc x).length = k) {w : World} {B n c i : Nat} {A : Option Addr} {l : List α} (h : Rws enc w B A n c l) (hi : i ≤ n) : Rws enc w B A i c (l.take i) := by
  have hl := h.len
  have hle := h.le
  refine ⟨by rw [List.length_take]; omega, by omega, h.cap, h.nil_, fun h0 => ?_⟩
  obtain ⟨g, o, e, hg, hc⟩ := h.2.2.2.2 (by omega)
  refine ⟨g, o, e, hg, fun j u hj => hc j u ?_⟩
  rw [← cellsR_take hk, List.getElem?_take] at hj
  split at hj
  · exact hj
  · cases hj
theorem Rws.from_ {enc : α → List Value} {k : Nat} (hk : ∀ x, (enc x).length = k) {w : World} {B n c i : Nat} {A : Option Addr} {l : List α} (h : Rws enc w B A n c l) (hi : i ≤ n) : Rws enc w B (if c = i then A else A.map (·.add (i * k))) (n - i) (c - i) (l.drop i) := by
  have := h.part hk hi (Nat.le_refl n)
  rwa [List.take_of_length_le (by rw [List.length_drop, h.len]; omega)] at this
end

theorem infoO : (Try.prog.info? 38).map (fun i => (i.zero, i.size, i.bytes)) = some (some (.agg #[.int .u32 0, .int .u64 0, .slice none 0 0, .bool false]), 4, 48) := by kernel_rfl
theorem cellsO : Try.prog.cellsOf 38 = 4 := by kernel_rfl
theorem nil_toO : ∀ w', (Instr.sliceAt 24 (.slice none 0 0) none (some (.int .i64 0)) none).run Try.prog w' = .ok (.slice none 0 0) w' := by
  intro w'
  obtain ⟨i0, hi0, _⟩ := info_parts infoO
  have hu : Try.prog.underlying 24 = some (.slice (Try.prog.elem 24)) := by kernel_rfl
  have he : Try.prog.elem 24 = 38 := by kernel_rfl
  rw [run_sliceAt_slice w' _ _ _ _ _ hu, run_slice_h w' 24 none 0 0 hu .i64 0 (by omega) (by omega), he, run_sizeOf w' hi0]
  simp [Result.andThen, sliced]
theorem head_toO (g n c : Nat) (hc : 0 < c) : ∀ w', (Instr.sliceAt 24 (.slice (some ⟨g, 0, none⟩) n c) none (some (.int .i64 0)) none).run Try.prog w' = .ok (.slice (some ⟨g, 0, none⟩) 0 c) w' := by
  intro w'
  obtain ⟨i0, hi0, _⟩ := info_parts infoO
  have hu : Try.prog.underlying 24 = some (.slice (Try.prog.elem 24)) := by kernel_rfl
  have he : Try.prog.elem 24 = 38 := by kernel_rfl
  rw [run_sliceAt_slice w' _ _ _ _ _ hu, run_slice_h w' 24 (some ⟨g, 0, none⟩) n c hu .i64 0 (by omega) (by omega), he, run_sizeOf w' hi0]
  have h : ¬ c = 0 := by omega
  simp [Result.andThen, cellsO, sliced, h, Addr.add_lit]
set_option maxRecDepth 100000 in
theorem slice_fromO (A : Option Addr) (n c k : Nat) (hk : k ≤ n) : ∀ w', (Instr.sliceAt 24 (.slice A n c) (some (.int .i64 (k : Int))) none none).run Try.prog w' = .ok (.slice (if c = k then A else A.map (·.add (k * 4))) (n - k) (c - k)) w' := by
  intro w'
  obtain ⟨i0, hi, _⟩ := info_parts infoO
  have hu : Try.prog.underlying 24 = some (.slice (Try.prog.elem 24)) := by kernel_rfl
  have he : Try.prog.elem 24 = 38 := by kernel_rfl
  rw [run_sliceAt_slice w' _ _ _ _ _ hu, run_slice_l w' 24 A n c hu .i64 (k : Int) (by omega) (by omega), he, run_sizeOf w' hi]
  simp only [Result.andThen, sliced, Int.toNat_natCast, cellsO]

set_option maxRecDepth 100000 in
set_option maxHeartbeats 400000 in
theorem growO_any (k : Nat) (hk : k ≤ 1000000) (w : World) :
    Calls Try.prog 39 #[.slice none 0 0, .int .i64 (k : Int)] w fun e w' => ∃ A c, e = .returned (.slice A 0 c) ∧ OwnR encO 4 38 w' w.heap.size (.slice A 0 c) [] ∧ Below w.heap.size w w' := by
  have hnil := nil_toO
  by_cases h0 : k = 0
  · subst h0
    go_enter Try.func39, Try.ntmps39
    go_wp2_with fail
    go_ret
    exact ⟨none, 0, rfl, OwnR.nil_ _ _ _ _ _, Below.refl _ _⟩
  · obtain ⟨i0, hi0, hz0, hzs, hzb⟩ := info_parts infoO
    obtain ⟨G, hG⟩ : ∃ G, G = grownCap w k 0 38 := ⟨_, rfl⟩
    have hGn : k ≤ G := by rw [hG]; exact grownCap_ge w _ _ _
    have hGm : G ≤ maxLen := by rw [hG]; exact grownCap_le_maxLen w _ _ _ (by unfold maxLen; omega)
    obtain ⟨ROW, hROW⟩ : ∃ ROW : Array Value, ROW = (#[] : Array Value) ++ Builtin.zeroCells (Value.agg #[.int .u32 0, .int .u64 0, .slice none 0 0, .bool false]).cells k ++ Builtin.zeroCells (Value.agg #[.int .u32 0, .int .u64 0, .slice none 0 0, .bool false]).cells (G - k) := ⟨_, rfl⟩
    have hRl : ROW.size = G * 4 := by
      have hzc : (Value.agg #[.int .u32 0, .int .u64 0, .slice none 0 0, .bool false]).cells.size = 4 := by rfl
      rw [hROW]
      simp only [Array.size_append, size_zeroCells, hzc, Array.size_empty]
      omega
    obtain ⟨W1, hW1⟩ : ∃ W1, W1 = w.drew.alloc (.cells ROW 38) := ⟨_, rfl⟩
    have hrz : ∀ ty, (Builtin.append_ #[24, 3] ty #[.slice none 0 0, .int .i64 (k : Int)]).run Try.prog w = .ok (.slice (some ⟨w.heap.size, 0, none⟩) k G) W1 := fun ty => by
      have hold : (Builtin.firstCells i0.size 0 (.slice none 0 0)).run Try.prog w.drew = .ok ([] : List Value).toArray w.drew := by rw [hzs]; rfl
      have := Lib.run_append_grow_zeros w 24 3 ty 38 i0 _ .i64 .i64 Try.underlying24 Try.underlying3 hi0 hz0 none 0 0 [] hold k (by omega) (by omega) (by omega) (by omega) (by rw [hzb]; omega) (by rw [hzb, show 0 + k = k by omega]; exact growslice_fits (by omega) (by omega))
      rw [show 0 + k = k by omega] at this
      rw [hW1, hROW, hG]
      exact this
    have hR1 : OwnR encO 4 38 W1 w.heap.size (.slice (some ⟨w.heap.size, 0, none⟩) 0 G) [] := ⟨by simp [cellsR], Or.inr ⟨w.heap.size, G, ROW, rfl, Nat.le_refl _, by rw [hW1]; exact heap_alloc_new w.drew _, Nat.zero_le _, hGm, hRl, by simp [cellsR]⟩⟩
    have hb1 : Below w.heap.size w W1 := by rw [hW1]; exact below_alloc (Below.refl _ w).drew _
    have HO := Lib.hid hR1
    have HB := Lib.hid hb1
    have hto := head_toO w.heap.size k G (by omega)
    have HRZ := Lib.hid hrz
    clear hrz
    have z0 : decide ((0 : Int) < (k : Int)) = true := decide_eq_true (by omega)
    have z1 : decide ((k : Int) < (0 : Int)) = false := decide_eq_false (by omega)
    have hwr : wrap64 (k : Int) = (k : Int) := by unfold wrap64; omega
    clear hR1 hb1 hW1 hROW hRl hGm hGn hG hz0 hi0 hzs hzb
    go_enter Try.func39, Try.ntmps39
    go_wp2_with (at_builtin; refine Lib.wpList_append_run w (by rfl) (.tmp 20) (.tmp 21) 24 3 (by rfl) (.slice none 0 0) (.int .i64 (k : Int)) (by rfl) (by rfl) _ _ (HRZ.out _) ?_)
    go_ret
    exact ⟨_, _, rfl, HO.out, HB.out⟩

set_option maxRecDepth 100000 in
set_option maxHeartbeats 400000 in
theorem concatO_any (w : World) (g c : Nat) (P : List (PartR OpV)) (hP : PartsR encO w g P) (h3 : P.length ≤ 3) (hr : (uptoR P P.length).length ≤ 1000000) :
    Calls Try.prog 26 #[.slice (some ⟨g, 0, none⟩) P.length c] w (RetR encO 4 38 w (uptoR P P.length)) := by
  obtain ⟨N, hN⟩ : ∃ N, N = P.length := ⟨_, rfl⟩
  obtain ⟨T, hT⟩ : ∃ T, T = (uptoR P N).length := ⟨_, rfl⟩
  have HP := Lib.hid hP
  have HN := Lib.hid hN
  have HT := Lib.hid hT
  rw [← hN] at h3 hr ⊢
  rw [← hT] at hr
  have HGW := fun w => Lib.hid (growO_any T hr w)
  clear hP hN hT
  go_enter Try.func26, Try.ntmps26
  go_wp2_with fail
  go_loopw [3, 11] (fun s i wr => CRelR1 w P s i wr) (fun _ i _ => N - (intOf i).toNat)
  case atStart => exact ⟨0, rfl, rfl, Nat.zero_le _, Below.refl _ _⟩
  case round =>
    obtain ⟨j, rfl, rfl, hj, hb⟩ := hrel
    have HB := Lib.hid hb
    rw [← HN.out] at hj
    by_cases hlt : j < N
    · have hlt' : j < P.length := by rw [← HN.out]; exact hlt
      obtain ⟨hcell, hcr⟩ := (HP.out.then_ hb).2 j hlt'
      have hsum : (uptoR P (j + 1)).length = (uptoR P j).length + (P.getD j default).n := by rw [uptoR_succ hlt', List.length_append, hcr.len]
      have hle1 := uptoR_le P (j + 1)
      rw [← HN.out, ← HT.out] at hle1
      obtain ⟨⟨A1, n1, c1, l1⟩, hq⟩ : ∃ q, q = P.getD j default := ⟨_, rfl⟩
      rw [← hq] at hcell hcr hsum
      unfold PartR.val at hcell
      simp only at hcell hcr hsum
      obtain ⟨S, hS⟩ : ∃ S, S = (uptoR P j).length := ⟨_, rfl⟩
      rw [← hS] at hsum ⊢
      have HS := Lib.hid hsum
      have hw1 : wrap64 ((S : Int) + (n1 : Int)) = (S : Int) + (n1 : Int) := by unfold wrap64; omega
      have hneg : decide ((S : Int) + (n1 : Int) < 0) = false := decide_eq_false (by omega)
      have z0 : (0 : Int) ≤ (j : Int) := by omega
      have z1 : (j : Int) < (N : Int) := by omega
      clear hcr hb hq hle1 hsum hS hlt'
      go_wp2_with fail
      go_roundw
      case rel => exact ⟨j + 1, by go_num, by rw [HS.out]; go_num, by have := HN.out; omega, HB.out⟩
      case measure => simp [intOf]; omega
    · have hjN : j = N := by omega
      subst hjN
      clear hb hlt
      rw [← HT.out]
      go_wp2_with fail
      refine (HGW _).out.mono ?_
      rintro e w2 ⟨A0, c0, rfl, hO, hb2⟩
      have HB2 := Lib.hid (HB.out.trans (hb2.mono HB.out.size))
      have HO2 := Lib.hid (hO.lower (base' := w.heap.size) HB.out.size)
      clear hO hb2
      go_wp2_with fail
      go_loopw [6, 27] (fun s i wr => CRelR2 encO 4 38 w P s i wr) (fun _ i _ => j - (intOf i).toNat)
      case atStart => exact ⟨0, A0, c0, rfl, rfl, Nat.zero_le _, HB2.out, HO2.out⟩
      case round =>
        obtain ⟨i, A, cc, rfl, rfl, hi, hbr, hOr⟩ := hrel
        have HBR := Lib.hid hbr
        have HOR := Lib.hid hOr
        rw [← HN.out] at hi
        clear hOr
        by_cases hlt : i < j
        · have hlt' : i < P.length := by rw [← HN.out]; exact hlt
          obtain ⟨hcell, hcr⟩ := (HP.out.then_ hbr).2 i hlt'
          have hsum : (uptoR P (i + 1)).length = (uptoR P i).length + (P.getD i default).n := by rw [uptoR_succ hlt', List.length_append, hcr.len]
          have hle1 := uptoR_le P (i + 1)
          rw [← HN.out, ← HT.out] at hle1
          have HNX := Lib.hid (uptoR_succ hlt')
          obtain ⟨⟨A1, n1, c1, l1⟩, hq⟩ : ∃ q, q = P.getD i default := ⟨_, rfl⟩
          rw [← hq] at hcell hcr hsum HNX
          unfold PartR.val at hcell
          simp only at hcell hcr hsum HNX
          have HCR := Lib.hid hcr
          obtain ⟨S, hS⟩ : ∃ S, S = (uptoR P i).length := ⟨_, rfl⟩
          rw [← hS] at hsum HOR ⊢
          have HS := Lib.hid hsum
          have hfit : (S + n1) * 48 ≤ 140737488355328 := by omega
          have hmx : S + n1 ≤ maxLen := by unfold maxLen; omega
          have z0 : (0 : Int) ≤ (i : Int) := by omega
          have z1 : (i : Int) < (j : Int) := by omega
          clear hcr hbr hq hle1 hsum hS hlt'
          go_wp2_with (at_builtin; refine wpList_append_rws encO_len encO_one Try.underlying24 infoO (by decide) (by decide) wr (by rfl) (.tmp 31) (.tmp 32) (by rfl) w.heap.size _ _ _ _ (by rfl) HOR.out wr.heap.size _ _ _ l1 (by rfl) HCR.out hmx hfit HBR.out.size ?_; intro A2 cc2 w4 hO4 hg4 _)
          have HB4 := Lib.hid (OwnR.grownBelow HOR.out hg4 HBR.out HBR.out.size)
          rw [← HNX.out] at hO4
          have HO4 := Lib.hid hO4
          clear hO4 hg4
          go_wp2_with fail
          go_roundw
          case rel => exact ⟨i + 1, A2, cc2, by go_num, by rw [HS.out], by have := HN.out; omega, HB4.out, by rw [HS.out]; exact HO4.out⟩
          case measure => simp [intOf]; omega
        · have hjN : i = j := by omega
          subst hjN
          clear hbr hlt
          go_wp2_with fail
          go_ret
          exact ⟨_, _, rfl, HOR.out, HBR.out⟩
theorem eql_nilO (A : Option Addr) (n c : Nat) (w : World) : (binOp .eql 24 (.slice A n c) (.slice none 0 0)).run Try.prog w = .ok (.bool A.isNone) w := Lib.run_eql_slice_nil w _ _ A n c 0 0 Try.underlying24
theorem litO (w : World) (l : List OpV) (hl : l.length ≤ maxLen) : OwnR encO 4 38 (w.alloc (.cells (cellsR encO l).toArray 38)) w.heap.size (.slice (some ⟨w.heap.size, 0, none⟩) l.length l.length) l := OwnR.lit encO_len w l hl
set_option maxRecDepth 100000 in
set_option maxHeartbeats 400000 in
theorem cloneO_any (A : Option Addr) (n c : Nat) (l : List OpV) (w : World) (h1 : Rws encO w w.heap.size A n c l) (hr : n ≤ 1000000) :
    Calls Try.prog 32 #[.slice A n c] w (RetR encO 4 38 w l) := by
  cases A with
  | none =>
    have hc : c = 0 := h1.nil_ rfl
    have hn : n = 0 := by have := h1.le; omega
    subst hc hn
    obtain rfl : l = [] := List.eq_nil_of_length_eq_zero h1.len
    have q := eql_nilO none 0 0
    go_enter Try.func32, Try.ntmps32
    go_wp2_with fail
    go_ret
    exact ⟨none, 0, rfl, OwnR.nil_ _ _ _ _ _, Below.refl _ _⟩
  | some ad =>
    have q := eql_nilO (some ad) n c
    have hb1 : Below w.heap.size w (w.alloc (.cells #[] 38)) := (Below.refl _ _).alloc (Nat.le_refl _) _
    have HB := Lib.hid (h1.below hb1 (Nat.le_refl _))
    have HV := Lib.hid (show OwnR encO 4 38 (w.alloc (.cells #[] 38)) w.heap.size (.slice (some ⟨w.heap.size, 0, none⟩) 0 0) [] from litO w [] (by simp))
    have HL := Lib.hid h1.len
    have HB1 := Lib.hid hb1
    clear h1 hb1
    go_enter Try.func32, Try.ntmps32
    go_wp2_with (at_builtin; refine wpList_append_rws encO_len encO_one Try.underlying24 infoO (by decide) (by decide) (w.alloc (.cells #[] 38)) rfl (.tmp 5) (.tmp 6) rfl w.heap.size _ _ _ [] (by rfl) HV.out w.heap.size _ _ _ l (by rfl) HB.out (by unfold maxLen; omega) (by omega) (by simp) ?_)
    intro A2 c2 w2 hV2 hg2 hx2
    have hb2 := OwnR.grownBelow HV.out hg2 HB1.out (by simp)
    clear hx2 hg2
    have hV2 : OwnR encO 4 38 w2 w.heap.size (.slice A2 n c2) l := by simpa using hV2
    have H2 := Lib.hid (And.intro hV2 hb2)
    clear hV2 hb2
    go_wp2_with fail
    go_ret
    refine ⟨A2, c2, ?_, ?_, H2.out.2⟩
    · rw [HL.out]; simp
    · rw [HL.out]; exact H2.out.1
end Go.Proofs.Ytkgehgedbgogbaa
