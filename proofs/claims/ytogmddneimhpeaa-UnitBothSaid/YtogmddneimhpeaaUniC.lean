/-
  Contracts of slices.Grow of nil, slices.Concat and slices.Clone at code points. Conditions: at most three parts, together at most a million.
-/
import Derived.Test.YtogmddneimhpeaaUniA
import Derived.Test.YtogmddneimhpeaaPceU
import Derived.Lib.AppendZerosOnto
import Derived.Deep.RegionHeld3
import Derived.Lib.SlBytesConst
namespace Go.Proofs.Ytogmddneimhpeaa
open Go.RowKit

theorem nil_to : ∀ w', (Instr.sliceAt 22 (.slice none 0 0) none (some (.int .i64 0)) none).run Try.prog w' = .ok (.slice none 0 0) w' := by
  intro w'
  obtain ⟨i0, hi0, _⟩ := info_parts infoChar
  have hu : Try.prog.underlying 22 = some (.slice (Try.prog.elem 22)) := by kernel_rfl
  have he : Try.prog.elem 22 = 29 := by kernel_rfl
  rw [run_sliceAt_slice w' _ _ _ _ _ hu, run_slice_h w' 22 none 0 0 hu .i64 0 (by omega) (by omega), he, run_sizeOf w' hi0]
  simp [Result.andThen, sliced]
theorem head_to (g n c : Nat) (hc : 0 < c) : ∀ w', (Instr.sliceAt 22 (.slice (some ⟨g, 0, none⟩) n c) none (some (.int .i64 0)) none).run Try.prog w' = .ok (.slice (some ⟨g, 0, none⟩) 0 c) w' := by
  intro w'
  obtain ⟨i0, hi0, _⟩ := info_parts infoChar
  have hu : Try.prog.underlying 22 = some (.slice (Try.prog.elem 22)) := by kernel_rfl
  have he : Try.prog.elem 22 = 29 := by kernel_rfl
  rw [run_sliceAt_slice w' _ _ _ _ _ hu, run_slice_h w' 22 (some ⟨g, 0, none⟩) n c hu .i64 0 (by omega) (by omega), he, run_sizeOf w' hi0]
  have h : ¬ c = 0 := by omega
  simp [Result.andThen, cellsChar, sliced, h, Addr.add_lit]

set_option maxRecDepth 100000 in
set_option maxHeartbeats 400000 in
theorem grow_any (k : Nat) (hk : k ≤ 1000000) (w : World) :
    Calls Try.prog 64 #[.slice none 0 0, .int .i64 (k : Int)] w fun e w' => ∃ A c, e = .returned (.slice A 0 c) ∧ OwnC w' w.heap.size (.slice A 0 c) [] ∧ Below w.heap.size w w' := by
  have hnil := nil_to
  by_cases h0 : k = 0
  · subst h0
    go_enter Try.func64, Try.ntmps64
    go_wp2_with fail
    go_ret
    exact ⟨none, 0, rfl, OwnC.nil_ _ _, Below.refl _ _⟩
  · obtain ⟨i0, hi0, hz0, hzs, hzb⟩ := info_parts infoChar
    obtain ⟨G, hG⟩ : ∃ G, G = grownCap w k 0 29 := ⟨_, rfl⟩
    have hGn : k ≤ G := by rw [hG]; exact grownCap_ge w _ _ _
    have hGm : G ≤ maxLen := by rw [hG]; exact grownCap_le_maxLen w _ _ _ (by unfold maxLen; omega)
    obtain ⟨ROW, hROW⟩ : ∃ ROW : Array Value, ROW = (#[] : Array Value) ++ Builtin.zeroCells (Value.int .i32 0).cells k ++ Builtin.zeroCells (Value.int .i32 0).cells (G - k) := ⟨_, rfl⟩
    have hRl : ROW.size = G := by
      rw [hROW]
      simp [Builtin.zeroCells, Value.cells]
      omega
    obtain ⟨W1, hW1⟩ : ∃ W1, W1 = w.drew.alloc (.cells ROW 29) := ⟨_, rfl⟩
    have hrz : ∀ ty, (Builtin.append_ #[22, 3] ty #[.slice none 0 0, .int .i64 (k : Int)]).run Try.prog w = .ok (.slice (some ⟨w.heap.size, 0, none⟩) k G) W1 := fun ty => by
      have hold : (Builtin.firstCells i0.size 0 (.slice none 0 0)).run Try.prog w.drew = .ok ([] : List Value).toArray w.drew := by rw [hzs]; rfl
      have := Lib.run_append_grow_zeros w 22 3 ty 29 i0 _ .i64 .i64 Try.underlying22 Try.underlying3 hi0 hz0 none 0 0 [] hold k (by omega) (by omega) (by omega) (by omega) (by rw [hzb]; omega) (by rw [hzb, show 0 + k = k by omega]; exact growslice_fits (by omega) (by omega))
      rw [show 0 + k = k by omega] at this
      rw [hW1, hROW, hG]
      exact this
    have hR1 : Rowc W1 w.heap.size 0 G [] ROW := ⟨by rw [hW1]; exact heap_alloc_new w.drew _, hRl, rfl, Nat.zero_le _, hGm, (fun x hx => by simp at hx), (fun t ht => by omega)⟩
    have hb1 : Below w.heap.size w W1 := by rw [hW1]; exact below_alloc (Below.refl _ w).drew _
    have HO := Lib.hid (hR1.own (base := w.heap.size) (Nat.le_refl _))
    have HB := Lib.hid hb1
    have hto := head_to w.heap.size k G (by omega)
    have HRZ := Lib.hid hrz
    clear hrz
    have z0 : decide ((0 : Int) < (k : Int)) = true := decide_eq_true (by omega)
    have z1 : decide ((k : Int) < (0 : Int)) = false := decide_eq_false (by omega)
    have hwr : wrap64 (k : Int) = (k : Int) := by unfold wrap64; omega
    clear hR1 hb1 hW1 hROW hRl hGm hGn hG hz0 hi0 hzs hzb
    go_enter Try.func64, Try.ntmps64
    go_wp2_with (at_builtin; refine Lib.wpList_append_run w (by rfl) (.tmp 20) (.tmp 21) 22 3 (by rfl) (.slice none 0 0) (.int .i64 (k : Int)) (by rfl) (by rfl) _ _ (HRZ.out _) ?_)
    go_ret
    exact ⟨_, _, rfl, HO.out, HB.out⟩

/-- one part -/
structure Part where
  A : Option Addr
  n : Nat
  c : Nat
  l : List Int
instance : Inhabited Part := ⟨⟨none, 0, 0, []⟩⟩
def Part.val (q : Part) : Value := .slice q.A q.n q.c
/-- what the first j have -/
def upto (P : List Part) (j : Nat) : List Int := (P.take j).flatMap Part.l
/-- parts in a block -/
def Parts (w : World) (g : Nat) (P : List Part) : Prop :=
  g < w.heap.size ∧ ∀ j, j < P.length → w.cell? ⟨g, j, none⟩ = some (P.getD j default).val ∧ Crs w w.heap.size (P.getD j default).A (P.getD j default).n (P.getD j default).c (P.getD j default).l
theorem Parts.then_ {w w' : World} {g : Nat} {P : List Part} (h : Parts w g P) (hb : Below w.heap.size w w') : Parts w' g P :=
  ⟨Nat.lt_of_lt_of_le h.1 hb.size, fun j hj => ⟨(hb.cell (p := ⟨g, j, none⟩) h.1).trans (h.2 j hj).1, (h.2 j hj).2.then_ hb⟩⟩
theorem upto_succ {P : List Part} {j : Nat} (hj : j < P.length) : upto P (j + 1) = upto P j ++ (P.getD j default).l := by
  unfold upto
  rw [List.take_add_one, List.flatMap_append, List.getD_eq_getElem?_getD, List.getElem?_eq_getElem hj]
  simp
theorem upto_le (P : List Part) (j : Nat) : (upto P j).length ≤ (upto P P.length).length := by
  unfold upto
  rw [List.take_length]
  conv => rhs; rw [← List.take_append_drop j P, List.flatMap_append, List.length_append]
  omega
def CRel1 (w : World) (P : List Part) (s i : Value) (wr : World) : Prop := ∃ j : Nat, i = .int .i64 (j : Int) ∧ s = .int .i64 ((upto P j).length : Int) ∧ j ≤ P.length ∧ Below w.heap.size w wr
def CRel2 (w : World) (P : List Part) (s i : Value) (wr : World) : Prop := ∃ (j : Nat) (A : Option Addr) (c : Nat), i = .int .i64 (j : Int) ∧ s = .slice A (upto P j).length c ∧ j ≤ P.length ∧ Below w.heap.size w wr ∧ OwnC wr w.heap.size (.slice A (upto P j).length c) (upto P j)

set_option maxRecDepth 100000 in
set_option maxHeartbeats 400000 in
theorem concat_any (w : World) (g c : Nat) (P : List Part) (hP : Parts w g P) (h3 : P.length ≤ 3) (hr : (upto P P.length).length ≤ 1000000) :
    Calls Try.prog 58 #[.slice (some ⟨g, 0, none⟩) P.length c] w fun e w' => ∃ A c, e = .returned (.slice A (upto P P.length).length c) ∧ OwnC w' w.heap.size (.slice A (upto P P.length).length c) (upto P P.length) ∧ Below w.heap.size w w' := by
  obtain ⟨N, hN⟩ : ∃ N, N = P.length := ⟨_, rfl⟩
  obtain ⟨T, hT⟩ : ∃ T, T = (upto P N).length := ⟨_, rfl⟩
  have HP := Lib.hid hP
  have HN := Lib.hid hN
  have HT := Lib.hid hT
  rw [← hN] at h3 hr ⊢
  rw [← hT] at hr
  have HGW := fun w => Lib.hid (grow_any T hr w)
  clear hP hN hT
  go_enter Try.func58, Try.ntmps58
  go_wp2_with fail
  go_loopw [3, 11] (fun s i wr => CRel1 w P s i wr) (fun _ i _ => N - (intOf i).toNat)
  case atStart => exact ⟨0, rfl, rfl, Nat.zero_le _, Below.refl _ _⟩
  case round =>
    obtain ⟨j, rfl, rfl, hj, hb⟩ := hrel
    have HB := Lib.hid hb
    rw [← HN.out] at hj
    by_cases hlt : j < N
    · have hlt' : j < P.length := by rw [← HN.out]; exact hlt
      obtain ⟨hcell, hcr⟩ := (HP.out.then_ hb).2 j hlt'
      have hsum : (upto P (j + 1)).length = (upto P j).length + (P.getD j default).n := by rw [upto_succ hlt', List.length_append, hcr.len]
      have hle1 := upto_le P (j + 1)
      rw [← HN.out, ← HT.out] at hle1
      obtain ⟨⟨A1, n1, c1, l1⟩, hq⟩ : ∃ q, q = P.getD j default := ⟨_, rfl⟩
      rw [← hq] at hcell hcr hsum
      unfold Part.val at hcell
      simp only at hcell hcr hsum
      obtain ⟨S, hS⟩ : ∃ S, S = (upto P j).length := ⟨_, rfl⟩
      rw [← hS] at hsum ⊢
      have HS := Lib.hid hsum
      have hw1 : wrap64 ((S : Int) + (n1 : Int)) = (S : Int) + (n1 : Int) := by unfold wrap64; omega
      have hneg : decide ((S : Int) + (n1 : Int) < 0) = false := decide_eq_false (by omega)
      have z0 : (0 : Int) ≤ (j : Int) := by omega
      have z1 : (j : Int) < (N : Int) := by omega
      clear hcr hb hq hle1 hsum hS hlt'
      go_wp2_with fail
      go_roundw
      case rel => exact ⟨j + 1, by go_num, by rw [HS.out]; go_num, by have := HN.out; omega, HB.out⟩
      case measure => simp [intOf]; omega
    · have hjN : j = N := by omega
      subst hjN
      clear hb hlt
      rw [← HT.out]
      go_wp2_with fail
      refine (HGW _).out.mono ?_
      rintro e w2 ⟨A0, c0, rfl, hO, hb2⟩
      have HB2 := Lib.hid (HB.out.trans (hb2.mono HB.out.size))
      have HO2 := Lib.hid (hO.lower (base' := w.heap.size) HB.out.size)
      clear hO hb2
      go_wp2_with fail
      go_loopw [6, 27] (fun s i wr => CRel2 w P s i wr) (fun _ i _ => j - (intOf i).toNat)
      case atStart => exact ⟨0, A0, c0, rfl, rfl, Nat.zero_le _, HB2.out, HO2.out⟩
      case round =>
        obtain ⟨i, A, cc, rfl, rfl, hi, hbr, hOr⟩ := hrel
        have HBR := Lib.hid hbr
        have HOR := Lib.hid hOr
        rw [← HN.out] at hi
        clear hOr
        by_cases hlt : i < j
        · have hlt' : i < P.length := by rw [← HN.out]; exact hlt
          obtain ⟨hcell, hcr⟩ := (HP.out.then_ hbr).2 i hlt'
          have hsum : (upto P (i + 1)).length = (upto P i).length + (P.getD i default).n := by rw [upto_succ hlt', List.length_append, hcr.len]
          have hle1 := upto_le P (i + 1)
          rw [← HN.out, ← HT.out] at hle1
          have HNX := Lib.hid (upto_succ hlt')
          obtain ⟨⟨A1, n1, c1, l1⟩, hq⟩ : ∃ q, q = P.getD i default := ⟨_, rfl⟩
          rw [← hq] at hcell hcr hsum HNX
          unfold Part.val at hcell
          simp only at hcell hcr hsum HNX
          have HCR := Lib.hid hcr
          obtain ⟨S, hS⟩ : ∃ S, S = (upto P i).length := ⟨_, rfl⟩
          rw [← hS] at hsum HOR ⊢
          have HS := Lib.hid hsum
          have hfit : (S + n1) * 4 ≤ 140737488355328 := by omega
          have z0 : (0 : Int) ≤ (i : Int) := by omega
          have z1 : (i : Int) < (j : Int) := by omega
          clear hcr hbr hq hle1 hsum hS hlt'
          go_wp2_with (at_builtin; refine wpList_append_crs wr (by rfl) (.tmp 31) (.tmp 32) (by rfl) w.heap.size _ _ _ _ (by rfl) HOR.out wr.heap.size _ _ _ l1 (by rfl) HCR.out hfit HBR.out.size ?_; intro A2 cc2 w4 hO4 hg4 _)
          have HB4 := Lib.hid (below_appendC HOR.out hg4 HBR.out HBR.out.size)
          rw [← HNX.out] at hO4
          have HO4 := Lib.hid hO4
          clear hO4 hg4
          go_wp2_with fail
          go_roundw
          case rel => exact ⟨i + 1, A2, cc2, by go_num, by rw [HS.out], by have := HN.out; omega, HB4.out, by rw [HS.out]; exact HO4.out⟩
          case measure => simp [intOf]; omega
        · have hjN : i = j := by omega
          subst hjN
          clear hbr hlt
          go_wp2_with fail
          go_ret
          exact ⟨_, _, rfl, HOR.out, HBR.out⟩
theorem eqlC_nil (A : Option Addr) (n c : Nat) (w : World) : (binOp .eql 22 (.slice A n c) (.slice none 0 0)).run Try.prog w = .ok (.bool A.isNone) w := Lib.run_eql_slice_nil w _ _ A n c 0 0 Try.underlying22
/-- a call's answer: code points in new memory, nothing that was there turned -/
def RetC (w : World) (cs : List Int) (e : Ending) (w' : World) : Prop := ∃ A c, e = .returned (.slice A cs.length c) ∧ OwnC w' w.heap.size (.slice A cs.length c) cs ∧ Below w.heap.size w w'
set_option maxRecDepth 100000 in
set_option maxHeartbeats 400000 in
theorem cloneC_any (A : Option Addr) (n c : Nat) (cs : List Int) (w : World) (h1 : Crs w w.heap.size A n c cs) (hr : n * 4 ≤ 140737488355328) :
    Calls Try.prog 30 #[.slice A n c] w (RetC w cs) := by
  cases A with
  | none =>
    have hc : c = 0 := h1.nil_ rfl
    have hn : n = 0 := by have := h1.le; omega
    subst hc hn
    obtain rfl : cs = [] := List.eq_nil_of_length_eq_zero h1.len
    have q := eqlC_nil none 0 0
    go_enter Try.func30, Try.ntmps30
    go_wp2
    go_ret
    exact ⟨none, 0, rfl, OwnC.nil_ _ _, Below.refl _ _⟩
  | some ad =>
    have q := eqlC_nil (some ad) n c
    have hb1 : Below w.heap.size w (w.alloc (.cells #[] 29)) := (Below.refl _ _).alloc (Nat.le_refl _) _
    have HB := Lib.hid (h1.below hb1 (Nat.le_refl _))
    have HV := Lib.hid (show OwnC (w.alloc (.cells #[] 29)) w.heap.size (.slice (some ⟨w.heap.size, 0, none⟩) 0 0) [] from crs_lit w [] (fun x hx => by cases hx) (by simp))
    have HL := Lib.hid h1.len
    have HB1 := Lib.hid hb1
    clear h1 hb1
    go_enter Try.func30, Try.ntmps30
    go_wp2_with (at_builtin; refine wpList_append_crs (w.alloc (.cells #[] 29)) rfl (.tmp 5) (.tmp 6) rfl w.heap.size _ _ _ [] (by rfl) HV.out w.heap.size _ _ _ cs (by rfl) HB.out (by omega) (by simp) ?_)
    intro A2 c2 w2 hV2 hg2 hx2
    have hb2 := below_appendC HV.out hg2 HB1.out (by simp)
    clear hx2 hg2
    have hV2 : OwnC w2 w.heap.size (.slice A2 n c2) cs := by simpa using hV2
    have H2 := Lib.hid (And.intro hV2 hb2)
    clear hV2 hb2
    go_wp2
    go_ret
    refine ⟨A2, c2, ?_, ?_, H2.out.2⟩
    · rw [HL.out]; simp
    · rw [HL.out]; exact H2.out.1
def SRel (w : World) (n : Nat) (xs bs : List Int) (i : Value) (wr : World) : Prop := ∃ j : Nat, i = .int .i64 (j : Int) ∧ j ≤ n ∧ Below w.heap.size w wr ∧ ∀ t, t < j → xs.getD t 0 = bs.getD t 0
theorem ext_getD {xs bs : List Int} (hl : xs.length = bs.length) (h : ∀ t, t < xs.length → xs.getD t 0 = bs.getD t 0) : xs = bs := by
  refine List.ext_getElem hl fun i h1 h2 => ?_
  have := h i h1
  rwa [List.getD_eq_getElem?_getD, List.getD_eq_getElem?_getD, List.getElem?_eq_getElem h1, List.getElem?_eq_getElem h2] at this

set_option maxRecDepth 100000 in
set_option maxHeartbeats 400000 in
theorem same_any (A A' : Option Addr) (n c m c' : Nat) (xs bs : List Int) (w : World) (h1 : Crs w w.heap.size A n c xs) (h2 : Crs w w.heap.size A' m c' bs) :
    Calls Try.prog 38 #[.slice A n c, .slice A' m c'] w fun e w' => e = .returned (.bool (decide (xs = bs))) ∧ Below w.heap.size w w' := by
  have hcap1 := h1.cap
  have hle1 := h1.le
  have hcap2 := h2.cap
  have hle2 := h2.le
  unfold maxLen at hcap1 hcap2
  have HL1 := Lib.hid h1.len
  have HL2 := Lib.hid h2.len
  by_cases hnm : n = m
  · subst hnm
    have H1 := Lib.hid h1
    have H2 := Lib.hid h2
    clear h1 h2
    go_enter Try.func38, Try.ntmps38
    go_wp2_with fail
    go_loopw [5] (fun i wr => SRel w n xs bs i wr) (fun i _ => n - (intOf i).toNat)
    case atStart => exact ⟨0, rfl, Nat.zero_le _, Below.refl _ _, fun t ht => by omega⟩
    case round =>
      obtain ⟨j, rfl, hj, hb, hs⟩ := hrel
      have HB := Lib.hid hb
      have HS := Lib.hid hs
      clear hb hs
      by_cases hlt : j < n
      · obtain ⟨g1, o1, rfl, hg1, hc1⟩ := (H1.out.below HB.out (Nat.le_refl _)).at_ hlt
        obtain ⟨g2, o2, rfl, hg2, hc2⟩ := (H2.out.below HB.out (Nat.le_refl _)).at_ hlt
        have a1 := hc1 j hlt
        have a2 := hc2 j hlt
        have HNX := Lib.hid (show xs.getD j 0 = bs.getD j 0 → ∀ t, t < j + 1 → xs.getD t 0 = bs.getD t 0 from fun h t ht => by
          rcases Nat.lt_or_ge t j with h1 | h1
          · exact HS.out t h1
          · obtain rfl : t = j := by omega
            exact h)
        have HNE := Lib.hid (show xs.getD j 0 ≠ bs.getD j 0 → xs ≠ bs from fun h e => h (by rw [e]))
        clear hc1 hc2
        obtain ⟨x, hx⟩ : ∃ x, x = xs.getD j 0 := ⟨_, rfl⟩
        obtain ⟨y, hy⟩ : ∃ y, y = bs.getD j 0 := ⟨_, rfl⟩
        rw [← hx] at a1 HNX HNE
        rw [← hy] at a2 HNX HNE
        clear hx hy
        have z0 : (0 : Int) ≤ (j : Int) := by omega
        have z1 : (j : Int) < (n : Int) := by omega
        by_cases hxy : x = y
        · subst hxy
          have HN2 := Lib.hid (HNX.out rfl)
          go_wp2_with fail
          go_region_held3 (fun w' => w'.cell? ⟨g1, o1 + j, none⟩ = some (.int .i32 x) ∧ w'.cell? ⟨g2, o2 + j, none⟩ = some (.int .i32 x)) (go_keep) (fail)
          go_wp2_with fail
          go_roundw
          case rel => exact ⟨j + 1, by go_num, by omega, below_drawn HB.out, HN2.out⟩
          case measure => simp [intOf]; omega
        · have HN2 := Lib.hid (HNE.out hxy)
          have hbne : (x != y) = true := by rw [bne_iff_ne]; exact hxy
          go_wp2_with fail
          go_region_held3 (fun w' => w'.cell? ⟨g1, o1 + j, none⟩ = some (.int .i32 x) ∧ w'.cell? ⟨g2, o2 + j, none⟩ = some (.int .i32 y)) (go_keep) (fail)
          go_wp2_with fail
          go_ret
          exact ⟨ret_bool (decide_eq_false HN2.out).symm, below_drawn HB.out⟩
      · have hjn : j = n := by omega
        have HE := Lib.hid (show xs = bs from ext_getD (HL1.out.trans HL2.out.symm) (fun t ht => HS.out t (by have := HL1.out; omega)))
        clear hjn
        go_wp2_with fail
        go_ret
        exact ⟨ret_bool (decide_eq_true HE.out).symm, HB.out⟩
  · have HN := Lib.hid (show xs ≠ bs from fun e => hnm (by rw [← HL1.out, ← HL2.out, e]))
    have hb : ((n : Int) != (m : Int)) = true := by rw [bne_iff_ne]; omega
    clear h1 h2
    go_enter Try.func38, Try.ntmps38
    go_wp2_with fail
    go_ret
    exact ⟨ret_bool (decide_eq_false HN.out).symm, Below.refl _ _⟩

end Go.Proofs.Ytogmddneimhpeaa
