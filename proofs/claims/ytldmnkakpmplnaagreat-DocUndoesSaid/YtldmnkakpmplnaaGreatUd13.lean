/-
  Contracts of slices.Grow of nil, slices.Concat, slices.Clone and t[k:] at rows of ints. Conditions: at most three parts, together at most a million; a row that is cloned of at most a million.
  A past in memory (its block, its operations, its lengths), none, and one that New did not make; Past.none, Len, From, Now, New. Conditions: those that each states.
  past.New; past.Past's places and the closure that it gives; Length. Conditions: those that each states.
-/
import Derived.Test.YtldmnkakpmplnaaGreatUd12
import Derived.Lib.AppendZerosOnto
import Derived.Deep.RegionHeld3
import Derived.Lib.SlBytesConst
import Derived.BigQuiet
set_option maxRecDepth 100000
namespace Go.Proofs.YtldmnkakpmplnaaGreat
open Go.RowKit
open Pl (Un)
def encI (x : Int) : List Value := [.int .i64 x]
theorem encI_len (x : Int) : (encI x).length = 1 := rfl
theorem encI_one (x : Int) : ∀ v ∈ encI x, v.oneCell' = true := by
  intro v hv
  simp only [encI, List.mem_cons, List.not_mem_nil, or_false] at hv
  rw [hv]; rfl
theorem infoI : (Tryz.prog.info? 3).map (fun i => (i.zero, i.size, i.bytes)) = some (some (.int .i64 0), 1, 8) := by kernel_rfl
theorem cellsI : Tryz.prog.cellsOf 3 = 1 := by kernel_rfl
theorem nil_toI : ∀ w', (Instr.sliceAt 174 (.slice none 0 0) none (some (.int .i64 0)) none).run Tryz.prog w' = .ok (.slice none 0 0) w' := by
  intro w'
  obtain ⟨i0, hi0, _⟩ := info_parts infoI
  have hu : Tryz.prog.underlying 174 = some (.slice (Tryz.prog.elem 174)) := by kernel_rfl
  have he : Tryz.prog.elem 174 = 3 := by kernel_rfl
  rw [run_sliceAt_slice w' _ _ _ _ _ hu, run_slice_h w' 174 none 0 0 hu .i64 0 (by omega) (by omega), he, run_sizeOf w' hi0]
  simp [Result.andThen, sliced]
theorem head_toI (g n c : Nat) (hc : 0 < c) : ∀ w', (Instr.sliceAt 174 (.slice (some ⟨g, 0, none⟩) n c) none (some (.int .i64 0)) none).run Tryz.prog w' = .ok (.slice (some ⟨g, 0, none⟩) 0 c) w' := by
  intro w'
  obtain ⟨i0, hi0, _⟩ := info_parts infoI
  have hu : Tryz.prog.underlying 174 = some (.slice (Tryz.prog.elem 174)) := by kernel_rfl
  have he : Tryz.prog.elem 174 = 3 := by kernel_rfl
  rw [run_sliceAt_slice w' _ _ _ _ _ hu, run_slice_h w' 174 (some ⟨g, 0, none⟩) n c hu .i64 0 (by omega) (by omega), he, run_sizeOf w' hi0]
  have h : ¬ c = 0 := by omega
  simp [Result.andThen, cellsI, sliced, h, Addr.add_lit]
set_option maxHeartbeats 400000 in
theorem growI_any (k : Nat) (hk : k ≤ 1000000) (w : World) :
    Calls Tryz.prog 239 #[.slice none 0 0, .int .i64 (k : Int)] w fun e w' => ∃ A c, e = .returned (.slice A 0 c) ∧ OwnR encI 1 3 w' w.heap.size (.slice A 0 c) [] ∧ Below w.heap.size w w' := by
  have hnil := nil_toI
  by_cases h0 : k = 0
  · subst h0
    go_enter Tryz.func239, Tryz.ntmps239
    go_wp2_with fail
    go_ret
    exact ⟨none, 0, rfl, OwnR.nil_ _ _ _ _ _, Below.refl _ _⟩
  · obtain ⟨i0, hi0, hz0, hzs, hzb⟩ := info_parts infoI
    obtain ⟨G, hG⟩ : ∃ G, G = grownCap w k 0 3 := ⟨_, rfl⟩
    have hGn : k ≤ G := by rw [hG]; exact grownCap_ge w _ _ _
    have hGm : G ≤ maxLen := by rw [hG]; exact grownCap_le_maxLen w _ _ _ (by unfold maxLen; omega)
    obtain ⟨ROW, hROW⟩ : ∃ ROW : Array Value, ROW = (#[] : Array Value) ++ Builtin.zeroCells (Value.int .i64 0).cells k ++ Builtin.zeroCells (Value.int .i64 0).cells (G - k) := ⟨_, rfl⟩
    have hRl : ROW.size = G * 1 := by
      have hzc : (Value.int .i64 0).cells.size = 1 := by rfl
      rw [hROW]
      simp only [Array.size_append, size_zeroCells, hzc, Array.size_empty]
      omega
    obtain ⟨W1, hW1⟩ : ∃ W1, W1 = w.drew.alloc (.cells ROW 3) := ⟨_, rfl⟩
    have hrz : ∀ ty, (Builtin.append_ #[174, 3] ty #[.slice none 0 0, .int .i64 (k : Int)]).run Tryz.prog w = .ok (.slice (some ⟨w.heap.size, 0, none⟩) k G) W1 := fun ty => by
      have hold : (Builtin.firstCells i0.size 0 (.slice none 0 0)).run Tryz.prog w.drew = .ok ([] : List Value).toArray w.drew := by rw [hzs]; rfl
      have := Lib.run_append_grow_zeros w 174 3 ty 3 i0 _ .i64 .i64 Tryz.underlying174 Tryz.underlying3 hi0 hz0 none 0 0 [] hold k (by omega) (by omega) (by omega) (by omega) (by rw [hzb]; omega) (by rw [hzb, show 0 + k = k by omega]; exact growslice_fits (by omega) (by omega))
      rw [show 0 + k = k by omega] at this
      rw [hW1, hROW, hG]
      exact this
    have hR1 : OwnR encI 1 3 W1 w.heap.size (.slice (some ⟨w.heap.size, 0, none⟩) 0 G) [] := ⟨by simp [cellsR], Or.inr ⟨w.heap.size, G, ROW, rfl, Nat.le_refl _, by rw [hW1]; exact heap_alloc_new w.drew _, Nat.zero_le _, hGm, hRl, by simp [cellsR]⟩⟩
    have hb1 : Below w.heap.size w W1 := by rw [hW1]; exact below_alloc (Below.refl _ w).drew _
    have HO := Lib.hid hR1
    have HB := Lib.hid hb1
    have hto := head_toI w.heap.size k G (by omega)
    have HRZ := Lib.hid hrz
    clear hrz
    have z0 : decide ((0 : Int) < (k : Int)) = true := decide_eq_true (by omega)
    have z1 : decide ((k : Int) < (0 : Int)) = false := decide_eq_false (by omega)
    have hwr : wrap64 (k : Int) = (k : Int) := by unfold wrap64; omega
    clear hR1 hb1 hW1 hROW hRl hGm hGn hG hz0 hi0 hzs hzb
    go_enter Tryz.func239, Tryz.ntmps239
    go_wp2_with (at_builtin; refine Lib.wpList_append_run w (by rfl) (.tmp 20) (.tmp 21) 174 3 (by rfl) (.slice none 0 0) (.int .i64 (k : Int)) (by rfl) (by rfl) _ _ (HRZ.out _) ?_)
    go_ret
    exact ⟨_, _, rfl, HO.out, HB.out⟩
set_option maxHeartbeats 400000 in
theorem concatI_any (w : World) (g c : Nat) (P : List (PartR Int)) (hP : PartsR encI w g P) (h3 : P.length ≤ 3) (hr : (uptoR P P.length).length ≤ 1000000) :
    Calls Tryz.prog 215 #[.slice (some ⟨g, 0, none⟩) P.length c] w (RetR encI 1 3 w (uptoR P P.length)) := by
  obtain ⟨N, hN⟩ : ∃ N, N = P.length := ⟨_, rfl⟩
  obtain ⟨T, hT⟩ : ∃ T, T = (uptoR P N).length := ⟨_, rfl⟩
  have HP := Lib.hid hP
  have HN := Lib.hid hN
  have HT := Lib.hid hT
  rw [← hN] at h3 hr ⊢
  rw [← hT] at hr
  have HGW := fun w => Lib.hid (growI_any T hr w)
  clear hP hN hT
  go_enter Tryz.func215, Tryz.ntmps215
  go_wp2_with fail
  go_loopw [3, 11] (fun s i wr => CRelR1 w P s i wr) (fun _ i _ => N - (intOf i).toNat)
  case atStart => exact ⟨0, rfl, rfl, Nat.zero_le _, Below.refl _ _⟩
  case round =>
    obtain ⟨j, rfl, rfl, hj, hb⟩ := hrel
    have HB := Lib.hid hb
    rw [← HN.out] at hj
    by_cases hlt : j < N
    · have hlt' : j < P.length := by rw [← HN.out]; exact hlt
      obtain ⟨hcell, hcr⟩ := (HP.out.then_ hb).2 j hlt'
      have hsum : (uptoR P (j + 1)).length = (uptoR P j).length + (P.getD j default).n := by rw [uptoR_succ hlt', List.length_append, hcr.len]
      have hle1 := uptoR_le P (j + 1)
      rw [← HN.out, ← HT.out] at hle1
      obtain ⟨⟨A1, n1, c1, l1⟩, hq⟩ : ∃ q, q = P.getD j default := ⟨_, rfl⟩
      rw [← hq] at hcell hcr hsum
      unfold PartR.val at hcell
      simp only at hcell hcr hsum
      obtain ⟨S, hS⟩ : ∃ S, S = (uptoR P j).length := ⟨_, rfl⟩
      rw [← hS] at hsum ⊢
      have HS := Lib.hid hsum
      have hw1 : wrap64 ((S : Int) + (n1 : Int)) = (S : Int) + (n1 : Int) := by unfold wrap64; omega
      have hneg : decide ((S : Int) + (n1 : Int) < 0) = false := decide_eq_false (by omega)
      have z0 : (0 : Int) ≤ (j : Int) := by omega
      have z1 : (j : Int) < (N : Int) := by omega
      clear hcr hb hq hle1 hsum hS hlt'
      go_wp2_with fail
      go_roundw
      case rel => exact ⟨j + 1, by go_num, by rw [HS.out]; go_num, by have := HN.out; omega, HB.out⟩
      case measure => simp [intOf]; omega
    · have hjN : j = N := by omega
      subst hjN
      clear hb hlt
      rw [← HT.out]
      go_wp2_with fail
      refine (HGW _).out.mono ?_
      rintro e w2 ⟨A0, c0, rfl, hO, hb2⟩
      have HB2 := Lib.hid (HB.out.trans (hb2.mono HB.out.size))
      have HO2 := Lib.hid (hO.lower (base' := w.heap.size) HB.out.size)
      clear hO hb2
      go_wp2_with fail
      go_loopw [6, 27] (fun s i wr => CRelR2 encI 1 3 w P s i wr) (fun _ i _ => j - (intOf i).toNat)
      case atStart => exact ⟨0, A0, c0, rfl, rfl, Nat.zero_le _, HB2.out, HO2.out⟩
      case round =>
        obtain ⟨i, A, cc, rfl, rfl, hi, hbr, hOr⟩ := hrel
        have HBR := Lib.hid hbr
        have HOR := Lib.hid hOr
        rw [← HN.out] at hi
        clear hOr
        by_cases hlt : i < j
        · have hlt' : i < P.length := by rw [← HN.out]; exact hlt
          obtain ⟨hcell, hcr⟩ := (HP.out.then_ hbr).2 i hlt'
          have hsum : (uptoR P (i + 1)).length = (uptoR P i).length + (P.getD i default).n := by rw [uptoR_succ hlt', List.length_append, hcr.len]
          have hle1 := uptoR_le P (i + 1)
          rw [← HN.out, ← HT.out] at hle1
          have HNX := Lib.hid (uptoR_succ hlt')
          obtain ⟨⟨A1, n1, c1, l1⟩, hq⟩ : ∃ q, q = P.getD i default := ⟨_, rfl⟩
          rw [← hq] at hcell hcr hsum HNX
          unfold PartR.val at hcell
          simp only at hcell hcr hsum HNX
          have HCR := Lib.hid hcr
          obtain ⟨S, hS⟩ : ∃ S, S = (uptoR P i).length := ⟨_, rfl⟩
          rw [← hS] at hsum HOR ⊢
          have HS := Lib.hid hsum
          have hfit : (S + n1) * 8 ≤ 140737488355328 := by omega
          have hmx : S + n1 ≤ maxLen := by unfold maxLen; omega
          have z0 : (0 : Int) ≤ (i : Int) := by omega
          have z1 : (i : Int) < (j : Int) := by omega
          clear hcr hbr hq hle1 hsum hS hlt'
          go_wp2_with (at_builtin; refine wpList_append_rws encI_len encI_one Tryz.underlying174 infoI (by decide) (by decide) wr (by rfl) (.tmp 31) (.tmp 32) (by rfl) w.heap.size _ _ _ _ (by rfl) HOR.out wr.heap.size _ _ _ l1 (by rfl) HCR.out hmx hfit HBR.out.size ?_; intro A2 cc2 w4 hO4 hg4 _)
          have HB4 := Lib.hid (OwnR.grownBelow HOR.out hg4 HBR.out HBR.out.size)
          rw [← HNX.out] at hO4
          have HO4 := Lib.hid hO4
          clear hO4 hg4
          go_wp2_with fail
          go_roundw
          case rel => exact ⟨i + 1, A2, cc2, by go_num, by rw [HS.out], by have := HN.out; omega, HB4.out, by rw [HS.out]; exact HO4.out⟩
          case measure => simp [intOf]; omega
        · have hjN : i = j := by omega
          subst hjN
          clear hbr hlt
          go_wp2_with fail
          go_ret
          exact ⟨_, _, rfl, HOR.out, HBR.out⟩
theorem eql_nilI (A : Option Addr) (n c : Nat) (w : World) : (binOp .eql 174 (.slice A n c) (.slice none 0 0)).run Tryz.prog w = .ok (.bool A.isNone) w := Lib.run_eql_slice_nil w _ _ A n c 0 0 Tryz.underlying174
theorem litI (w : World) (l : List Int) (hl : l.length ≤ maxLen) : OwnR encI 1 3 (w.alloc (.cells (cellsR encI l).toArray 3)) w.heap.size (.slice (some ⟨w.heap.size, 0, none⟩) l.length l.length) l := OwnR.lit encI_len w l hl
end Go.Proofs.YtldmnkakpmplnaaGreat
namespace Go.Proofs.YtldmnkakpmplnaaGreat
open Go.RowKit
open Pl (Un)
namespace Pl
def lens (N : Int) (P : List Op) : List Int := (List.range (P.length + 1)).map fun i => N + total (P.take i)
theorem len_lens (N : Int) (P : List Op) : (lens N P).length = P.length + 1 := by simp [lens]
theorem lens_at (N : Int) (P : List Op) {i : Nat} (h : i ≤ P.length) : (lens N P).getD i default = N + total (P.take i) := by
  unfold lens
  rw [List.getD_eq_getElem?_getD, List.getElem?_map, List.getElem?_range (by omega)]
  rfl
theorem lens_snoc (N : Int) (P : List Op) (o : Op) : lens N (P ++ [o]) = lens N P ++ [N + total (P ++ [o])] := by
  unfold lens
  rw [List.length_append, List.length_singleton, List.range_succ, List.map_append, List.map_singleton]
  congr 1
  · refine List.map_congr_left fun i hi => ?_
    rw [List.mem_range] at hi
    rw [List.take_append_of_le_length (by omega)]
  · rw [List.take_of_length_le (by simp)]
theorem lens_nil (N : Int) : lens N [] = [N] := by simp [lens, total]
def Small (P : List Op) : Prop := ∀ o ∈ P, o.l.length * 40 ≤ 140737488355328
structure Fine (fr : Nat) (P : List Op) : Prop where
  cnt : P.length ≤ 256
  rev : fr + P.length ≤ 1099511627776
  small : Small P
theorem Small.drop {P : List Op} (h : Small P) (k : Nat) : Small (P.drop k) := fun o ho => h o (List.mem_of_mem_drop ho)
theorem Small.take {P : List Op} (h : Small P) (k : Nat) : Small (P.take k) := fun o ho => h o (List.mem_of_mem_take ho)
theorem Small.snoc {P : List Op} (h : Small P) {o : Op} (ho : o.l.length * 40 ≤ 140737488355328) : Small (P ++ [o]) := fun x hx => by
  rcases List.mem_append.1 hx with hx | hx
  · exact h x hx
  · rw [List.mem_singleton.1 hx]; exact ho
theorem Small.set {P : List Op} (h : Small P) (k : Nat) (b : Bool) : Small (P.set k { P.getD k default with b := b }) := fun x hx => by
  rcases List.mem_or_eq_of_mem_set hx with hm | rfl
  · exact h x hm
  · by_cases hk : k < P.length
    · exact h (P.getD k default) (by rw [List.getD_eq_getElem?_getD, List.getElem?_eq_getElem hk]; exact List.getElem_mem _)
    · rw [List.getD_eq_getElem?_getD, List.getElem?_eq_none (by omega)]; exact Nat.zero_le _
theorem total_set {P : List Op} (k : Nat) (b : Bool) : total (P.set k { P.getD k default with b := b }) = total P := by
  have : (P.set k { P.getD k default with b := b }).map (fun o => growsL o.l) = P.map (fun o => growsL o.l) := by
    refine List.ext_getElem (by simp) fun i h1 h2 => ?_
    simp only [List.getElem_map, List.getElem_set]
    split
    · rename_i h
      subst h
      simp only [List.length_map] at h2
      rw [List.getD_eq_getElem?_getD, List.getElem?_eq_getElem h2]
      rfl
    · rfl
  unfold total
  rw [this]
theorem lens_set (N : Int) (P : List Op) (k : Nat) (b : Bool) : lens N (P.set k { P.getD k default with b := b }) = lens N P := by
  unfold lens
  rw [List.length_set]
  refine List.map_congr_left fun i hi => ?_
  rw [List.take_set]
  by_cases h : k < i
  · have e : P.getD k default = (P.take i).getD k default := by rw [List.getD_eq_getElem?_getD, List.getD_eq_getElem?_getD, List.getElem?_take, if_pos h]
    rw [e, total_set]
  · rw [List.set_eq_of_length_le (by rw [List.length_take]; omega)]
end Pl
theorem Rws.int_at {w : World} {B : Nat} {A : Option Addr} {n c : Nat} {l : List Int} (h : Rws encI w B A n c l) {i : Nat} (hi : i < n) :
    ∃ g o, A = some ⟨g, o, none⟩ ∧ g < B ∧ ∀ i, i < n → w.cell? ⟨g, o + i, none⟩ = some (.int .i64 (l.getD i default)) := by
  obtain ⟨g, o, e, hg, hc⟩ := Rws.at_ encI_len h hi
  refine ⟨g, o, e, hg, fun i hi => ?_⟩
  have := hc i hi 0 _ (by decide) rfl
  rwa [Nat.mul_one, Nat.add_zero] at this
structure PastW (w : World) (p : Nat) (F : Nat → Prop) (fr : Nat) (N : Int) (P : List Pl.Op) (A : Option Addr) (n c : Nat) (B : Option Addr) (m d : Nat) (L : List OpV) : Prop where
  blk : w.heap[p]? = some (.cells #[.int .u64 (fr : Int), .slice A n c, .slice B m d] 176 (0, 0))
  ops : OpsF w F A n c L
  eq : L.map OpV.op = P
  len : Rws encI w w.heap.size B m d (Pl.lens N P)
  inB : In F B m
  no : ¬ F p
  fine : Pl.Fine fr P
def PastAt (w : World) (p : Nat) (F : Nat → Prop) (fr : Nat) (N : Int) (P : List Pl.Op) : Prop := ∃ A n c B m d L, PastW w p F fr N P A n c B m d L
section
variable {w w' : World} {p : Nat} {F G T : Nat → Prop} {fr : Nat} {N : Int} {P : List Pl.Op} {A : Option Addr} {n c : Nat} {B : Option Addr} {m d : Nat} {L : List OpV}
theorem PastW.lt (h : PastW w p F fr N P A n c B m d L) : p < w.heap.size := lt_of_block h.blk
theorem PastW.tn (h : PastW w p F fr N P A n c B m d L) (ht : Tn T w w') (hd : ∀ b, F b → ¬ T b) (hp : ¬ T p) : PastW w' p F fr N P A n c B m d L :=
  ⟨ht.old h.blk hp, h.ops.tn ht hd, h.eq, Rws.tn h.len ht (h.inB.apart hd), h.inB, h.no, h.fine⟩
theorem PastW.then_ (h : PastW w p F fr N P A n c B m d L) (hb : Below w.heap.size w w') : PastW w' p F fr N P A n c B m d L := h.tn (Tn.of (fun _ => False) hb) (fun _ _ h => h) (fun h => h)
theorem PastW.more (h : PastW w p F fr N P A n c B m d L) (hg : ∀ b, F b → G b) (hp : ¬ G p) : PastW w p G fr N P A n c B m d L := ⟨h.blk, h.ops.more hg, h.eq, h.len, h.inB.more hg, hp, h.fine⟩
theorem PastW.n_len (h : PastW w p F fr N P A n c B m d L) : n = P.length := by rw [← h.eq, List.length_map, h.ops.1.len]
theorem PastW.m_len (h : PastW w p F fr N P A n c B m d L) : m = P.length + 1 := by rw [← h.len.len, Pl.len_lens]
theorem PastW.len_L (h : PastW w p F fr N P A n c B m d L) : L.length = P.length := by rw [← h.eq, List.length_map]
theorem PastW.b_some (h : PastW w p F fr N P A n c B m d L) : B.isNone = false := by
  have h1 := h.len.nil_
  have h2 := h.len.le
  have h3 := h.m_len
  cases B with
  | none => have := h1 rfl; omega
  | some a => rfl
theorem PastW.cells (h : PastW w p F fr N P A n c B m d L) : w.cell? ⟨p, 0, none⟩ = some (.int .u64 (fr : Int)) ∧ w.cell? ⟨p, 1, none⟩ = some (.slice A n c) ∧ w.cell? ⟨p, 2, none⟩ = some (.slice B m d) :=
  ⟨cell0 (r := [.slice A n c, .slice B m d]) h.blk, cell1 (r := [.slice B m d]) h.blk, cell2 (r := []) h.blk⟩
theorem PastW.frozen (h : PastW w p F fr N P A n c B m d L) (j : Nat) : w.frozen? ⟨p, j, none⟩ = false := frozen_of_row w p j _ _ h.blk
theorem PastW.getD_ (h : PastW w p F fr N P A n c B m d L) {i : Nat} (hi : i < P.length) : (L.getD i default).op = P.getD i default := by
  rw [← h.eq, List.getD_eq_getElem?_getD, List.getD_eq_getElem?_getD, List.getElem?_map, List.getElem?_eq_getElem (by rw [h.len_L]; exact hi)]
  rfl
theorem PastAt.tn (h : PastAt w p F fr N P) (ht : Tn T w w') (hd : ∀ b, F b → ¬ T b) (hp : ¬ T p) : PastAt w' p F fr N P := by
  obtain ⟨A, n, c, B, m, d, L, h⟩ := h
  exact ⟨A, n, c, B, m, d, L, h.tn ht hd hp⟩
theorem PastAt.then_ (h : PastAt w p F fr N P) (hb : Below w.heap.size w w') : PastAt w' p F fr N P := h.tn (Tn.of (fun _ => False) hb) (fun _ _ h => h) (fun h => h)
theorem PastAt.more (h : PastAt w p F fr N P) (hg : ∀ b, F b → G b) (hp : ¬ G p) : PastAt w p G fr N P := by
  obtain ⟨A, n, c, B, m, d, L, h⟩ := h
  exact ⟨A, n, c, B, m, d, L, h.more hg hp⟩
theorem PastAt.lt (h : PastAt w p F fr N P) : p < w.heap.size := by
  obtain ⟨A, n, c, B, m, d, L, h⟩ := h
  exact h.lt
theorem PastAt.fine (h : PastAt w p F fr N P) : Pl.Fine fr P := by
  obtain ⟨A, n, c, B, m, d, L, h⟩ := h
  exact h.fine
theorem PastAt.no (h : PastAt w p F fr N P) : ¬ F p := by
  obtain ⟨A, n, c, B, m, d, L, h⟩ := h
  exact h.no
theorem PastAt.old (h : PastAt w p F fr N P) : PastAt w p (fun b => F b ∧ b < w.heap.size) fr N P := by
  obtain ⟨A, n, c, B, m, d, L, h⟩ := h
  refine ⟨A, n, c, B, m, d, L, h.blk, ⟨h.ops.1, fun h0 ad e => ⟨h.ops.2.1 h0 ad e, Rws.in_ h.ops.1 h0 ad e⟩, fun o ho => ⟨(h.ops.2.2 o ho).1, fun h0 ad e => ⟨(h.ops.2.2 o ho).2 h0 ad e, Rws.in_ (h.ops.2.2 o ho).1 h0 ad e⟩⟩⟩, h.eq, h.len, fun h0 ad e => ⟨h.inB h0 ad e, Rws.in_ h.len h0 ad e⟩, fun e => h.no e.1, h.fine⟩
end
def NonAt (w : World) (v : Value) : Prop := v = .pointer none ∨ ∃ p, v = .pointer (some ⟨p, 0, none⟩) ∧ w.heap[p]? = some (.cells #[.int .u64 0, .slice none 0 0, .slice none 0 0] 176 (0, 0))
theorem NonAt.then_ {w w' : World} {v : Value} (h : NonAt w v) (hb : Below w.heap.size w w') : NonAt w' v := by
  rcases h with h | ⟨p, h, hp⟩
  · exact .inl h
  · exact .inr ⟨p, h, below_old hb hp (lt_of_block hp)⟩
set_option maxHeartbeats 400000 in
theorem none_past {w : World} {p : Nat} {F : Nat → Prop} {fr : Nat} {N : Int} {P : List Pl.Op} (h : PastAt w p F fr N P) :
    Calls Tryz.prog 143 #[.pointer (some ⟨p, 0, none⟩)] w fun e w' => e = .returned (.bool false) ∧ w' = w := by
  obtain ⟨A, n, c, B, m, d, L, h⟩ := h
  obtain ⟨c0, c1, c2⟩ := h.cells
  have q := eql_nilI B m d
  rw [h.b_some] at q
  clear h
  go_enter Tryz.func143, Tryz.ntmps143
  go_wp2_with fail
  go_ret
  exact ⟨rfl, rfl⟩
set_option maxHeartbeats 400000 in
theorem len_past {w : World} {p : Nat} {F : Nat → Prop} {fr : Nat} {N : Int} {P : List Pl.Op} (h : PastAt w p F fr N P) :
    Calls Tryz.prog 160 #[.pointer (some ⟨p, 0, none⟩)] w fun e w' => e = .returned (.int .i64 (P.length : Int)) ∧ w' = w := by
  have HN := Lib.hid (none_past h)
  obtain ⟨A, n, c, B, m, d, L, h⟩ := h
  obtain ⟨c0, c1, c2⟩ := h.cells
  have HL := Lib.hid h.n_len
  clear h
  go_enter Tryz.func160, Tryz.ntmps160
  go_wp2_with fail
  refine HN.out.mono ?_
  rintro e w' ⟨rfl, rfl⟩
  go_wp2_with fail
  go_ret
  exact ⟨by rw [HL.out]; rfl, rfl⟩
set_option maxHeartbeats 400000 in
theorem from_past {w : World} {p : Nat} {F : Nat → Prop} {fr : Nat} {N : Int} {P : List Pl.Op} (h : PastAt w p F fr N P) :
    Calls Tryz.prog 102 #[.pointer (some ⟨p, 0, none⟩)] w fun e w' => e = .returned (.int .u64 (fr : Int)) ∧ w' = w := by
  have HN := Lib.hid (none_past h)
  obtain ⟨A, n, c, B, m, d, L, h⟩ := h
  obtain ⟨c0, c1, c2⟩ := h.cells
  clear h
  go_enter Tryz.func102, Tryz.ntmps102
  go_wp2_with fail
  refine HN.out.mono ?_
  rintro e w' ⟨rfl, rfl⟩
  go_wp2_with fail
  go_ret
  exact ⟨rfl, rfl⟩
theorem wrap_u64 {a : Int} (h1 : 0 ≤ a) (h2 : a ≤ 18446744073709551615) : IntKind.u64.wrap a = a := by rw [IntKind.wrap_u64]; omega
set_option maxHeartbeats 400000 in
theorem now_past {w : World} {p : Nat} {F : Nat → Prop} {fr : Nat} {N : Int} {P : List Pl.Op} (h : PastAt w p F fr N P) :
    Calls Tryz.prog 83 #[.pointer (some ⟨p, 0, none⟩)] w fun e w' => e = .returned (.int .u64 ((fr + P.length : Nat) : Int)) ∧ w' = w := by
  have HF := Lib.hid (from_past h)
  have HL := Lib.hid (len_past h)
  obtain ⟨k, hk⟩ : ∃ k, k = P.length := ⟨_, rfl⟩
  have hr := h.fine.rev
  rw [← hk] at HL hr ⊢
  clear h hk
  have HR := Lib.hid (show Value.int .u64 ((fr : Int) + (k : Int)) = .int .u64 ((fr + k : Nat) : Int) by rw [Int.natCast_add])
  go_enter Tryz.func83, Tryz.ntmps83
  go_wp2_with fail
  refine HF.out.mono ?_
  rintro e w' ⟨rfl, rfl⟩
  go_wp2_with fail
  refine HL.out.mono ?_
  rintro e w' ⟨rfl, rfl⟩
  go_wp2_with fail
  go_ret
  refine ⟨?_, rfl⟩
  rw [← HR.out]
  first | rfl | (congr 2; omega)
end Go.Proofs.YtldmnkakpmplnaaGreat
namespace Go.Proofs.YtldmnkakpmplnaaGreat
open Go.RowKit
open Pl (Un)
theorem below_drewN (w : World) (n : Nat) : Below w.heap.size w (w.drewN n) := ⟨rfl, rfl, rfl, Nat.le_refl _, fun _ _ => rfl⟩
theorem made_past (w : World) (fr : Nat) (n : Int) (hf : fr ≤ 1099511627776) :
    PastAt ((w.alloc (.cells #[.int .i64 n] 3)).alloc (.cells #[.int .u64 (fr : Int), .slice none 0 0, .slice (some ⟨w.heap.size, 0, none⟩) 1 1] 176)) (w.heap.size + 1) (fun b => b ≠ w.heap.size + 1) fr n [] := by
  have h1 : OwnR encI 1 3 (w.alloc (.cells #[.int .i64 n] 3)) w.heap.size (.slice (some ⟨w.heap.size, 0, none⟩) 1 1) [n] := litI w [n] (by simp [maxLen])
  have h2 := (h1.alloc (.cells #[.int .u64 (fr : Int), .slice none 0 0, .slice (some ⟨w.heap.size, 0, none⟩) 1 1] 176)).rws encI_len
  refine ⟨none, 0, 0, some ⟨w.heap.size, 0, none⟩, 1, 1, [], ?_, OpsF.none_ _ _, rfl, ?_, ?_, fun h => h rfl, ⟨by simp, by simpa using hf, fun o ho => by cases ho⟩⟩
  · exact heap_new (by simp)
  · rw [Pl.lens_nil]; exact h2.2
  · intro _ ad e
    cases e
    exact Nat.ne_of_lt (Nat.lt_succ_self _)
set_option maxHeartbeats 400000 in
theorem new_any (fr : Nat) (n : Int) (w : World) (hf : fr ≤ 1099511627776) (hn : 0 ≤ n) :
    Calls Tryz.prog 46 #[.int .u64 (fr : Int), .int .i64 n] w fun e w' => e = .returned (.tuple #[.pointer (some ⟨w.heap.size + 1, 0, none⟩), .int .i64 0]) ∧ PastAt w' (w.heap.size + 1) (fun b => b ≠ w.heap.size + 1) fr n [] ∧ Below w.heap.size w w' := by
  have HM := Lib.hid (made_past w fr n hf)
  have z0 : decide ((fr : Int) > 1099511627776) = false := decide_eq_false (by omega)
  have z1 : decide (1099511627776 < (fr : Int)) = false := decide_eq_false (by omega)
  have z2 : decide (n < 0) = false := decide_eq_false (by omega)
  clear hf hn
  go_enter Tryz.func46, Tryz.ntmps46
  go_wp2_with fail
  go_returns
  exact ⟨rfl, HM.out, below_alloc (below_box _ _) _⟩
def PlaceF (w : World) (v : Option Addr) (least : Int) (f : Value) : Prop :=
  ∃ a b, f = .func (.func 213) #[] #[.pointer (some ⟨a, 0, none⟩), .pointer (some ⟨b, 0, none⟩)] ∧ w.heap[a]? = some (.cells #[.pointer v] 88 (0, 0)) ∧ w.heap[b]? = some (.cells #[.int .u64 least] 27 (0, 0))
set_option maxHeartbeats 400000 in
theorem places_any (v : Option Addr) (least : Int) (w : World) :
    Calls Tryz.prog 156 #[.pointer v, .int .u64 least] w fun e w' => (∃ f, e = .returned f ∧ PlaceF w' v least f) ∧ Below w.heap.size w w' := by
  go_enter Tryz.func156, Tryz.ntmps156
  go_wp2_with fail
  go_ret
  refine ⟨⟨_, rfl, w.heap.size, w.heap.size + 1, rfl, ?_, heap_new (by simp)⟩, below_alloc (below_box _ _) _⟩
  exact below_old (w := w.alloc (.cells #[.pointer v] 88)) (below_box _ _) (heap_new rfl) (by simp)
namespace Pl
def place (fr len : Nat) (least rev : Nat) : Int × Int := if rev > fr + len then (0, 31) else if rev < fr + least then (0, 32) else ((rev : Int) - fr, 0)
end Pl
set_option maxHeartbeats 400000 in
theorem place_past {w : World} {p : Nat} {F : Nat → Prop} {fr : Nat} {N : Int} {P : List Pl.Op} (h : PastAt w p F fr N P) (least rev : Nat) (hl : least ≤ 1) (hv : rev ≤ 18446744073709551615) (a b : Nat)
    (ha : w.heap[a]? = some (.cells #[.pointer (some ⟨p, 0, none⟩)] 88 (0, 0))) (hb : w.heap[b]? = some (.cells #[.int .u64 (least : Int)] 27 (0, 0))) :
    Calls Tryz.prog 213 #[.int .u64 (rev : Int), .pointer (some ⟨a, 0, none⟩), .pointer (some ⟨b, 0, none⟩)] w fun e w' => e = .returned (.tuple #[.int .i64 (Pl.place fr P.length least rev).1, .int .i64 (Pl.place fr P.length least rev).2]) ∧ Below w.heap.size w w' := by
  have HN := Lib.hid (none_past h)
  have HW := Lib.hid (now_past h)
  have hr := h.fine.rev
  have hc := h.fine.cnt
  obtain ⟨A, n, c, B, m, d, L, h⟩ := h
  obtain ⟨c0, c1, c2⟩ := h.cells
  have ca := cell0 (r := []) ha
  have cb := cell0 (r := []) hb
  obtain ⟨k, hk⟩ : ∃ k, k = P.length := ⟨_, rfl⟩
  rw [← hk] at HW hr hc ⊢
  obtain ⟨nw, hnw⟩ : ∃ nw, nw = fr + k := ⟨_, rfl⟩
  rw [← hnw] at HW hr
  have hfn : fr ≤ nw := by omega
  obtain ⟨ra, hra⟩ : ∃ r, r = (Pl.place fr k least rev).1 := ⟨_, rfl⟩
  obtain ⟨rb, hrb⟩ : ∃ r, r = (Pl.place fr k least rev).2 := ⟨_, rfl⟩
  rw [← hra, ← hrb]
  unfold Pl.place at hra hrb
  rw [← hnw] at hra hrb
  clear h ha hb hk hnw
  by_cases h1 : rev > nw
  · rw [if_pos h1] at hra hrb
    have HE := Lib.hid (And.intro hra hrb)
    clear hra hrb
    have z1 : decide (nw < rev) = true := decide_eq_true (by omega)
    clear h1 hl hv hr hc
    go_enter Tryz.func213, Tryz.ntmps213
    go_wp2_with fail
    refine HN.out.mono ?_
    rintro e w' ⟨rfl, rfl⟩
    go_wp2_with fail
    refine HW.out.mono ?_
    rintro e w' ⟨rfl, rfl⟩
    go_wp2_with fail
    go_returns
    exact ⟨by rw [HE.out.1, HE.out.2]; rfl, Below.refl _ _⟩
  · have z1 : decide (nw < rev) = false := decide_eq_false (by omega)
    have hw : IntKind.u64.wrap ((fr : Int) + (least : Int)) = (fr : Int) + (least : Int) := wrap_u64 (by omega) (by omega)
    by_cases h2 : rev < fr + least
    · rw [if_neg h1, if_pos h2] at hra hrb
      have HE := Lib.hid (And.intro hra hrb)
      clear hra hrb
      have z2 : decide ((rev : Int) < (fr : Int) + (least : Int)) = true := decide_eq_true (by omega)
      clear h1 h2 hl hc
      go_enter Tryz.func213, Tryz.ntmps213
      go_wp2_with fail
      refine HN.out.mono ?_
      rintro e w' ⟨rfl, rfl⟩
      go_wp2_with fail
      refine HW.out.mono ?_
      rintro e w' ⟨rfl, rfl⟩
      go_wp2_with fail
      go_quiet (fail)
      go_wp2_with fail
      go_returns
      exact ⟨by rw [HE.out.1, HE.out.2]; rfl, below_drewN _ _⟩
    · rw [if_neg h1, if_neg h2] at hra hrb
      have hw3 : wrap64 ((rev : Int) - (fr : Int)) = (rev : Int) - (fr : Int) := by unfold wrap64; omega
      have HE := Lib.hid (And.intro (hra.trans hw3.symm) hrb)
      clear hra hrb hw3
      have z2 : decide ((rev : Int) < (fr : Int) + (least : Int)) = false := decide_eq_false (by omega)
      have hw2 : IntKind.u64.wrap ((rev : Int) - (fr : Int)) = (rev : Int) - (fr : Int) := wrap_u64 (by omega) (by omega)
      clear h1 h2 hl
      go_enter Tryz.func213, Tryz.ntmps213
      go_wp2_with fail
      refine HN.out.mono ?_
      rintro e w' ⟨rfl, rfl⟩
      go_wp2_with fail
      refine HW.out.mono ?_
      rintro e w' ⟨rfl, rfl⟩
      go_wp2_with fail
      go_quiet (fail)
      go_wp2_with fail
      go_returns
      exact ⟨by rw [HE.out.1, HE.out.2]; rfl, below_drewN _ _⟩
end Go.Proofs.YtldmnkakpmplnaaGreat
