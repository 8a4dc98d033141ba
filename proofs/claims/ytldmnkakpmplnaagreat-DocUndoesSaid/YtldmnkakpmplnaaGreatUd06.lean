/-
  Contracts of slices.Clone, slices.Equal, slices.Index, the document's Own and Same, at code points and at rows of units. No conditions but those that each states.
  Two units that fit a text, in plain words: both ways make one text, and each fits where it comes. Conditions: those that each states.
-/
import Derived.Test.YtldmnkakpmplnaaGreatUd04
import Derived.Test.YtldmnkakpmplnaaGreatUd05
import Derived.Test.YtldmnkakpmplnaaGreatUd01
import Derived.Deep.RegionHeld3
import Derived.Lib.SlBytesConst
set_option maxRecDepth 100000
namespace Go.Proofs.YtldmnkakpmplnaaGreat
open Go.RowKit
open Pl (Un)
theorem OwnC.then_ {w w' : World} {base : Nat} {v : Value} {cs : List Int} (h : OwnC w base v cs) (hb : Below w.heap.size w w') : OwnC w' base v cs := h.below hb fun g hg => (h.lt g hg).2
theorem eqlC_nil (A : Option Addr) (n c : Nat) (w : World) : (binOp .eql 33 (.slice A n c) (.slice none 0 0)).run Tryz.prog w = .ok (.bool A.isNone) w := Lib.run_eql_slice_nil w _ _ A n c 0 0 Tryz.underlying33
def RetC (w : World) (cs : List Int) (e : Ending) (w' : World) : Prop := ∃ A c, e = .returned (.slice A cs.length c) ∧ OwnC w' w.heap.size (.slice A cs.length c) cs ∧ Below w.heap.size w w'
set_option maxHeartbeats 400000 in
theorem cloneC_any (A : Option Addr) (n c : Nat) (cs : List Int) (w : World) (h1 : Crs w w.heap.size A n c cs) (hr : n * 4 ≤ 140737488355328) :
    Calls Tryz.prog 103 #[.slice A n c] w (RetC w cs) := by
  cases A with
  | none =>
    have hc : c = 0 := h1.nil_ rfl
    have hn : n = 0 := by have := h1.le; omega
    subst hc hn
    obtain rfl : cs = [] := List.eq_nil_of_length_eq_zero h1.len
    have q := eqlC_nil none 0 0
    go_enter Tryz.func103, Tryz.ntmps103
    go_wp2
    go_ret
    exact ⟨none, 0, rfl, OwnC.nil_ _ _, Below.refl _ _⟩
  | some ad =>
    have q := eqlC_nil (some ad) n c
    have hb1 : Below w.heap.size w (w.alloc (.cells #[] 41)) := (Below.refl _ _).alloc (Nat.le_refl _) _
    have HB := Lib.hid (h1.below hb1 (Nat.le_refl _))
    have HV := Lib.hid (show OwnC (w.alloc (.cells #[] 41)) w.heap.size (.slice (some ⟨w.heap.size, 0, none⟩) 0 0) [] from crs_lit w [] (fun x hx => by cases hx) (by simp))
    have HL := Lib.hid h1.len
    have HB1 := Lib.hid hb1
    clear h1 hb1
    go_enter Tryz.func103, Tryz.ntmps103
    go_wp2_with (at_builtin; refine wpList_append_crs (w.alloc (.cells #[] 41)) rfl (.tmp 5) (.tmp 6) rfl w.heap.size _ _ _ [] (by rfl) HV.out w.heap.size _ _ _ cs (by rfl) HB.out (by omega) (by simp) ?_)
    intro A2 c2 w2 hV2 hg2 hx2
    have hb2 := below_appendC HV.out hg2 HB1.out (by simp)
    clear hx2 hg2
    have hV2 : OwnC w2 w.heap.size (.slice A2 n c2) cs := by simpa using hV2
    have H2 := Lib.hid (And.intro hV2 hb2)
    clear hV2 hb2
    go_wp2
    go_ret
    refine ⟨A2, c2, ?_, ?_, H2.out.2⟩
    · rw [HL.out]; simp
    · rw [HL.out]; exact H2.out.1
theorem eqlU_nil (A : Option Addr) (n c : Nat) (w : World) : (binOp .eql 29 (.slice A n c) (.slice none 0 0)).run Tryz.prog w = .ok (.bool A.isNone) w := Lib.run_eql_slice_nil w _ _ A n c 0 0 Tryz.underlying29
def RetU (w : World) (l : List Un) (e : Ending) (w' : World) : Prop := ∃ A c, e = .returned (.slice A l.length c) ∧ OwnU w' w.heap.size (.slice A l.length c) l ∧ Below w.heap.size w w'
theorem units_lit (w : World) (l : List Un) (hl : l.length ≤ maxLen) : OwnU (w.alloc (.cells (cellsR encU l).toArray 47)) w.heap.size (.slice (some ⟨w.heap.size, 0, none⟩) l.length l.length) l := OwnR.lit encU_len w l hl
theorem OwnU.uns {w : World} {base n c : Nat} {A : Option Addr} {l : List Un} (h : OwnU w base (.slice A n c) l) : Uns w w.heap.size A n c l := (OwnR.rws encU_len h).2
theorem OwnU.len {w : World} {base n c : Nat} {A : Option Addr} {l : List Un} (h : OwnU w base (.slice A n c) l) : n = l.length := (OwnR.rws encU_len h).1
set_option maxHeartbeats 400000 in
theorem cloneU_any (A : Option Addr) (n c : Nat) (l : List Un) (w : World) (h1 : Uns w w.heap.size A n c l) (hr : n ≤ 1000) :
    Calls Tryz.prog 164 #[.slice A n c] w (RetU w l) := by
  cases A with
  | none =>
    have hc : c = 0 := h1.nil_ rfl
    have hn : n = 0 := by have := h1.le; omega
    subst hc hn
    obtain rfl : l = [] := List.eq_nil_of_length_eq_zero h1.len
    have q := eqlU_nil none 0 0
    go_enter Tryz.func164, Tryz.ntmps164
    go_wp2_with fail
    go_ret
    exact ⟨none, 0, rfl, OwnR.nil_ _ _ _ _ _, Below.refl _ _⟩
  | some ad =>
    have q := eqlU_nil (some ad) n c
    have hb1 : Below w.heap.size w (w.alloc (.cells #[] 47)) := (Below.refl _ _).alloc (Nat.le_refl _) _
    have HB := Lib.hid (h1.below hb1 (Nat.le_refl _))
    have HV := Lib.hid (show OwnU (w.alloc (.cells #[] 47)) w.heap.size (.slice (some ⟨w.heap.size, 0, none⟩) 0 0) [] from units_lit w [] (by simp))
    have HL := Lib.hid h1.len
    have HB1 := Lib.hid hb1
    clear h1 hb1
    go_enter Tryz.func164, Tryz.ntmps164
    go_wp2_with (at_builtin; refine wpList_append_rws encU_len encU_one Tryz.underlying29 infoUn (by decide) (by decide) (w.alloc (.cells #[] 47)) rfl (.tmp 5) (.tmp 6) rfl w.heap.size _ _ _ [] (by rfl) HV.out w.heap.size _ _ _ l (by rfl) HB.out (by unfold maxLen; omega) (by omega) (by simp) ?_)
    intro A2 c2 w2 hV2 hg2 hx2
    have hb2 := OwnR.grownBelow HV.out hg2 HB1.out (by simp)
    clear hx2 hg2
    have hV2 : OwnU w2 w.heap.size (.slice A2 n c2) l := by simpa using hV2
    have H2 := Lib.hid (And.intro hV2 hb2)
    clear hV2 hb2
    go_wp2_with fail
    go_ret
    refine ⟨A2, c2, ?_, ?_, H2.out.2⟩
    · rw [HL.out]; simp
    · rw [HL.out]; exact H2.out.1
def SRel (w : World) (n : Nat) (xs bs : List Int) (i : Value) (wr : World) : Prop := ∃ j : Nat, i = .int .i64 (j : Int) ∧ j ≤ n ∧ Below w.heap.size w wr ∧ ∀ t, t < j → xs.getD t 0 = bs.getD t 0
theorem ext_getD {xs bs : List Int} (hl : xs.length = bs.length) (h : ∀ t, t < xs.length → xs.getD t 0 = bs.getD t 0) : xs = bs := by
  refine List.ext_getElem hl fun i h1 h2 => ?_
  have := h i h1
  rwa [List.getD_eq_getElem?_getD, List.getD_eq_getElem?_getD, List.getElem?_eq_getElem h1, List.getElem?_eq_getElem h2] at this
set_option maxHeartbeats 400000 in
theorem sameC_any (A A' : Option Addr) (n c m c' : Nat) (xs bs : List Int) (w : World) (h1 : Crs w w.heap.size A n c xs) (h2 : Crs w w.heap.size A' m c' bs) :
    Calls Tryz.prog 24 #[.slice A n c, .slice A' m c'] w fun e w' => e = .returned (.bool (decide (xs = bs))) ∧ Below w.heap.size w w' := by
  have hcap1 := h1.cap
  have hle1 := h1.le
  have hcap2 := h2.cap
  have hle2 := h2.le
  unfold maxLen at hcap1 hcap2
  have HL1 := Lib.hid h1.len
  have HL2 := Lib.hid h2.len
  by_cases hnm : n = m
  · subst hnm
    have H1 := Lib.hid h1
    have H2 := Lib.hid h2
    clear h1 h2
    go_enter Tryz.func24, Tryz.ntmps24
    go_wp2_with fail
    go_loopw [5] (fun i wr => SRel w n xs bs i wr) (fun i _ => n - (intOf i).toNat)
    case atStart => exact ⟨0, rfl, Nat.zero_le _, Below.refl _ _, fun t ht => by omega⟩
    case round =>
      obtain ⟨j, rfl, hj, hb, hs⟩ := hrel
      have HB := Lib.hid hb
      have HS := Lib.hid hs
      clear hb hs
      by_cases hlt : j < n
      · obtain ⟨g1, o1, rfl, hg1, hc1⟩ := (H1.out.below HB.out (Nat.le_refl _)).at_ hlt
        obtain ⟨g2, o2, rfl, hg2, hc2⟩ := (H2.out.below HB.out (Nat.le_refl _)).at_ hlt
        have a1 := hc1 j hlt
        have a2 := hc2 j hlt
        have HNX := Lib.hid (show xs.getD j 0 = bs.getD j 0 → ∀ t, t < j + 1 → xs.getD t 0 = bs.getD t 0 from fun h t ht => by
          rcases Nat.lt_or_ge t j with h1 | h1
          · exact HS.out t h1
          · obtain rfl : t = j := by omega
            exact h)
        have HNE := Lib.hid (show xs.getD j 0 ≠ bs.getD j 0 → xs ≠ bs from fun h e => h (by rw [e]))
        clear hc1 hc2
        obtain ⟨x, hx⟩ : ∃ x, x = xs.getD j 0 := ⟨_, rfl⟩
        obtain ⟨y, hy⟩ : ∃ y, y = bs.getD j 0 := ⟨_, rfl⟩
        rw [← hx] at a1 HNX HNE
        rw [← hy] at a2 HNX HNE
        clear hx hy
        have z0 : (0 : Int) ≤ (j : Int) := by omega
        have z1 : (j : Int) < (n : Int) := by omega
        by_cases hxy : x = y
        · subst hxy
          have HN2 := Lib.hid (HNX.out rfl)
          go_wp2_with fail
          go_region_held3 (fun w' => w'.cell? ⟨g1, o1 + j, none⟩ = some (.int .i32 x) ∧ w'.cell? ⟨g2, o2 + j, none⟩ = some (.int .i32 x)) (go_keep) (fail)
          go_wp2_with fail
          go_roundw
          case rel => exact ⟨j + 1, by go_num, by omega, below_drawn HB.out, HN2.out⟩
          case measure => simp [intOf]; omega
        · have HN2 := Lib.hid (HNE.out hxy)
          have hbne : (x != y) = true := by rw [bne_iff_ne]; exact hxy
          go_wp2_with fail
          go_region_held3 (fun w' => w'.cell? ⟨g1, o1 + j, none⟩ = some (.int .i32 x) ∧ w'.cell? ⟨g2, o2 + j, none⟩ = some (.int .i32 y)) (go_keep) (fail)
          go_wp2_with fail
          go_ret
          exact ⟨ret_bool (decide_eq_false HN2.out).symm, below_drawn HB.out⟩
      · have hjn : j = n := by omega
        have HE := Lib.hid (show xs = bs from ext_getD (HL1.out.trans HL2.out.symm) (fun t ht => HS.out t (by have := HL1.out; omega)))
        clear hjn
        go_wp2_with fail
        go_ret
        exact ⟨ret_bool (decide_eq_true HE.out).symm, HB.out⟩
  · have HN := Lib.hid (show xs ≠ bs from fun e => hnm (by rw [← HL1.out, ← HL2.out, e]))
    have hb : ((n : Int) != (m : Int)) = true := by rw [bne_iff_ne]; omega
    clear h1 h2
    go_enter Tryz.func24, Tryz.ntmps24
    go_wp2_with fail
    go_ret
    exact ⟨ret_bool (decide_eq_false HN.out).symm, Below.refl _ _⟩
set_option maxHeartbeats 400000 in
theorem equalC_any (A A' : Option Addr) (n c m c' : Nat) (xs bs : List Int) (w : World) (h1 : Crs w w.heap.size A n c xs) (h2 : Crs w w.heap.size A' m c' bs) :
    Calls Tryz.prog 31 #[.slice A n c, .slice A' m c'] w fun e w' => e = .returned (.bool (decide (xs = bs))) ∧ Below w.heap.size w w' := by
  have hcap1 := h1.cap
  have hle1 := h1.le
  have hcap2 := h2.cap
  have hle2 := h2.le
  unfold maxLen at hcap1 hcap2
  have HL1 := Lib.hid h1.len
  have HL2 := Lib.hid h2.len
  by_cases hnm : n = m
  · subst hnm
    have H1 := Lib.hid h1
    have H2 := Lib.hid h2
    clear h1 h2
    go_enter Tryz.func31, Tryz.ntmps31
    go_wp2_with fail
    go_loopw [13] (fun i wr => SRel w n xs bs i wr) (fun i _ => n - (intOf i).toNat)
    case atStart => exact ⟨0, rfl, Nat.zero_le _, Below.refl _ _, fun t ht => by omega⟩
    case round =>
      obtain ⟨j, rfl, hj, hb, hs⟩ := hrel
      have HB := Lib.hid hb
      have HS := Lib.hid hs
      clear hb hs
      by_cases hlt : j < n
      · obtain ⟨g1, o1, rfl, hg1, hc1⟩ := (H1.out.below HB.out (Nat.le_refl _)).at_ hlt
        obtain ⟨g2, o2, rfl, hg2, hc2⟩ := (H2.out.below HB.out (Nat.le_refl _)).at_ hlt
        have a1 := hc1 j hlt
        have a2 := hc2 j hlt
        have HNX := Lib.hid (show xs.getD j 0 = bs.getD j 0 → ∀ t, t < j + 1 → xs.getD t 0 = bs.getD t 0 from fun h t ht => by
          rcases Nat.lt_or_ge t j with h1 | h1
          · exact HS.out t h1
          · obtain rfl : t = j := by omega
            exact h)
        have HNE := Lib.hid (show xs.getD j 0 ≠ bs.getD j 0 → xs ≠ bs from fun h e => h (by rw [e]))
        clear hc1 hc2
        obtain ⟨x, hx⟩ : ∃ x, x = xs.getD j 0 := ⟨_, rfl⟩
        obtain ⟨y, hy⟩ : ∃ y, y = bs.getD j 0 := ⟨_, rfl⟩
        rw [← hx] at a1 HNX HNE
        rw [← hy] at a2 HNX HNE
        clear hx hy
        have z0 : (0 : Int) ≤ (j : Int) := by omega
        have z1 : (j : Int) < (n : Int) := by omega
        by_cases hxy : x = y
        · subst hxy
          have HN2 := Lib.hid (HNX.out rfl)
          go_wp2_with fail
          go_region_held3 (fun w' => w'.cell? ⟨g1, o1 + j, none⟩ = some (.int .i32 x) ∧ w'.cell? ⟨g2, o2 + j, none⟩ = some (.int .i32 x)) (go_keep) (fail)
          go_wp2_with fail
          go_roundw
          case rel => exact ⟨j + 1, by go_num, by omega, below_drawn HB.out, HN2.out⟩
          case measure => simp [intOf]; omega
        · have HN2 := Lib.hid (HNE.out hxy)
          have hbne : (x != y) = true := by rw [bne_iff_ne]; exact hxy
          go_wp2_with fail
          go_region_held3 (fun w' => w'.cell? ⟨g1, o1 + j, none⟩ = some (.int .i32 x) ∧ w'.cell? ⟨g2, o2 + j, none⟩ = some (.int .i32 y)) (go_keep) (fail)
          go_wp2_with fail
          go_ret
          exact ⟨ret_bool (decide_eq_false HN2.out).symm, below_drawn HB.out⟩
      · have hjn : j = n := by omega
        have HE := Lib.hid (show xs = bs from ext_getD (HL1.out.trans HL2.out.symm) (fun t ht => HS.out t (by have := HL1.out; omega)))
        clear hjn
        go_wp2_with fail
        go_ret
        exact ⟨ret_bool (decide_eq_true HE.out).symm, HB.out⟩
  · have HN := Lib.hid (show xs ≠ bs from fun e => hnm (by rw [← HL1.out, ← HL2.out, e]))
    have hb : ((n : Int) != (m : Int)) = true := by rw [bne_iff_ne]; omega
    clear h1 h2
    go_enter Tryz.func31, Tryz.ntmps31
    go_wp2_with fail
    go_ret
    exact ⟨ret_bool (decide_eq_false HN.out).symm, Below.refl _ _⟩
end Go.Proofs.YtldmnkakpmplnaaGreat
namespace Go.Proofs.YtldmnkakpmplnaaGreat
open Go.RowKit
open Pl (Un)
namespace Pl
def insL (p : Nat) (c : Int) (l : List Int) : List Int := l.take p ++ c :: l.drop p
def delL (p : Nat) (l : List Int) : List Int := l.take p ++ l.drop (p + 1)
theorem len_insL {p : Nat} {c : Int} {l : List Int} (h : p ≤ l.length) : (insL p c l).length = l.length + 1 := by
  unfold insL; simp; omega
theorem len_delL {p : Nat} {l : List Int} (h : p < l.length) : (delL p l).length + 1 = l.length := by
  unfold delL; simp; omega
theorem get_insL {p i : Nat} {c : Int} {l : List Int} (h : p ≤ l.length) : (insL p c l)[i]? = if i < p then l[i]? else if i = p then some c else l[i - 1]? := by
  unfold insL
  have hl : (l.take p).length = p := by simp; omega
  by_cases h1 : i < p
  · rw [if_pos h1, List.getElem?_append_left (by omega), List.getElem?_take, if_pos h1]
  · rw [if_neg h1, List.getElem?_append_right (by omega), hl]
    by_cases h2 : i = p
    · rw [if_pos h2, h2, Nat.sub_self]; rfl
    · rw [if_neg h2, show i - p = (i - p - 1) + 1 by omega, List.getElem?_cons_succ, List.getElem?_drop, show p + (i - p - 1) = i - 1 by omega]
theorem get_delL {p i : Nat} {l : List Int} (h : p ≤ l.length) : (delL p l)[i]? = if i < p then l[i]? else l[i + 1]? := by
  unfold delL
  have hl : (l.take p).length = p := by simp; omega
  by_cases h1 : i < p
  · rw [if_pos h1, List.getElem?_append_left (by omega), List.getElem?_take, if_pos h1]
  · rw [if_neg h1, List.getElem?_append_right (by omega), hl, List.getElem?_drop, show p + 1 + (i - p) = i + 1 by omega]
theorem ins_ins {p q : Nat} {c d : Int} {l : List Int} (h : p ≤ q) (hq : q ≤ l.length) : insL (q + 1) d (insL p c l) = insL p c (insL q d l) := by
  apply List.ext_getElem?
  intro i
  have h1 : (insL p c l).length = l.length + 1 := len_insL (by omega)
  have h2 : (insL q d l).length = l.length + 1 := len_insL hq
  have f1 : q + 1 ≤ (insL p c l).length := by omega
  have f2 : p ≤ l.length := by omega
  have f3 : p ≤ (insL q d l).length := by omega
  simp only [get_insL f1, get_insL f2, get_insL f3, get_insL hq]
  by_cases a1 : i < p
  · simp only [show i < q + 1 by omega, a1, show i < q by omega, if_true]
  · by_cases a2 : i = p
    · subst a2; simp only [show i < q + 1 by omega, Nat.lt_irrefl, if_true, if_false]
    · by_cases a3 : i < q + 1
      · simp only [a3, a1, a2, show i - 1 < q by omega, if_true, if_false]
      · by_cases a4 : i = q + 1
        · subst a4; simp only [Nat.lt_irrefl, a1, a2, Nat.add_sub_cancel, if_true, if_false]
        · simp only [a3, a4, a1, a2, show ¬ i - 1 < p by omega, show ¬ i - 1 = p by omega, show ¬ i - 1 < q by omega, show ¬ i - 1 = q by omega, if_false]
theorem ins_del {p q : Nat} {c : Int} {l : List Int} (h : p ≤ q) (hq : q < l.length) : delL (q + 1) (insL p c l) = insL p c (delL q l) := by
  apply List.ext_getElem?
  intro i
  have h1 : (insL p c l).length = l.length + 1 := len_insL (by omega)
  have h2 : (delL q l).length + 1 = l.length := len_delL hq
  have f1 : q + 1 ≤ (insL p c l).length := by omega
  have f2 : p ≤ l.length := by omega
  have f3 : p ≤ (delL q l).length := by omega
  have f4 : q ≤ l.length := by omega
  simp only [get_delL f1, get_insL f2, get_insL f3, get_delL f4]
  by_cases a1 : i < p
  · simp only [show i < q + 1 by omega, a1, show i < q by omega, if_true]
  · by_cases a2 : i = p
    · subst a2; simp only [show i < q + 1 by omega, Nat.lt_irrefl, if_true, if_false]
    · by_cases a3 : i < q + 1
      · simp only [a3, a1, a2, show i - 1 < q by omega, if_true, if_false]
      · simp only [a3, a1, a2, show ¬ i + 1 < p by omega, show ¬ i + 1 = p by omega, show ¬ i - 1 < q by omega, show i + 1 - 1 = i by omega, show i - 1 + 1 = i by omega, if_false]
theorem del_ins {p q : Nat} {c : Int} {l : List Int} (h : q < p) (hp : p ≤ l.length) : delL q (insL p c l) = insL (p - 1) c (delL q l) := by
  apply List.ext_getElem?
  intro i
  have h1 : (insL p c l).length = l.length + 1 := len_insL (by omega)
  have h2 : (delL q l).length + 1 = l.length := len_delL (by omega)
  have f1 : q ≤ (insL p c l).length := by omega
  have f3 : p - 1 ≤ (delL q l).length := by omega
  have f4 : q ≤ l.length := by omega
  simp only [get_delL f1, get_insL hp, get_insL f3, get_delL f4]
  by_cases a1 : i < q
  · simp only [a1, show i < p by omega, show i < p - 1 by omega, if_true]
  · by_cases a2 : i + 1 < p
    · simp only [a1, a2, show i < p - 1 by omega, if_true, if_false]
    · by_cases a3 : i + 1 = p
      · subst a3; simp only [a1, Nat.lt_irrefl, Nat.add_sub_cancel, if_true, if_false]
      · simp only [a1, a2, a3, show ¬ i < p - 1 by omega, show ¬ i = p - 1 by omega, show ¬ i - 1 < q by omega, show i + 1 - 1 = i by omega, show i - 1 + 1 = i by omega, if_false]
theorem del_del {p q : Nat} {l : List Int} (h : p < q) (hq : q < l.length) : delL (q - 1) (delL p l) = delL p (delL q l) := by
  apply List.ext_getElem?
  intro i
  have h1 : (delL p l).length + 1 = l.length := len_delL (by omega)
  have h2 : (delL q l).length + 1 = l.length := len_delL hq
  have f1 : q - 1 ≤ (delL p l).length := by omega
  have f2 : p ≤ l.length := by omega
  have f3 : p ≤ (delL q l).length := by omega
  have f4 : q ≤ l.length := by omega
  simp only [get_delL f1, get_delL f2, get_delL f3, get_delL f4]
  by_cases a1 : i < p
  · simp only [a1, show i < q - 1 by omega, show i < q by omega, if_true]
  · by_cases a2 : i + 1 < q
    · simp only [a1, a2, show i < q - 1 by omega, if_true, if_false]
    · simp only [a1, a2, show ¬ i < q - 1 by omega, show ¬ i + 1 < p by omega, if_false]
theorem del_back {p : Nat} {c : Int} {l : List Int} (hp : p ≤ l.length) : delL p (insL p c l) = l := by
  apply List.ext_getElem?
  intro i
  have h1 : (insL p c l).length = l.length + 1 := len_insL hp
  have f1 : p ≤ (insL p c l).length := by omega
  simp only [get_delL f1, get_insL hp]
  by_cases a1 : i < p
  · simp only [a1, if_true]
  · simp only [a1, show ¬ i + 1 < p by omega, show ¬ i + 1 = p by omega, show i + 1 - 1 = i by omega, if_false]
theorem behind_ins (p : Nat) (c x y : Int) (l : List Int) : behind ⟨1, (p : Int), c, x, y⟩ l = insL p c l := by unfold behind insL; simp
theorem behind_del (p : Nat) (c x y : Int) (l : List Int) : behind ⟨2, (p : Int), c, x, y⟩ l = delL p l := by unfold behind delL; simp
theorem behind_nop (p c x y : Int) (l : List Int) : behind ⟨0, p, c, x, y⟩ l = l := by unfold behind; simp
theorem fit_cases {u : Un} {n : Nat} (h : Fit u n) : (∃ x y, u = ⟨0, 0, 0, x, y⟩) ∨ (∃ (p : Nat) (c x y : Int), u = ⟨1, (p : Int), c, x, y⟩ ∧ p ≤ n ∧ May c) ∨ ∃ (p : Nat) (c x y : Int), u = ⟨2, (p : Int), c, x, y⟩ ∧ p < n ∧ May c := by
  obtain ⟨k, p, c, x, y⟩ := u
  obtain ⟨h1, h2, h3⟩ := h
  rcases h1 with ⟨e1, e2, e3⟩ | ⟨e1, e2, e3⟩
  · simp only at e1 e2 e3
    subst e1 e2 e3
    exact Or.inl ⟨x, y, rfl⟩
  · simp only at e1 e2 e3 h2 h3
    obtain ⟨q, rfl⟩ : ∃ q : Nat, p = (q : Int) := ⟨p.toNat, by omega⟩
    rcases e1 with rfl | rfl
    · exact Or.inr (Or.inl ⟨q, c, x, y, rfl, by have := h2 rfl; omega, e3⟩)
    · exact Or.inr (Or.inr ⟨q, c, x, y, rfl, by have := h3 rfl; omega, e3⟩)
theorem fit_nop (x y : Int) (n : Int) : Fit ⟨0, 0, 0, x, y⟩ n := ⟨Or.inl ⟨rfl, rfl, rfl⟩, (fun h => by cases h), (fun h => by cases h)⟩
theorem fit_ins {p n : Nat} {c : Int} (x y : Int) (h : p ≤ n) (hc : May c) : Fit ⟨1, (p : Int), c, x, y⟩ n := ⟨Or.inr ⟨Or.inl rfl, (by simp only; omega), hc⟩, (fun _ => by simp only; omega), (fun h => by cases h)⟩
theorem fit_del {p n : Nat} {c : Int} (x y : Int) (h : p < n) (hc : May c) : Fit ⟨2, (p : Int), c, x, y⟩ n := ⟨Or.inr ⟨Or.inr rfl, (by simp only; omega), hc⟩, (fun h => by cases h), (fun _ => by simp only; omega)⟩
theorem over_nop_left (b : Un) (x y : Int) : over ⟨0, 0, 0, x, y⟩ b = ⟨0, 0, 0, x, y⟩ := by
  unfold over
  rw [if_neg]
  simp
theorem over_nop_right (a : Un) (p c x y : Int) : over a ⟨0, p, c, x, y⟩ = a := by
  unfold over
  split
  · rfl
  · rfl
theorem wrap_up {p : Nat} (h : p ≤ 100000) : wrap64 ((p : Int) + 1) = ((p + 1 : Nat) : Int) := by unfold wrap64; omega
theorem wrap_dn {p : Nat} (h : p ≤ 100000) (h0 : 0 < p) : wrap64 ((p : Int) - 1) = ((p - 1 : Nat) : Int) := by unfold wrap64; omega
theorem okay_ins {p : Nat} {c : Int} (x y : Int) (hc : May c) : Okay ⟨1, (p : Int), c, x, y⟩ := Or.inr ⟨Or.inl rfl, (by simp only; omega), hc⟩
theorem okay_del {p : Nat} {c : Int} (x y : Int) (hc : May c) : Okay ⟨2, (p : Int), c, x, y⟩ := Or.inr ⟨Or.inr rfl, (by simp only; omega), hc⟩
section
variable {p q : Nat} {c d x y x' y' : Int}
theorem over_ins_ins (hc : May c) (hd : May d) (hp : p ≤ 100000) : over ⟨1, (p : Int), c, x, y⟩ ⟨1, (q : Int), d, x', y'⟩ = if q < p ∨ p = q ∧ First x' y' x y then ⟨1, ((p + 1 : Nat) : Int), c, x, y⟩ else ⟨1, (p : Int), c, x, y⟩ := by
  rw [show over ⟨1, (p : Int), c, x, y⟩ ⟨1, (q : Int), d, x', y'⟩ = pastIns ⟨1, (p : Int), c, x, y⟩ ⟨1, (q : Int), d, x', y'⟩ from by unfold over; rw [if_pos ⟨okay_ins x y hc, okay_ins x' y' hd, by simp⟩]; rfl]
  unfold pastIns
  simp only [wrap_up hp, show ((1 : Int) = 2) = False by decide, false_or, Int.ofNat_lt, Int.ofNat_inj]
theorem over_del_ins (hc : May c) (hd : May d) (hp : p ≤ 100000) : over ⟨2, (p : Int), c, x, y⟩ ⟨1, (q : Int), d, x', y'⟩ = if q ≤ p then ⟨2, ((p + 1 : Nat) : Int), c, x, y⟩ else ⟨2, (p : Int), c, x, y⟩ := by
  rw [show over ⟨2, (p : Int), c, x, y⟩ ⟨1, (q : Int), d, x', y'⟩ = pastIns ⟨2, (p : Int), c, x, y⟩ ⟨1, (q : Int), d, x', y'⟩ from by unfold over; rw [if_pos ⟨okay_del x y hc, okay_ins x' y' hd, by simp⟩]; rfl]
  unfold pastIns
  simp only [wrap_up hp, true_or, and_true, Int.ofNat_lt, Int.ofNat_inj]
  by_cases h : q ≤ p
  · rw [if_pos h, if_pos (by omega)]
  · rw [if_neg h, if_neg (by omega)]
theorem over_ins_del (hc : May c) (hd : May d) (hp : p ≤ 100000) : over ⟨1, (p : Int), c, x, y⟩ ⟨2, (q : Int), d, x', y'⟩ = if q < p then ⟨1, ((p - 1 : Nat) : Int), c, x, y⟩ else ⟨1, (p : Int), c, x, y⟩ := by
  rw [show over ⟨1, (p : Int), c, x, y⟩ ⟨2, (q : Int), d, x', y'⟩ = pastDel ⟨1, (p : Int), c, x, y⟩ ⟨2, (q : Int), d, x', y'⟩ from by unfold over; rw [if_pos ⟨okay_ins x y hc, okay_del x' y' hd, by simp⟩]; rfl]
  unfold pastDel
  simp only [show ((1 : Int) = 2) = False by decide, and_false, if_false, Int.ofNat_lt]
  by_cases h : q < p
  · rw [if_pos h, if_pos h, wrap_dn hp (by omega)]
  · rw [if_neg h, if_neg h]
theorem over_del_del (hc : May c) (hd : May d) (hp : p ≤ 100000) : over ⟨2, (p : Int), c, x, y⟩ ⟨2, (q : Int), d, x', y'⟩ = if q < p then ⟨2, ((p - 1 : Nat) : Int), c, x, y⟩ else if p = q then ⟨0, 0, 0, x, y⟩ else ⟨2, (p : Int), c, x, y⟩ := by
  rw [show over ⟨2, (p : Int), c, x, y⟩ ⟨2, (q : Int), d, x', y'⟩ = pastDel ⟨2, (p : Int), c, x, y⟩ ⟨2, (q : Int), d, x', y'⟩ from by unfold over; rw [if_pos ⟨okay_del x y hc, okay_del x' y' hd, by simp⟩]; rfl]
  unfold pastDel
  simp only [and_true, Int.ofNat_lt, Int.ofNat_inj]
  by_cases h : q < p
  · rw [if_pos h, if_pos h, wrap_dn hp (by omega)]
  · rw [if_neg h, if_neg h]
end
theorem len_behind {u : Un} {cs : List Int} (h : Fit u cs.length) : ((behind u cs).length : Int) = cs.length + grows u.k := by
  rcases fit_cases h with ⟨x, y, rfl⟩ | ⟨p, c, x, y, rfl, hp, _⟩ | ⟨p, c, x, y, rfl, hp, _⟩
  · rw [behind_nop]; simp [grows]
  · rw [behind_ins, len_insL hp]; simp [grows]
  · rw [behind_del]; have := len_delL hp; simp [grows]; omega
theorem both {a b : Un} {cs : List Int} (hn : cs.length ≤ 1000) (ha : Fit a cs.length) (hb : Fit b cs.length) (hid : ¬ (a.k = 1 ∧ b.k = 1 ∧ a.x = b.x ∧ a.y = b.y)) :
    Fit (over b a) (behind a cs).length ∧ Fit (over a b) (behind b cs).length ∧ behind (over b a) (behind a cs) = behind (over a b) (behind b cs) := by
  rcases fit_cases ha with ⟨x, y, rfl⟩ | ⟨p, c, x, y, rfl, hp, hc⟩ | ⟨p, c, x, y, rfl, hp, hc⟩
  · rw [over_nop_left, over_nop_right, behind_nop, behind_nop]
    exact ⟨hb, fit_nop _ _ _, rfl⟩
  · rcases fit_cases hb with ⟨x', y', rfl⟩ | ⟨q, d, x', y', rfl, hq, hd⟩ | ⟨q, d, x', y', rfl, hq, hd⟩
    · rw [over_nop_left, over_nop_right, behind_nop, behind_nop]
      exact ⟨fit_nop _ _ _, ha, rfl⟩
    · rw [over_ins_ins hc hd (by omega), over_ins_ins hd hc (by omega), behind_ins p c x y cs, behind_ins q d x' y' cs, len_insL hp, len_insL hq]
      simp only [true_and] at hid
      by_cases h : p < q ∨ p = q ∧ First x y x' y'
      · rw [if_pos (by unfold First at *; omega), if_neg (fun h2 => by unfold First at *; omega), behind_ins, behind_ins]
        exact ⟨fit_ins _ _ (by omega) hd, fit_ins _ _ (by omega) hc, ins_ins (by omega) hq⟩
      · rw [if_neg (fun h2 => by unfold First at *; omega), if_pos (by unfold First at *; omega), behind_ins, behind_ins]
        exact ⟨fit_ins _ _ (by omega) hd, fit_ins _ _ (by omega) hc, (ins_ins (by unfold First at *; omega) hp).symm⟩
    · rw [over_ins_del hc hd (by omega), over_del_ins hd hc (by omega), behind_ins p c x y cs, behind_del q d x' y' cs, len_insL hp]
      have hl := len_delL hq
      by_cases h : q < p
      · rw [if_pos h, if_neg (by omega), behind_del, behind_ins]
        exact ⟨fit_del _ _ (by omega) hd, fit_ins _ _ (by omega) hc, del_ins h hp⟩
      · rw [if_neg h, if_pos (by omega), behind_del, behind_ins]
        exact ⟨fit_del _ _ (by omega) hd, fit_ins _ _ (by omega) hc, ins_del (by omega) hq⟩
  · have hl := len_delL hp
    rcases fit_cases hb with ⟨x', y', rfl⟩ | ⟨q, d, x', y', rfl, hq, hd⟩ | ⟨q, d, x', y', rfl, hq, hd⟩
    · rw [over_nop_left, over_nop_right, behind_nop, behind_nop]
      exact ⟨fit_nop _ _ _, ha, rfl⟩
    · rw [over_del_ins hc hd (by omega), over_ins_del hd hc (by omega), behind_del p c x y cs, behind_ins q d x' y' cs, len_insL hq]
      by_cases h : p < q
      · rw [if_pos h, if_neg (by omega), behind_ins, behind_del]
        exact ⟨fit_ins _ _ (by omega) hd, fit_del _ _ (by omega) hc, (del_ins h hq).symm⟩
      · rw [if_neg h, if_pos (by omega), behind_ins, behind_del]
        exact ⟨fit_ins _ _ (by omega) hd, fit_del _ _ (by omega) hc, (ins_del (by omega) hp).symm⟩
    · rw [over_del_del hc hd (by omega), over_del_del hd hc (by omega), behind_del p c x y cs, behind_del q d x' y' cs]
      have hl2 := len_delL hq
      by_cases h : p < q
      · rw [if_pos h, if_neg (by omega), if_neg (by omega), behind_del, behind_del]
        exact ⟨fit_del _ _ (by omega) hd, fit_del _ _ (by omega) hc, del_del h hq⟩
      · by_cases h2 : q < p
        · rw [if_neg h, if_neg (by omega), if_pos h2, behind_del, behind_del]
          exact ⟨fit_del _ _ (by omega) hd, fit_del _ _ (by omega) hc, (del_del h2 hp).symm⟩
        · obtain rfl : p = q := by omega
          rw [if_neg h, if_pos rfl, if_pos rfl, if_neg h, behind_nop, behind_nop]
          exact ⟨fit_nop _ _ _, fit_nop _ _ _, rfl⟩
end Pl
end Go.Proofs.YtldmnkakpmplnaaGreat
