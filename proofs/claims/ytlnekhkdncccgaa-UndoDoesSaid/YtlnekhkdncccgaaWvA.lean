/-
  Clone and Equal at rows of units and of code points, the document's own Own and Same of code points. Conditions: those that each states.
-/
import Derived.Test.YtlnekhkdncccgaaWvM
import Derived.Test.YtlnekhkdncccgaaWvY
import Derived.Deep.RegionHeld3
import Derived.Lib.SlBytesConst
namespace Go.Proofs.Ytlnekhkdncccgaa
open Go.RowKit
open Pl (Un)

theorem OwnC.then_ {w w' : World} {base : Nat} {v : Value} {cs : List Int} (h : OwnC w base v cs) (hb : Below w.heap.size w w') : OwnC w' base v cs := h.below hb fun g hg => (h.lt g hg).2
theorem eqlC_nil (A : Option Addr) (n c : Nat) (w : World) : (binOp .eql 22 (.slice A n c) (.slice none 0 0)).run Try.prog w = .ok (.bool A.isNone) w := Lib.run_eql_slice_nil w _ _ A n c 0 0 Try.underlying22
/-- a call's answer: code points in new memory, nothing that was there turned -/
def RetC (w : World) (cs : List Int) (e : Ending) (w' : World) : Prop := ∃ A c, e = .returned (.slice A cs.length c) ∧ OwnC w' w.heap.size (.slice A cs.length c) cs ∧ Below w.heap.size w w'
set_option maxRecDepth 100000 in
set_option maxHeartbeats 400000 in
theorem cloneC_any (A : Option Addr) (n c : Nat) (cs : List Int) (w : World) (h1 : Crs w w.heap.size A n c cs) (hr : n * 4 ≤ 140737488355328) :
    Calls Try.prog 32 #[.slice A n c] w (RetC w cs) := by
  cases A with
  | none =>
    have hc : c = 0 := h1.nil_ rfl
    have hn : n = 0 := by have := h1.le; omega
    subst hc hn
    obtain rfl : cs = [] := List.eq_nil_of_length_eq_zero h1.len
    have q := eqlC_nil none 0 0
    go_enter Try.func32, Try.ntmps32
    go_wp2
    go_ret
    exact ⟨none, 0, rfl, OwnC.nil_ _ _, Below.refl _ _⟩
  | some ad =>
    have q := eqlC_nil (some ad) n c
    have hb1 : Below w.heap.size w (w.alloc (.cells #[] 40)) := (Below.refl _ _).alloc (Nat.le_refl _) _
    have HB := Lib.hid (h1.below hb1 (Nat.le_refl _))
    have HV := Lib.hid (show OwnC (w.alloc (.cells #[] 40)) w.heap.size (.slice (some ⟨w.heap.size, 0, none⟩) 0 0) [] from crs_lit w [] (fun x hx => by cases hx) (by simp))
    have HL := Lib.hid h1.len
    have HB1 := Lib.hid hb1
    clear h1 hb1
    go_enter Try.func32, Try.ntmps32
    go_wp2_with (at_builtin; refine wpList_append_crs (w.alloc (.cells #[] 40)) rfl (.tmp 5) (.tmp 6) rfl w.heap.size _ _ _ [] (by rfl) HV.out w.heap.size _ _ _ cs (by rfl) HB.out (by omega) (by simp) ?_)
    intro A2 c2 w2 hV2 hg2 hx2
    have hb2 := below_appendC HV.out hg2 HB1.out (by simp)
    clear hx2 hg2
    have hV2 : OwnC w2 w.heap.size (.slice A2 n c2) cs := by simpa using hV2
    have H2 := Lib.hid (And.intro hV2 hb2)
    clear hV2 hb2
    go_wp2
    go_ret
    refine ⟨A2, c2, ?_, ?_, H2.out.2⟩
    · rw [HL.out]; simp
    · rw [HL.out]; exact H2.out.1

theorem eqlU_nil (A : Option Addr) (n c : Nat) (w : World) : (binOp .eql 23 (.slice A n c) (.slice none 0 0)).run Try.prog w = .ok (.bool A.isNone) w := Lib.run_eql_slice_nil w _ _ A n c 0 0 Try.underlying23
/-- a call's answer: a row of units in new memory, nothing that was there turned -/
def RetU (w : World) (l : List Un) (e : Ending) (w' : World) : Prop := ∃ A c, e = .returned (.slice A l.length c) ∧ OwnU w' w.heap.size (.slice A l.length c) l ∧ Below w.heap.size w w'
set_option maxRecDepth 100000 in
theorem units_lit (w : World) (l : List Un) (hl : l.length ≤ maxLen) : OwnU (w.alloc (.cells (cellsR encU l).toArray 42)) w.heap.size (.slice (some ⟨w.heap.size, 0, none⟩) l.length l.length) l := OwnR.lit encU_len w l hl
theorem OwnU.uns {w : World} {base n c : Nat} {A : Option Addr} {l : List Un} (h : OwnU w base (.slice A n c) l) : Uns w w.heap.size A n c l := (OwnR.rws encU_len h).2
theorem OwnU.len {w : World} {base n c : Nat} {A : Option Addr} {l : List Un} (h : OwnU w base (.slice A n c) l) : n = l.length := (OwnR.rws encU_len h).1
set_option maxRecDepth 100000 in
set_option maxHeartbeats 400000 in
theorem cloneU_any (A : Option Addr) (n c : Nat) (l : List Un) (w : World) (h1 : Uns w w.heap.size A n c l) (hr : n ≤ 1000) :
    Calls Try.prog 42 #[.slice A n c] w (RetU w l) := by
  cases A with
  | none =>
    have hc : c = 0 := h1.nil_ rfl
    have hn : n = 0 := by have := h1.le; omega
    subst hc hn
    obtain rfl : l = [] := List.eq_nil_of_length_eq_zero h1.len
    have q := eqlU_nil none 0 0
    go_enter Try.func42, Try.ntmps42
    go_wp2_with fail
    go_ret
    exact ⟨none, 0, rfl, OwnR.nil_ _ _ _ _ _, Below.refl _ _⟩
  | some ad =>
    have q := eqlU_nil (some ad) n c
    have hb1 : Below w.heap.size w (w.alloc (.cells #[] 42)) := (Below.refl _ _).alloc (Nat.le_refl _) _
    have HB := Lib.hid (h1.below hb1 (Nat.le_refl _))
    have HV := Lib.hid (show OwnU (w.alloc (.cells #[] 42)) w.heap.size (.slice (some ⟨w.heap.size, 0, none⟩) 0 0) [] from units_lit w [] (by simp))
    have HL := Lib.hid h1.len
    have HB1 := Lib.hid hb1
    clear h1 hb1
    go_enter Try.func42, Try.ntmps42
    go_wp2_with (at_builtin; refine wpList_append_rws encU_len encU_one Try.underlying23 infoUn (by decide) (by decide) (w.alloc (.cells #[] 42)) rfl (.tmp 5) (.tmp 6) rfl w.heap.size _ _ _ [] (by rfl) HV.out w.heap.size _ _ _ l (by rfl) HB.out (by unfold maxLen; omega) (by omega) (by simp) ?_)
    intro A2 c2 w2 hV2 hg2 hx2
    have hb2 := OwnR.grownBelow HV.out hg2 HB1.out (by simp)
    clear hx2 hg2
    have hV2 : OwnU w2 w.heap.size (.slice A2 n c2) l := by simpa using hV2
    have H2 := Lib.hid (And.intro hV2 hb2)
    clear hV2 hb2
    go_wp2_with fail
    go_ret
    refine ⟨A2, c2, ?_, ?_, H2.out.2⟩
    · rw [HL.out]; simp
    · rw [HL.out]; exact H2.out.1
set_option maxRecDepth 100000 in
set_option maxHeartbeats 400000 in
theorem ownU_any (A : Option Addr) (n c : Nat) (l : List Un) (w : World) (h1 : Uns w w.heap.size A n c l) (hr : n ≤ 1000) :
    Calls Try.prog 9 #[.slice A n c] w (RetU w l) := by
  have HB := Lib.hid h1
  have HL := Lib.hid h1.len
  clear h1
  go_enter Try.func9, Try.ntmps9
  go_wp2_with (at_builtin; refine wpList_append_rws encU_len encU_one Try.underlying23 infoUn (by decide) (by decide) w rfl (.tmp 4) (.tmp 5) rfl w.heap.size none 0 0 [] (by rfl) (OwnR.nil_ _ _ _ _ _) w.heap.size _ _ _ l (by rfl) HB.out (by unfold maxLen; omega) (by omega) (Nat.le_refl _) ?_)
  intro A2 c2 w2 hV2 hg2 hx2
  have hb2 := OwnR.grownBelow (OwnR.nil_ encU 5 42 w w.heap.size) hg2 (Below.refl _ _) (Nat.le_refl _)
  clear hx2 hg2
  have hV2 : OwnU w2 w.heap.size (.slice A2 n c2) l := by simpa using hV2
  have H2 := Lib.hid (And.intro hV2 hb2)
  clear hV2 hb2
  go_wp2_with fail
  go_ret
  refine ⟨A2, c2, ?_, ?_, H2.out.2⟩
  · rw [HL.out]; simp
  · rw [HL.out]; exact H2.out.1
def SRel (w : World) (n : Nat) (xs bs : List Int) (i : Value) (wr : World) : Prop := ∃ j : Nat, i = .int .i64 (j : Int) ∧ j ≤ n ∧ Below w.heap.size w wr ∧ ∀ t, t < j → xs.getD t 0 = bs.getD t 0
theorem ext_getD {xs bs : List Int} (hl : xs.length = bs.length) (h : ∀ t, t < xs.length → xs.getD t 0 = bs.getD t 0) : xs = bs := by
  refine List.ext_getElem hl fun i h1 h2 => ?_
  have := h i h1
  rwa [List.getD_eq_getElem?_getD, List.getD_eq_getElem?_getD, List.getElem?_eq_getElem h1, List.getElem?_eq_getElem h2] at this

set_option maxRecDepth 100000 in
set_option maxHeartbeats 400000 in
theorem sameC_any (A A' : Option Addr) (n c m c' : Nat) (xs bs : List Int) (w : World) (h1 : Crs w w.heap.size A n c xs) (h2 : Crs w w.heap.size A' m c' bs) :
    Calls Try.prog 46 #[.slice A n c, .slice A' m c'] w fun e w' => e = .returned (.bool (decide (xs = bs))) ∧ Below w.heap.size w w' := by
  have hcap1 := h1.cap
  have hle1 := h1.le
  have hcap2 := h2.cap
  have hle2 := h2.le
  unfold maxLen at hcap1 hcap2
  have HL1 := Lib.hid h1.len
  have HL2 := Lib.hid h2.len
  by_cases hnm : n = m
  · subst hnm
    have H1 := Lib.hid h1
    have H2 := Lib.hid h2
    clear h1 h2
    go_enter Try.func46, Try.ntmps46
    go_wp2_with fail
    go_loopw [5] (fun i wr => SRel w n xs bs i wr) (fun i _ => n - (intOf i).toNat)
    case atStart => exact ⟨0, rfl, Nat.zero_le _, Below.refl _ _, fun t ht => by omega⟩
    case round =>
      obtain ⟨j, rfl, hj, hb, hs⟩ := hrel
      have HB := Lib.hid hb
      have HS := Lib.hid hs
      clear hb hs
      by_cases hlt : j < n
      · obtain ⟨g1, o1, rfl, hg1, hc1⟩ := (H1.out.below HB.out (Nat.le_refl _)).at_ hlt
        obtain ⟨g2, o2, rfl, hg2, hc2⟩ := (H2.out.below HB.out (Nat.le_refl _)).at_ hlt
        have a1 := hc1 j hlt
        have a2 := hc2 j hlt
        have HNX := Lib.hid (show xs.getD j 0 = bs.getD j 0 → ∀ t, t < j + 1 → xs.getD t 0 = bs.getD t 0 from fun h t ht => by
          rcases Nat.lt_or_ge t j with h1 | h1
          · exact HS.out t h1
          · obtain rfl : t = j := by omega
            exact h)
        have HNE := Lib.hid (show xs.getD j 0 ≠ bs.getD j 0 → xs ≠ bs from fun h e => h (by rw [e]))
        clear hc1 hc2
        obtain ⟨x, hx⟩ : ∃ x, x = xs.getD j 0 := ⟨_, rfl⟩
        obtain ⟨y, hy⟩ : ∃ y, y = bs.getD j 0 := ⟨_, rfl⟩
        rw [← hx] at a1 HNX HNE
        rw [← hy] at a2 HNX HNE
        clear hx hy
        have z0 : (0 : Int) ≤ (j : Int) := by omega
        have z1 : (j : Int) < (n : Int) := by omega
        by_cases hxy : x = y
        · subst hxy
          have HN2 := Lib.hid (HNX.out rfl)
          go_wp2_with fail
          go_region_held3 (fun w' => w'.cell? ⟨g1, o1 + j, none⟩ = some (.int .i32 x) ∧ w'.cell? ⟨g2, o2 + j, none⟩ = some (.int .i32 x)) (go_keep) (fail)
          go_wp2_with fail
          go_roundw
          case rel => exact ⟨j + 1, by go_num, by omega, below_drawn HB.out, HN2.out⟩
          case measure => simp [intOf]; omega
        · have HN2 := Lib.hid (HNE.out hxy)
          have hbne : (x != y) = true := by rw [bne_iff_ne]; exact hxy
          go_wp2_with fail
          go_region_held3 (fun w' => w'.cell? ⟨g1, o1 + j, none⟩ = some (.int .i32 x) ∧ w'.cell? ⟨g2, o2 + j, none⟩ = some (.int .i32 y)) (go_keep) (fail)
          go_wp2_with fail
          go_ret
          exact ⟨ret_bool (decide_eq_false HN2.out).symm, below_drawn HB.out⟩
      · have hjn : j = n := by omega
        have HE := Lib.hid (show xs = bs from ext_getD (HL1.out.trans HL2.out.symm) (fun t ht => HS.out t (by have := HL1.out; omega)))
        clear hjn
        go_wp2_with fail
        go_ret
        exact ⟨ret_bool (decide_eq_true HE.out).symm, HB.out⟩
  · have HN := Lib.hid (show xs ≠ bs from fun e => hnm (by rw [← HL1.out, ← HL2.out, e]))
    have hb : ((n : Int) != (m : Int)) = true := by rw [bne_iff_ne]; omega
    clear h1 h2
    go_enter Try.func46, Try.ntmps46
    go_wp2_with fail
    go_ret
    exact ⟨ret_bool (decide_eq_false HN.out).symm, Below.refl _ _⟩

set_option maxRecDepth 100000 in
set_option maxHeartbeats 400000 in
theorem equalC_any (A A' : Option Addr) (n c m c' : Nat) (xs bs : List Int) (w : World) (h1 : Crs w w.heap.size A n c xs) (h2 : Crs w w.heap.size A' m c' bs) :
    Calls Try.prog 25 #[.slice A n c, .slice A' m c'] w fun e w' => e = .returned (.bool (decide (xs = bs))) ∧ Below w.heap.size w w' := by
  have hcap1 := h1.cap
  have hle1 := h1.le
  have hcap2 := h2.cap
  have hle2 := h2.le
  unfold maxLen at hcap1 hcap2
  have HL1 := Lib.hid h1.len
  have HL2 := Lib.hid h2.len
  by_cases hnm : n = m
  · subst hnm
    have H1 := Lib.hid h1
    have H2 := Lib.hid h2
    clear h1 h2
    go_enter Try.func25, Try.ntmps25
    go_wp2_with fail
    go_loopw [13] (fun i wr => SRel w n xs bs i wr) (fun i _ => n - (intOf i).toNat)
    case atStart => exact ⟨0, rfl, Nat.zero_le _, Below.refl _ _, fun t ht => by omega⟩
    case round =>
      obtain ⟨j, rfl, hj, hb, hs⟩ := hrel
      have HB := Lib.hid hb
      have HS := Lib.hid hs
      clear hb hs
      by_cases hlt : j < n
      · obtain ⟨g1, o1, rfl, hg1, hc1⟩ := (H1.out.below HB.out (Nat.le_refl _)).at_ hlt
        obtain ⟨g2, o2, rfl, hg2, hc2⟩ := (H2.out.below HB.out (Nat.le_refl _)).at_ hlt
        have a1 := hc1 j hlt
        have a2 := hc2 j hlt
        have HNX := Lib.hid (show xs.getD j 0 = bs.getD j 0 → ∀ t, t < j + 1 → xs.getD t 0 = bs.getD t 0 from fun h t ht => by
          rcases Nat.lt_or_ge t j with h1 | h1
          · exact HS.out t h1
          · obtain rfl : t = j := by omega
            exact h)
        have HNE := Lib.hid (show xs.getD j 0 ≠ bs.getD j 0 → xs ≠ bs from fun h e => h (by rw [e]))
        clear hc1 hc2
        obtain ⟨x, hx⟩ : ∃ x, x = xs.getD j 0 := ⟨_, rfl⟩
        obtain ⟨y, hy⟩ : ∃ y, y = bs.getD j 0 := ⟨_, rfl⟩
        rw [← hx] at a1 HNX HNE
        rw [← hy] at a2 HNX HNE
        clear hx hy
        have z0 : (0 : Int) ≤ (j : Int) := by omega
        have z1 : (j : Int) < (n : Int) := by omega
        by_cases hxy : x = y
        · subst hxy
          have HN2 := Lib.hid (HNX.out rfl)
          go_wp2_with fail
          go_region_held3 (fun w' => w'.cell? ⟨g1, o1 + j, none⟩ = some (.int .i32 x) ∧ w'.cell? ⟨g2, o2 + j, none⟩ = some (.int .i32 x)) (go_keep) (fail)
          go_wp2_with fail
          go_roundw
          case rel => exact ⟨j + 1, by go_num, by omega, below_drawn HB.out, HN2.out⟩
          case measure => simp [intOf]; omega
        · have HN2 := Lib.hid (HNE.out hxy)
          have hbne : (x != y) = true := by rw [bne_iff_ne]; exact hxy
          go_wp2_with fail
          go_region_held3 (fun w' => w'.cell? ⟨g1, o1 + j, none⟩ = some (.int .i32 x) ∧ w'.cell? ⟨g2, o2 + j, none⟩ = some (.int .i32 y)) (go_keep) (fail)
          go_wp2_with fail
          go_ret
          exact ⟨ret_bool (decide_eq_false HN2.out).symm, below_drawn HB.out⟩
      · have hjn : j = n := by omega
        have HE := Lib.hid (show xs = bs from ext_getD (HL1.out.trans HL2.out.symm) (fun t ht => HS.out t (by have := HL1.out; omega)))
        clear hjn
        go_wp2_with fail
        go_ret
        exact ⟨ret_bool (decide_eq_true HE.out).symm, HB.out⟩
  · have HN := Lib.hid (show xs ≠ bs from fun e => hnm (by rw [← HL1.out, ← HL2.out, e]))
    have hb : ((n : Int) != (m : Int)) = true := by rw [bne_iff_ne]; omega
    clear h1 h2
    go_enter Try.func25, Try.ntmps25
    go_wp2_with fail
    go_ret
    exact ⟨ret_bool (decide_eq_false HN.out).symm, Below.refl _ _⟩



/-! ### rows of units that are the same -/
end Go.Proofs.Ytlnekhkdncccgaa

