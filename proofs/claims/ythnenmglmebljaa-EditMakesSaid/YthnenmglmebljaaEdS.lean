/-
  The document's own Type, Erase, Replace. Conditions: those that each states.
-/
import Derived.Test.YthnenmglmebljaaEdL
import Derived.Deep.RegionLaw
namespace Go.Proofs.Ythnenmglmebljaa
open Go.RowKit
open Pl (Un)

theorem wrap_eq (a : Int) : IntKind.i64.wrap a = wrap64 a := by rw [IntKind.wrap_i64]; unfold wrap64; omega
/-- between one code point and the next -/
def TyR (w : World) (p : Int) (cs : List Int) (x y : Int) (s i : Value) (wr : World) : Prop := ∃ (j : Nat) (A : Option Addr) (c : Nat), i = .int .i64 (j : Int) ∧ s = .slice A j c ∧ j ≤ cs.length ∧ OwnU wr w.heap.size (.slice A j c) (Pl.typeL p (cs.take j) x y) ∧ (∀ u ∈ cs.take j, Pl.May u) ∧ Below w.heap.size w wr
set_option maxRecDepth 100000 in
set_option maxHeartbeats 1000000 in
theorem type8_any (p : Int) (A : Option Addr) (n c : Nat) (cs : List Int) (x y : Int) (w : World) (h1 : Crs w w.heap.size A n c cs) :
    Calls Try.prog 10 #[.int .i64 p, .slice A n c, .agg #[.int .u32 x, .int .u64 y]] w (RetE w (Pl.typeE p cs) (Pl.typeL p cs x y)) := by
  have H1 := Lib.hid h1
  have HL := Lib.hid h1.len
  have hcap := h1.cap
  have hle := h1.le
  unfold maxLen at hcap
  have hb1 := below_box w (.cells #[.int .u32 x, .int .u64 y] 26)
  have HB1 := Lib.hid hb1
  have HID := Lib.hid (show IdAt (w.alloc (.cells #[.int .u32 x, .int .u64 y] 26)) w.heap.size x y from heap_new rfl)
  obtain ⟨R, hR⟩ : ∃ R, R = Pl.typeE p cs := ⟨_, rfl⟩
  rw [← hR]
  have HR := Lib.hid (show R = if Pl.wrongE p (n : Int) ≠ 0 then Pl.wrongE p (n : Int) else if ∀ c ∈ cs, Pl.May c then 0 else 21 by rw [hR, ← HL.out]; rfl)
  clear h1 hb1 hR
  go_enter Try.func10, Try.ntmps10
  by_cases h0 : p < 0
  · have HE := Lib.hid (show R = 1 by
      have e : Pl.wrongE p (n : Int) = 1 := if_pos (Or.inl h0)
      rw [HR.out, e]; rfl)
    go_wp2_with fail
    go_returns
    rw [HE.out]
    exact RetE.bad (by decide) HB1.out
  · by_cases h3 : 256 < n
    · have HE := Lib.hid (show R = 3 by
        have e : Pl.wrongE p (n : Int) = 3 := by unfold Pl.wrongE; rw [if_neg (by omega), if_pos (by omega)]
        rw [HR.out, e]; rfl)
      have h4 : (256 : Int) < (n : Int) := by omega
      go_wp2_with fail
      go_returns
      rw [HE.out]
      exact RetE.bad (by decide) HB1.out
    · have HE := Lib.hid (show R = if ∀ c ∈ cs, Pl.May c then 0 else 21 by
        have e : Pl.wrongE p (n : Int) = 0 := by unfold Pl.wrongE; rw [if_neg (by omega), if_neg (by omega)]
        rw [HR.out, e]; rfl)
      have h4 : ¬ (256 : Int) < (n : Int) := by omega
      have h5 : (n : Int) ≤ 256 := by omega
      have HN := Lib.hid (show n ≤ 256 by omega)
      have h0' : 0 ≤ p := by omega
      go_wp2_with fail
      clear h4 h5 h3 h0 h0'
      have hn := HN.out
      go_loopw [8, 9] (fun s i wr => TyR (w.alloc (.cells #[.int .u32 x, .int .u64 y] 26)) p cs x y s i wr) (fun _ i _ => n - (intOf i).toNat)
      case atStart => exact ⟨0, none, 0, rfl, rfl, Nat.zero_le _, OwnR.nil_ _ _ _ _ _, (fun u hu => by simp at hu), Below.refl _ _⟩
      case round =>
        obtain ⟨j, A2, c2, rfl, rfl, hj, ho, hm, hb⟩ := hrel
        have HO := Lib.hid ho
        have HMA := Lib.hid hm
        have HB := Lib.hid (below_then HB1.out hb)
        have HBW := Lib.hid hb
        have hid := HID.out.below hb (by simp)
        obtain ⟨i0, i1⟩ := hid.cells
        rw [HL.out] at hj
        clear ho hm hb
        by_cases hlt : j < n
        · obtain ⟨g1, o1, rfl, hg1, hc1⟩ := (H1.out.below HB.out (Nat.le_refl _)).at_ hlt
          have a0 := hc1 j hlt
          have hjl : j < cs.length := by rw [HL.out]; exact hlt
          have hts := Pl.type_take p cs x y j hjl
          obtain ⟨ch, hch⟩ : ∃ u, u = cs.getD j 0 := ⟨_, rfl⟩
          rw [← hch] at a0 hts
          have HM := fun w => Lib.hid (may4_any ch w)
          have HY := Lib.hid (show Pl.May ch → ∀ v ∈ cs.take (j + 1), Pl.May v from fun h v hv => by
            rw [List.take_add_one, getD_of_getI hjl, ← hch] at hv
            rcases List.mem_append.1 hv with hv | hv
            · exact HMA.out v hv
            · simp at hv; rw [hv]; exact h)
          have HNM := Lib.hid (show ¬ Pl.May ch → ¬ ∀ v ∈ cs, Pl.May v from fun h h2 => h (h2 ch (by rw [hch, List.getD_eq_getElem?_getD, List.getElem?_eq_getElem hjl]; exact List.getElem_mem hjl)))
          have z0 : (0 : Int) ≤ (j : Int) := Int.natCast_nonneg j
          have z1 : (j : Int) < (n : Int) := Int.ofNat_lt.2 hlt
          have HMS := Lib.hid (show n - (j + 1) < n - j by omega)
          have HJ1 := Lib.hid (show j + 1 ≤ cs.length from hjl)
          obtain ⟨e1, he1⟩ : ∃ e1, e1 = wrap64 (p + (j : Int)) := ⟨_, rfl⟩
          rw [← he1] at hts
          have HTS := Lib.hid hts
          have he := he1.symm
          have heI : IntKind.i64.wrap (p + (j : Int)) = e1 := (wrap_eq _).trans he1.symm
          have hj256 : j + 1 ≤ 256 := by omega
          clear hc1 hch hts he1
          by_cases hO : Pl.May ch
          · simp only [decide_eq_true hO] at HM
            have HY2 := Lib.hid (HY.out hO)
            clear hO HY HNM
            have hVb : Below wr.heap.size wr (wr.drew.alloc (.cells #[.int .i64 1, .int .i64 e1, .int .i32 ch, .int .u32 x, .int .u64 y] 44)) := ⟨rfl, rfl, rfl, by simp, fun k hk => Below.heap_alloc _ _ _ hk⟩
            have HOV := Lib.hid (OwnR.then_ HO.out hVb)
            have HSV := Lib.hid (show Uns (wr.drew.alloc (.cells #[.int .i64 1, .int .i64 e1, .int .i32 ch, .int .u32 x, .int .u64 y] 44)) (wr.drew.alloc (.cells #[.int .i64 1, .int .i64 e1, .int .i32 ch, .int .u32 x, .int .u64 y] 44)).heap.size (some ⟨wr.heap.size, 0, none⟩) 1 1 [⟨1, e1, ch, x, y⟩] from OwnU.uns (unit_row wr.drew 1 e1 ch x y))
            have HBV := Lib.hid (below_then HBW.out hVb)
            have hsz := HBV.out.size
            have hmx : j + 1 ≤ maxLen := Nat.le_trans hj256 (by decide)
            have hft : (j + 1) * 40 ≤ 140737488355328 := Nat.le_trans (Nat.mul_le_mul_right 40 hj256) (by decide)
            clear hVb hj256
            go_wp2_with fail
            refine (HM _).out.mono ?_
            rintro e w' ⟨rfl, rfl⟩
            go_wp2_with fail
            go_region_law (refine step_append_rws encU_len encU_one Try.underlying27 infoUn (by decide) (by decide) (wr.drew.alloc (.cells #[.int .i64 1, .int .i64 e1, .int .i32 ch, .int .u32 x, .int .u64 y] 44)) (by rfl) (.tmp 27) (.tmp 37) (by rfl) _ A2 j c2 (Pl.typeL p (cs.take j) x y) (by rfl) HOV.out _ (some ⟨wr.heap.size, 0, none⟩) 1 1 [⟨1, e1, ch, x, y⟩] (by rfl) HSV.out hmx hft hsz ?_; intro A4 c4 w4 hO4 hg4 hat4)
            all_goals
              have HO5 := Lib.hid hO4
              rw [← HTS.out] at HO5
              have HB5 := Lib.hid (OwnR.grownBelow HOV.out hg4 HBV.out hsz)
              clear hO4 hg4 hat4
              go_wp2_with fail
              go_roundw
              case rel => exact ⟨j + 1, A4, c4, by go_num, rfl, HJ1.out, HO5.out, HY2.out, HB5.out⟩
              case measure => simp [intOf]; exact HMS.out
          · simp only [decide_eq_false hO] at HM
            have HNM2 := Lib.hid (show R = 21 by rw [HE.out, if_neg (HNM.out hO)])
            clear hO HY HNM
            go_wp2_with fail
            refine (HM _).out.mono ?_
            rintro e w' ⟨rfl, rfl⟩
            go_wp2_with fail
            go_returns
            rw [HNM2.out]
            exact RetE.bad (by decide) HB.out
        · have hjn : cs.take j = cs := List.take_of_length_le (by rw [HL.out]; omega)
          have HE2 := Lib.hid (show R = 0 by rw [HE.out, if_pos]; rw [← hjn]; exact HMA.out)
          have HO5 := Lib.hid (show OwnU wr w.heap.size (.slice A2 j c2) (Pl.typeL p cs x y) by have h := HO.out; rw [hjn] at h; exact OwnR.lower h HB1.out.size)
          clear hjn
          go_wp2_with fail
          go_returns
          exact RetE.ok HE2.out HB.out HO5.out
def ErR (w : World) (p : Int) (n : Nat) (x y : Int) (s i : Value) (wr : World) : Prop := ∃ (j : Nat) (A : Option Addr) (c : Nat), i = .int .i64 (j : Int) ∧ s = .slice A j c ∧ j ≤ n ∧ OwnU wr w.heap.size (.slice A j c) (Pl.eraseL p j x y) ∧ Below w.heap.size w wr
set_option maxRecDepth 100000 in
set_option maxHeartbeats 1000000 in
theorem erase8_any (p : Int) (N : Int) (x y : Int) (w : World) :
    Calls Try.prog 12 #[.int .i64 p, .int .i64 N, .agg #[.int .u32 x, .int .u64 y]] w (RetE w (Pl.wrongE p N) (Pl.eraseL p N.toNat x y)) := by
  have hb1 := below_box w (.cells #[.int .u32 x, .int .u64 y] 26)
  have HB1 := Lib.hid hb1
  have HID := Lib.hid (show IdAt (w.alloc (.cells #[.int .u32 x, .int .u64 y] 26)) w.heap.size x y from heap_new rfl)
  obtain ⟨R, hR⟩ : ∃ R, R = Pl.wrongE p N := ⟨_, rfl⟩
  rw [← hR]
  have HR := Lib.hid hR
  clear hb1 hR
  go_enter Try.func12, Try.ntmps12
  by_cases h0 : p < 0
  · have HE := Lib.hid (show R = 1 by rw [HR.out]; exact if_pos (Or.inl h0))
    go_wp2_with fail
    go_returns
    rw [HE.out]
    exact RetE.bad (by decide) HB1.out
  · by_cases h1 : N < 0
    · have HE := Lib.hid (show R = 1 by rw [HR.out]; exact if_pos (Or.inr h1))
      go_wp2_with fail
      go_returns
      rw [HE.out]
      exact RetE.bad (by decide) HB1.out
    · by_cases h3 : 256 < N
      · have HE := Lib.hid (show R = 3 by rw [HR.out]; unfold Pl.wrongE; rw [if_neg (by omega), if_pos h3])
        go_wp2_with fail
        go_returns
        rw [HE.out]
        exact RetE.bad (by decide) HB1.out
      · have HE := Lib.hid (show R = 0 by rw [HR.out]; unfold Pl.wrongE; rw [if_neg (by omega), if_neg h3])
        obtain ⟨n, rfl⟩ : ∃ n : Nat, N = (n : Int) := ⟨N.toNat, by omega⟩
        rw [Int.toNat_natCast]
        have HN := Lib.hid (show n ≤ 256 by omega)
        have h0' : 0 ≤ p := by omega
        have h5 : (n : Int) ≤ 256 := by omega
        go_wp2_with fail
        clear h5 h3 h0 h0' h1
        have hn := HN.out
        go_loopw [8, 9] (fun s i wr => ErR (w.alloc (.cells #[.int .u32 x, .int .u64 y] 26)) p n x y s i wr) (fun _ i _ => n - (intOf i).toNat)
        case atStart => exact ⟨0, none, 0, rfl, rfl, Nat.zero_le _, OwnR.nil_ _ _ _ _ _, Below.refl _ _⟩
        case round =>
          obtain ⟨j, A2, c2, rfl, rfl, hj, ho, hb⟩ := hrel
          have HO := Lib.hid ho
          have HB := Lib.hid (below_then HB1.out hb)
          have HBW := Lib.hid hb
          have hid := HID.out.below hb (by simp)
          obtain ⟨i0, i1⟩ := hid.cells
          clear ho hb
          by_cases hlt : j < n
          · have z0 : (0 : Int) ≤ (j : Int) := Int.natCast_nonneg j
            have z1 : (j : Int) < (n : Int) := Int.ofNat_lt.2 hlt
            have HMS := Lib.hid (show n - (j + 1) < n - j by omega)
            have HTS := Lib.hid (Pl.erase_succ p j x y)
            have HJ1 := Lib.hid (show j + 1 ≤ n from hlt)
            have hVb := below_box wr (.cells #[.int .i64 2, .int .i64 p, .int .i32 0, .int .u32 x, .int .u64 y] 44)
            have HOV := Lib.hid (OwnR.then_ HO.out hVb)
            have HRW := Lib.hid (OwnU.uns (unit_row wr 2 p 0 x y))
            have HBV := Lib.hid (below_then HBW.out hVb)
            have hsz := HBV.out.size
            clear hVb
            go_wp2_with (at_builtin; refine wpList_append_rws encU_len encU_one Try.underlying27 infoUn (by decide) (by decide) (World.alloc wr (.cells #[.int .i64 2, .int .i64 p, .int .i32 0, .int .u32 x, .int .u64 y] 44)) rfl (.tmp 23) (.tmp 27) rfl (w.alloc (.cells #[.int .u32 x, .int .u64 y] 26)).heap.size A2 j c2 (Pl.eraseL p j x y) (by rfl) HOV.out _ (some ⟨wr.heap.size, 0, none⟩) 1 1 [⟨2, p, 0, x, y⟩] (by rfl) HRW.out (by unfold maxLen; omega) (by omega) hsz ?_)
            intro A4 c4 w4 hO4 hg4 hat4
            have HO5 := Lib.hid (show OwnU w4 (w.alloc (.cells #[.int .u32 x, .int .u64 y] 26)).heap.size (.slice A4 (j + 1) c4) (Pl.eraseL p (j + 1) x y) by
              rw [HTS.out, show (w.alloc (.cells #[.int .u32 x, .int .u64 y] 26)).heap.size = w.heap.size + 1 from by simp]
              exact hO4)
            have HB5 := Lib.hid (OwnR.grownBelow HOV.out hg4 HBV.out hsz)
            clear hO4 hg4 hat4 hsz
            go_wp2_with fail
            go_roundw
            case rel => exact ⟨j + 1, A4, c4, by go_num, rfl, HJ1.out, HO5.out, HB5.out⟩
            case measure => simp [intOf]; exact HMS.out
          · obtain rfl : n = j := by omega
            have HO5 := Lib.hid (OwnR.lower HO.out HB1.out.size)
            go_wp2_with fail
            go_returns
            exact RetE.ok HE.out HB.out HO5.out
set_option maxRecDepth 100000 in
set_option maxHeartbeats 1000000 in
theorem replace8_any (p N : Int) (A : Option Addr) (n c : Nat) (cs : List Int) (x y : Int) (w : World) (h1 : Crs w w.heap.size A n c cs) :
    Calls Try.prog 14 #[.int .i64 p, .int .i64 N, .slice A n c, .agg #[.int .u32 x, .int .u64 y]] w (RetE w (Pl.replE p N cs) (Pl.replL p N cs x y)) := by
  have H1 := Lib.hid h1
  have HL := Lib.hid h1.len
  have hb1 := below_box w (.cells #[.int .u32 x, .int .u64 y] 26)
  have HB1 := Lib.hid hb1
  have hid : IdAt (w.alloc (.cells #[.int .u32 x, .int .u64 y] 26)) w.heap.size x y := heap_new rfl
  have HID := Lib.hid hid
  have HE := Lib.hid (erase8_any p N x y (w.alloc (.cells #[.int .u32 x, .int .u64 y] 26)))
  obtain ⟨r1, hr1⟩ : ∃ r, r = Pl.wrongE p N := ⟨_, rfl⟩
  obtain ⟨r2, hr2⟩ : ∃ r, r = Pl.typeE p cs := ⟨_, rfl⟩
  obtain ⟨l1, hl1⟩ : ∃ l, l = Pl.eraseL p N.toNat x y := ⟨_, rfl⟩
  obtain ⟨l2, hl2⟩ : ∃ l, l = Pl.typeL p cs x y := ⟨_, rfl⟩
  obtain ⟨R, hR⟩ : ∃ R, R = Pl.replE p N cs := ⟨_, rfl⟩
  have HLE := Lib.hid (show l1.length = N.toNat by rw [hl1, Pl.len_erase])
  have HLT := Lib.hid (show l2.length = cs.length by rw [hl2, Pl.len_type])
  have HRE := Lib.hid (show R = if r1 ≠ 0 then r1 else if r2 ≠ 0 then r2 else if 256 < l1.length + l2.length then 3 else 0 by rw [hR, HLE.out, HLT.out, hr1, hr2]; rfl)
  have HT := fun w' (h : Crs w' w'.heap.size A n c cs) => Lib.hid (type8_any p A n c cs x y w' h)
  rw [show Pl.replL p N cs x y = l1 ++ l2 by rw [hl1, hl2]; rfl, ← hR]
  simp only [← hr1, ← hl1] at HE
  simp only [← hr2, ← hl2] at HT
  have HW := Lib.hid (show r1 = 0 → l1.length ≤ 256 from fun h => by have := Pl.wrong_le (hr1.symm.trans h); rw [HLE.out]; omega)
  have HW2 := Lib.hid (show r2 = 0 → l2.length ≤ 256 from fun h => by have := Pl.type_le (hr2.symm.trans h); rw [HLT.out]; omega)
  obtain ⟨i0, i1⟩ := hid.cells
  clear h1 hb1 hid hr1 hr2 hl1 hl2 hR
  go_enter Try.func14, Try.ntmps14
  go_wp2_with fail
  refine HE.out.mono ?_
  rintro e w2 ⟨hb2, ⟨hr, rfl⟩ | ⟨hr, B, d, rfl, ho⟩⟩
  · have HB2 := Lib.hid (below_then HB1.out hb2)
    have HR := Lib.hid (show R = r1 by rw [HRE.out, if_pos hr])
    have HN := Lib.hid hr
    have hq : (r1 != 0) = true := by simpa using hr
    clear hb2 HE HT hr
    go_wp2_with fail
    go_returns
    rw [HR.out]
    exact RetE.bad HN.out HB2.out
  · subst hr
    have HB2 := Lib.hid (below_then HB1.out hb2)
    have HO := Lib.hid (OwnR.lower ho HB1.out.size)
    have HT2 := Lib.hid (HT w2 (H1.out.then_ HB2.out)).out
    obtain ⟨i0, i1⟩ := (HID.out.below hb2 (by simp)).cells
    clear hb2 ho HE HT
    go_wp2_with fail
    refine HT2.out.mono ?_
    rintro e w3 ⟨hb3, ⟨hr, rfl⟩ | ⟨hr, B2, d2, rfl, ho2⟩⟩
    · have HB3 := Lib.hid (below_then HB2.out hb3)
      have HR := Lib.hid (show R = r2 by rw [HRE.out, if_neg (by simp), if_pos hr])
      have HN := Lib.hid hr
      have hq : (r2 != 0) = true := by simpa using hr
      clear hb3 HT2 hr
      go_wp2_with fail
      go_returns
      rw [HR.out]
      exact RetE.bad HN.out HB3.out
    · subst hr
      have HB3 := Lib.hid (below_then HB2.out hb3)
      have HO3 := Lib.hid (OwnR.then_ HO.out hb3)
      have HU2 := Lib.hid (OwnU.uns ho2)
      clear hb3 HT2 ho2
      obtain ⟨n1, hn1⟩ : ∃ n1, n1 = l1.length := ⟨_, rfl⟩
      obtain ⟨n2, hn2⟩ : ∃ n2, n2 = l2.length := ⟨_, rfl⟩
      rw [← hn1] at HO3 HRE HW
      rw [← hn2] at HU2 HRE HW2
      simp only [← hn1, ← hn2]
      have hw1 := HW.out (by simp)
      have hw2 := HW2.out (by simp)
      clear hn1 hn2
      by_cases hlt : 256 < n1 + n2
      · have HR := Lib.hid (show R = 3 by rw [HRE.out, if_neg (by simp), if_neg (by simp), if_pos hlt])
        go_wp2_with fail
        go_returns
        rw [HR.out]
        exact RetE.bad (by decide) HB3.out
      · have HR := Lib.hid (show R = 0 by rw [HRE.out, if_neg (by simp), if_neg (by simp), if_neg hlt])
        have hsz := HB3.out.size
        go_wp2_with (at_builtin; refine wpList_append_rws encU_len encU_one Try.underlying27 infoUn (by decide) (by decide) w3 rfl (.tmp 40) (.tmp 41) rfl w.heap.size B n1 d l1 (by rfl) HO3.out _ B2 n2 d2 l2 (by rfl) HU2.out (by unfold maxLen; omega) (by omega) hsz ?_)
        intro A3 c3 w4 hO4 hg4 hat4
        have HB4 := Lib.hid (OwnR.grownBelow HO3.out hg4 HB3.out hsz)
        have HO4 := Lib.hid hO4
        clear hO4 hg4 hat4 hsz
        go_wp2_with fail
        go_returns
        exact RetE.ok HR.out HB4.out HO4.out
end Go.Proofs.Ythnenmglmebljaa
