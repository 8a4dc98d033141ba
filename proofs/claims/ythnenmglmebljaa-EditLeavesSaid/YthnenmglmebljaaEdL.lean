/-
  edit.Replace. Conditions: those that each states.
-/
import Derived.Test.YthnenmglmebljaaEdK
namespace Go.Proofs.Ythnenmglmebljaa
open Go.RowKit
open Pl (Un)

def Pl.replE (p N : Int) (cs : List Int) : Int := if Pl.wrongE p N ≠ 0 then Pl.wrongE p N else if Pl.typeE p cs ≠ 0 then Pl.typeE p cs else if 256 < N.toNat + cs.length then 3 else 0
def Pl.replL (p N : Int) (cs : List Int) (x y : Int) : List Un := Pl.eraseL p N.toNat x y ++ Pl.typeL p cs x y
theorem Pl.wrong_le {p n : Int} (h : Pl.wrongE p n = 0) : 0 ≤ p ∧ 0 ≤ n ∧ n ≤ 256 := by
  unfold Pl.wrongE at h; split at h <;> (try split at h) <;> omega
theorem Pl.type_le {p : Int} {cs : List Int} (h : Pl.typeE p cs = 0) : 0 ≤ p ∧ cs.length ≤ 256 ∧ ∀ c ∈ cs, Pl.May c := by
  unfold Pl.typeE at h
  by_cases h0 : Pl.wrongE p (cs.length : Int) = 0
  · rw [if_neg (by simpa using h0)] at h
    have := Pl.wrong_le h0
    refine ⟨this.1, by omega, ?_⟩
    by_cases hm : ∀ c ∈ cs, Pl.May c
    · exact hm
    · rw [if_neg hm] at h; cases h
  · rw [if_pos h0] at h; exact absurd h h0
set_option maxRecDepth 100000 in
set_option maxHeartbeats 1000000 in
theorem replace_any (p N : Int) (A : Option Addr) (n c : Nat) (cs : List Int) (x y : Int) (w : World) (h1 : Crs w w.heap.size A n c cs) :
    Calls Try.prog 13 #[.int .i64 p, .int .i64 N, .slice A n c, .agg #[.int .u32 x, .int .u64 y]] w (RetE w (Pl.replE p N cs) (Pl.replL p N cs x y)) := by
  have H1 := Lib.hid h1
  have HL := Lib.hid h1.len
  have hb1 := below_box w (.cells #[.int .u32 x, .int .u64 y] 26)
  have HB1 := Lib.hid hb1
  have hid : IdAt (w.alloc (.cells #[.int .u32 x, .int .u64 y] 26)) w.heap.size x y := heap_new rfl
  have HID := Lib.hid hid
  have HE := Lib.hid (erase_any p N x y (w.alloc (.cells #[.int .u32 x, .int .u64 y] 26)))
  obtain ⟨r1, hr1⟩ : ∃ r, r = Pl.wrongE p N := ⟨_, rfl⟩
  obtain ⟨r2, hr2⟩ : ∃ r, r = Pl.typeE p cs := ⟨_, rfl⟩
  obtain ⟨l1, hl1⟩ : ∃ l, l = Pl.eraseL p N.toNat x y := ⟨_, rfl⟩
  obtain ⟨l2, hl2⟩ : ∃ l, l = Pl.typeL p cs x y := ⟨_, rfl⟩
  obtain ⟨R, hR⟩ : ∃ R, R = Pl.replE p N cs := ⟨_, rfl⟩
  have HLE := Lib.hid (show l1.length = N.toNat by rw [hl1, Pl.len_erase])
  have HLT := Lib.hid (show l2.length = cs.length by rw [hl2, Pl.len_type])
  have HRE := Lib.hid (show R = if r1 ≠ 0 then r1 else if r2 ≠ 0 then r2 else if 256 < l1.length + l2.length then 3 else 0 by rw [hR, HLE.out, HLT.out, hr1, hr2]; rfl)
  have HT := fun w' (h : Crs w' w'.heap.size A n c cs) => Lib.hid (type_any p A n c cs x y w' h)
  rw [show Pl.replL p N cs x y = l1 ++ l2 by rw [hl1, hl2]; rfl, ← hR]
  simp only [← hr1, ← hl1] at HE
  simp only [← hr2, ← hl2] at HT
  have HW := Lib.hid (show r1 = 0 → l1.length ≤ 256 from fun h => by have := Pl.wrong_le (hr1.symm.trans h); rw [HLE.out]; omega)
  have HW2 := Lib.hid (show r2 = 0 → l2.length ≤ 256 from fun h => by have := Pl.type_le (hr2.symm.trans h); rw [HLT.out]; omega)
  obtain ⟨i0, i1⟩ := hid.cells
  clear h1 hb1 hid hr1 hr2 hl1 hl2 hR
  go_enter Try.func13, Try.ntmps13
  go_wp2_with fail
  refine HE.out.mono ?_
  rintro e w2 ⟨hb2, ⟨hr, rfl⟩ | ⟨hr, B, d, rfl, ho⟩⟩
  · have HB2 := Lib.hid (below_then HB1.out hb2)
    have HR := Lib.hid (show R = r1 by rw [HRE.out, if_pos hr])
    have HN := Lib.hid hr
    have hq : (r1 != 0) = true := by simpa using hr
    clear hb2 HE HT hr
    go_wp2_with fail
    go_returns
    rw [HR.out]
    exact RetE.bad HN.out HB2.out
  · subst hr
    have HB2 := Lib.hid (below_then HB1.out hb2)
    have HO := Lib.hid (OwnR.lower ho HB1.out.size)
    have HT2 := Lib.hid (HT w2 (H1.out.then_ HB2.out)).out
    obtain ⟨i0, i1⟩ := (HID.out.below hb2 (by simp)).cells
    clear hb2 ho HE HT
    go_wp2_with fail
    refine HT2.out.mono ?_
    rintro e w3 ⟨hb3, ⟨hr, rfl⟩ | ⟨hr, B2, d2, rfl, ho2⟩⟩
    · have HB3 := Lib.hid (below_then HB2.out hb3)
      have HR := Lib.hid (show R = r2 by rw [HRE.out, if_neg (by simp), if_pos hr])
      have HN := Lib.hid hr
      have hq : (r2 != 0) = true := by simpa using hr
      clear hb3 HT2 hr
      go_wp2_with fail
      go_returns
      rw [HR.out]
      exact RetE.bad HN.out HB3.out
    · subst hr
      have HB3 := Lib.hid (below_then HB2.out hb3)
      have HO3 := Lib.hid (OwnR.then_ HO.out hb3)
      have HU2 := Lib.hid (OwnU.uns ho2)
      clear hb3 HT2 ho2
      obtain ⟨n1, hn1⟩ : ∃ n1, n1 = l1.length := ⟨_, rfl⟩
      obtain ⟨n2, hn2⟩ : ∃ n2, n2 = l2.length := ⟨_, rfl⟩
      rw [← hn1] at HO3 HRE HW
      rw [← hn2] at HU2 HRE HW2
      simp only [← hn1, ← hn2]
      have hw1 := HW.out (by simp)
      have hw2 := HW2.out (by simp)
      clear hn1 hn2
      by_cases hlt : 256 < n1 + n2
      · have HR := Lib.hid (show R = 3 by rw [HRE.out, if_neg (by simp), if_neg (by simp), if_pos hlt])
        go_wp2_with fail
        go_returns
        rw [HR.out]
        exact RetE.bad (by decide) HB3.out
      · have HR := Lib.hid (show R = 0 by rw [HRE.out, if_neg (by simp), if_neg (by simp), if_neg hlt])
        have hsz := HB3.out.size
        go_wp2_with (at_builtin; refine wpList_append_rws encU_len encU_one Try.underlying27 infoUn (by decide) (by decide) w3 rfl (.tmp 41) (.tmp 42) rfl w.heap.size B n1 d l1 (by rfl) HO3.out _ B2 n2 d2 l2 (by rfl) HU2.out (by unfold maxLen; omega) (by omega) hsz ?_)
        intro A3 c3 w4 hO4 hg4 hat4
        have HB4 := Lib.hid (OwnR.grownBelow HO3.out hg4 HB3.out hsz)
        have HO4 := Lib.hid hO4
        clear hO4 hg4 hat4 hsz
        go_wp2_with fail
        go_returns
        exact RetE.ok HR.out HB4.out HO4.out
end Go.Proofs.Ythnenmglmebljaa
