/-
  slices.Sort at uint32. Conditions: at most seventeen.
-/
import Derived.Test.YtjplchajopkpcaaSrJ
namespace Go.Proofs.Ytjplchajopkpcaa
open Go.RowKit Go.Sort

set_option maxRecDepth 100000 in
set_option maxHeartbeats 1000000 in
theorem ins_0 (A : Option Addr) (c : Nat) (w : World) : Calls Try.prog 40 #[.slice A 0 c, .int .i64 0, .int .i64 0] w fun e w' => e = .returned (.tuple #[]) ∧ w' = w := by
  go_enter Try.func40, Try.ntmps40
  go_wp2_with fail
  go_loopw [6] (fun v wr => v = .int .i64 1 ∧ wr = w) (fun v _ => 0)
  case atStart => exact ⟨rfl, rfl⟩
  case round =>
    obtain ⟨rfl, rfl⟩ := hrel
    go_wp2_with fail
    exact ⟨rfl, _, results_none (by kernel_rfl) _ _ _, rfl, rfl⟩
set_option maxRecDepth 100000 in
set_option maxHeartbeats 1000000 in
theorem pdq_0 (A : Option Addr) (c : Nat) (lim : Int) (w : World) : Calls Try.prog 38 #[.slice A 0 c, .int .i64 0, .int .i64 0, .int .i64 lim] w fun e w' => e = .returned (.tuple #[]) ∧ w' = w := by
  have HI := fun w => Lib.hid (ins_0 A c w)
  go_enter Try.func38, Try.ntmps38
  go_wp2_with fail
  go_loopw [1, 2, 3, 8, 9] (fun va vb vl v8 v9 wr => va = .int .i64 0 ∧ vb = .int .i64 0 ∧ wr = w) (fun va vb _ _ _ _ => 0)
  case atStart => exact ⟨rfl, rfl, rfl⟩
  case round =>
    obtain ⟨rfl, rfl, rfl⟩ := hrel
    go_wp2_with fail
    refine (HI _).out.mono ?_
    rintro e w2 ⟨rfl, rfl⟩
    go_wp2_with fail
    exact ⟨rfl, _, results_none (by kernel_rfl) _ _ _, rfl, rfl⟩
theorem bitLen_17 : ∀ n, n < 18 → n ≤ Lib.bitLen n + 12 ∧ Lib.bitLen n < 100 := by decide
/-- what the sort of a row of numbers leaves -/
def RetSo (w : World) (base : Nat) (A : Option Addr) (n c : Nat) (l : List Int) (e : Ending) (w' : World) : Prop :=
  e = .returned (.tuple #[]) ∧ ∃ l', l'.Perm l ∧ l'.Pairwise (· ≤ ·) ∧ OwnR encU 1 25 w' base (.slice A n c) l' ∧ Tn (fun i => ∃ a, A = some a ∧ i = a.block) w w'
theorem sorted_list {d d' : Array Int} (hP : PermIn 0 d.size d d') (hS : SortedIn ltInt 0 d.size d') : d'.toList.Perm d.toList ∧ d'.toList.Pairwise (· ≤ ·) := by
  refine ⟨?_, ?_⟩
  · have := hP.2.2
    simp at this
    rwa [List.take_of_length_le (by simp [hP.1])] at this
  · rw [List.pairwise_iff_getElem]
    intro i j hi hj hij
    have hj' : j < d.size := by rw [← hP.1]; simpa using hj
    have := hS i j (Nat.zero_le _) hij hj'
    have e1 : d'[i]! = d'[i]'(by simpa using hi) := by rw [getElem!_pos d' i (by simpa using hi)]
    have e2 : d'[j]! = d'[j]'(by simpa using hj) := by rw [getElem!_pos d' j (by simpa using hj)]
    rw [e1, e2] at this
    unfold ltInt at this
    simpa using this
set_option maxRecDepth 100000 in
set_option maxHeartbeats 1000000 in
theorem sort_u {w : World} {base n c : Nat} {A : Option Addr} {l : List Int} (h : OwnR encU 1 25 w base (.slice A n c) l) (hn : n ≤ 17) :
    Calls Try.prog 35 #[.slice A n c] w (RetSo w base A n c l) := by
  have hl := (h.rws encU_len).1
  have HBL : ∀ w, Hid (Calls Try.prog 39 #[.int .u64 (n : Int)] w fun e w' => e = .returned (.int .i64 (Lib.bitLen n)) ∧ w' = w) := fun w => Lib.hid (by
    have := Try.bits_Len (n : Int) w (by omega) (by omega)
    simpa using this)
  have hbn := bitLen_17 n (by omega)
  obtain ⟨lim, hlim⟩ : ∃ q, q = Lib.bitLen n := ⟨_, rfl⟩
  rw [← hlim] at HBL hbn
  have HW := Lib.hid (show IntKind.u64.wrap (n : Int) = (n : Int) by rw [IntKind.wrap_u64]; omega)
  rcases Nat.eq_zero_or_pos n with h0 | h0
  · subst h0
    have HP := fun w => Lib.hid (pdq_0 A c (lim : Int) w)
    have HH := Lib.hid h
    have hnil : l = [] := List.eq_nil_of_length_eq_zero hl.symm
    have HNI := Lib.hid hnil
    clear h hn hl hbn hlim hnil
    go_enter Try.func35, Try.ntmps35
    have hw := HW.out
    go_wp2_with fail
    refine (HBL _).out.mono ?_
    rintro e w2 ⟨rfl, rfl⟩
    go_wp2_with fail
    refine (HP _).out.mono ?_
    rintro e w3 ⟨rfl, rfl⟩
    go_wp2_with fail
    exact ⟨rfl, _, results_none (by kernel_rfl) _ _ _, rfl, l, List.Perm.refl _, by rw [HNI.out]; exact List.Pairwise.nil, HH.out, Tn.refl _ _⟩
  · obtain ⟨g, rfl, hb, hg⟩ := h.pos_ h0
    have hs : Sr w base g n c l.toArray w := ⟨by simpa using h, Tn.refl _ _⟩
    have hsz : l.toArray.size = n := hs.size
    have HP := Lib.hid (pdq_u (show n < 50 by omega) (n + 1) w 0 n lim l.toArray hs (Nat.le_refl _) (by omega) (by omega) (Nat.le_refl _) (by omega) hbn.2 (Or.inl rfl))
    have hq := pdq_sorts ltInt swo_ltInt l.toArray 0 n lim true true (Nat.zero_le _) (by rw [hsz]; exact Nat.le_refl _) (Or.inl rfl)
    rw [← hsz] at hq
    have HL := Lib.hid (sorted_list hq.1 hq.2)
    rw [hsz] at HL
    clear h hn hl hbn hlim hs hsz hq h0 hb hg
    go_enter Try.func35, Try.ntmps35
    have hw := HW.out
    go_wp2_with fail
    refine (HBL _).out.mono ?_
    rintro e w2 ⟨rfl, rfl⟩
    go_wp2_with fail
    refine HP.out.mono ?_
    rintro e w3 ⟨rfl, hs3⟩
    have HS3 := Lib.hid hs3
    clear hs3
    go_wp2_with fail
    exact ⟨rfl, _, results_none (by kernel_rfl) _ _ _, rfl, _, HL.out.1, HL.out.2, HS3.out.own, HS3.out.tn.more (fun b _ e => ⟨_, rfl, e⟩)⟩
end Go.Proofs.Ytjplchajopkpcaa
