/-
  The statements' own fit: a row brought to fit a length, at most twelve units. Conditions: the length is at most a thousand; the Chars start from a number between 0 and ten thousand.
-/
import Derived.Test.YtldmnkakpmplnaaGreatUd38
import Derived.Test.YtldmnkakpmplnaaGreatUd48
import Derived.Test.YtldmnkakpmplnaaGreatUd11
import Derived.Test.YtldmnkakpmplnaaGreatUd02
import Derived.BigQuiet
set_option maxRecDepth 100000
namespace Go.Proofs.YtldmnkakpmplnaaGreat
open Go.RowKit
open Pl (Un)
theorem unit_row (w : World) (k p c x y : Int) : OwnU (w.alloc (.cells #[.int .i64 k, .int .i64 p, .int .i32 c, .int .u32 x, .int .u64 y] 47)) w.heap.size (.slice (some ⟨w.heap.size, 0, none⟩) 1 1) [⟨k, p, c, x, y⟩] := units_lit w [⟨k, p, c, x, y⟩] (by simp [maxLen])
set_option maxHeartbeats 1000000 in
theorem numbered13_any (n : Nat) (hn : n ≤ 1000) (w : World) :
    Calls Tryz.prog 38 #[.int .i64 (n : Int)] w fun e w' => ∃ A c, e = .returned (.slice A n c) ∧ OwnC w' w.heap.size (.slice A n c) (Pl.numL n) ∧ Below w.heap.size w w' := by
  go_enter Tryz.func38, Tryz.ntmps38
  go_wp2_with fail
  go_loopw [3, 6] (fun s i wr => (∃ j : Nat, i = .int .i64 (j : Int) ∧ j ≤ n) ∧ NuR w s i wr) (fun _ i _ => n - (intOf i).toNat)
  case atStart => exact ⟨⟨0, rfl, Nat.zero_le _⟩, 0, none, 0, rfl, rfl, OwnC.nil_ _ _, Below.refl _ _⟩
  case round =>
    obtain ⟨⟨j0, e0, hj⟩, j, A, c, rfl, rfl, ho, hb⟩ := hrel
    obtain rfl : j0 = j := by injection e0 with _ e; omega
    have HO := Lib.hid ho
    have HB := Lib.hid hb
    clear ho hb e0
    by_cases hlt : j0 < n
    · have z0 : (0 : Int) ≤ (j0 : Int) := Int.natCast_nonneg j0
      have z1 : (j0 : Int) < (n : Int) := Int.ofNat_lt.2 hlt
      have HMS := Lib.hid (show n - (j0 + 1) < n - j0 by omega)
      have HJ1 := Lib.hid (show j0 + 1 ≤ n from hlt)
      have HNS := Lib.hid (Pl.num_succ j0)
      have hj32 : Pl.J (1000 + (j0 : Int)) := by unfold Pl.J; omega
      have HSV := Lib.hid (show Crs (World.alloc wr (.cells #[.int .i32 (1000 + (j0 : Int))] 41)) (World.alloc wr (.cells #[.int .i32 (1000 + (j0 : Int))] 41)).heap.size (some ⟨wr.heap.size, 0, none⟩) 1 1 [1000 + (j0 : Int)] from (crs_lit wr [1000 + (j0 : Int)] (fun x hx => by rw [List.mem_singleton.1 hx]; exact hj32) (by simp [maxLen])).crs.2)
      have hbx := below_box wr (.cells #[.int .i32 (1000 + (j0 : Int))] 41)
      have HOV := Lib.hid (OwnC.then_ HO.out hbx)
      have HBV := Lib.hid (below_then HB.out hbx)
      have hsz := HBV.out.size
      clear hbx hj32
      go_wp2_with (at_builtin; refine wpList_append_crs (World.alloc wr (.cells #[.int .i32 (1000 + (j0 : Int))] 41)) rfl (.tmp 9) (.tmp 13) rfl w.heap.size A j0 c (Pl.numL j0) (by rfl) HOV.out _ (some ⟨wr.heap.size, 0, none⟩) 1 1 [1000 + (j0 : Int)] (by rfl) HSV.out (by omega) hsz ?_)
      intro A5 c5 w5 hO5 hg5 _
      have HO5 := Lib.hid hO5
      rw [← HNS.out] at HO5
      have HB5 := Lib.hid (below_appendC HOV.out hg5 HBV.out hsz)
      clear hO5 hg5 hsz HSV HOV HBV
      go_wp2_with fail
      go_roundw
      case rel => exact ⟨⟨j0 + 1, by go_num, HJ1.out⟩, j0 + 1, A5, c5, by go_num, rfl, HO5.out, HB5.out⟩
      case measure => simp [intOf]; exact HMS.out
    · obtain rfl : n = j0 := by omega
      go_wp2_with fail
      go_ret
      exact ⟨A, c, rfl, HO.out, HB.out⟩
namespace Pl
def FiOk (x y f : Int) : List Un → Nat → Nat → Prop
  | [], _, _ => True
  | u :: r, n, i => u.x = x ∧ u.y = y ∧ (u.k = 1 ∧ (∃ q : Nat, u.p = (q : Int) ∧ q ≤ n) ∧ u.c = f + (i : Int) ∧ FiOk x y f r (n + 1) (i + 1) ∨ u.k = 2 ∧ (∃ q : Nat, u.p = (q : Int) ∧ q < n) ∧ u.c = 0 ∧ FiOk x y f r (n - 1) (i + 1))
theorem fi_snoc {x y f : Int} : ∀ {l : List Un} {n i : Nat} {u : Un}, FiOk x y f l n i → FiOk x y f [u] (endN l n) (i + l.length) → FiOk x y f (l ++ [u]) n i
  | [], _, _, _, _, h => h
  | v :: l, n, i, u, ⟨h1, h2, h3⟩, h => by
    refine ⟨h1, h2, ?_⟩
    have e : i + (v :: l).length = i + 1 + l.length := by simp only [List.length_cons]; omega
    rw [e] at h
    rcases h3 with ⟨a, b, c, d⟩ | ⟨a, b, c, d⟩
    · refine Or.inl ⟨a, b, c, fi_snoc d ?_⟩
      have : endN (v :: l) n = endN l (n + 1) := by show endN l _ = _; rw [if_pos a]
      rwa [this] at h
    · refine Or.inr ⟨a, b, c, fi_snoc d ?_⟩
      have : endN (v :: l) n = endN l (n - 1) := by show endN l _ = _; rw [if_neg (by omega), if_pos a]
      rwa [this] at h
theorem fi_fit {x y f : Int} (hf : 0 ≤ f ∧ f ≤ 10000) : ∀ {l : List Un} {n i : Nat} {cs : List Int}, FiOk x y f l n i → cs.length = n → n + l.length ≤ 1000000 → i + l.length ≤ 1000 → FitR l cs
  | [], _, _, _, _, _, _, _ => trivial
  | u :: l, n, i, cs, ⟨_, _, h3⟩, hl, hn, hi => by
    simp only [List.length_cons] at hn hi
    obtain ⟨k, p, c, x1, y1⟩ := u
    rcases h3 with ⟨rfl, ⟨q, rfl, hq⟩, rfl, d⟩ | ⟨rfl, ⟨q, rfl, hq⟩, rfl, d⟩
    · refine ⟨fit_ins x1 y1 (by omega) (by unfold May; omega), ?_⟩
      rw [behind_ins]
      exact fi_fit hf d (by rw [len_insL (by omega)]; omega) (by omega) (by omega)
    · refine ⟨fit_del x1 y1 (by omega) may_zero, ?_⟩
      rw [behind_del]
      exact fi_fit hf d (by have := len_delL (p := q) (l := cs) (by omega); omega) (by omega) (by omega)
theorem fi_of {x y f : Int} : ∀ {l : List Un} {n i : Nat}, FiOk x y f l n i → ∀ u ∈ l, u.x = x ∧ u.y = y
  | [], _, _, _, u, hu => by cases hu
  | v :: l, n, i, ⟨h1, h2, h3⟩, u, hu => by
    rcases List.mem_cons.1 hu with rfl | hu
    · exact ⟨h1, h2⟩
    · rcases h3 with ⟨_, _, _, d⟩ | ⟨_, _, _, d⟩ <;> exact fi_of d u hu
theorem fi_brings {x y f : Int} : ∀ {l : List Un} {n i : Nat}, FiOk x y f l n i → ∀ u ∈ l, u.k = 1 → f ≤ u.c ∧ u.c < f + (i + l.length : Nat)
  | [], _, _, _, u, hu, _ => by cases hu
  | v :: l, n, i, ⟨h1, h2, h3⟩, u, hu, hk => by
    simp only [List.length_cons]
    rcases List.mem_cons.1 hu with rfl | hu
    · rcases h3 with ⟨_, _, c, _⟩ | ⟨a, _⟩
      · omega
      · omega
    · rcases h3 with ⟨_, _, _, d⟩ | ⟨_, _, _, d⟩
      all_goals
        have := fi_brings d u hu hk
        omega
theorem fi_kinds {x y f : Int} : ∀ {l : List Un} {n i : Nat}, FiOk x y f l n i → ∀ u ∈ l, u.k = 1 ∨ u.k = 2
  | [], _, _, _, u, hu => by cases hu
  | v :: l, n, i, ⟨h1, h2, h3⟩, u, hu => by
    rcases List.mem_cons.1 hu with rfl | hu
    · exact h3.imp And.left And.left
    · rcases h3 with ⟨_, _, _, d⟩ | ⟨_, _, _, d⟩ <;> exact fi_kinds d u hu
end Pl
def FjS (wr : World) (b : Nat) (k p ch q c2 x y : Int) (L : Nat → Bool) (w : World) : Prop :=
  UAt w b (if L 13 = true then 1 else k) (if L 15 = true then q else p) (if L 17 = true then c2 else ch) x y ∧ (L 15 = true → L 1 = true) ∧ Tn (fun z => z = b) wr w
section
variable {wr w : World} {b i : Nat} {k p ch q c2 x y : Int} {L : Nat → Bool}
theorem FjS.stay (h : FjS wr b k p ch q c2 x y L w) (h1 : i ≠ 13) (h2 : i ≠ 15) (h3 : i ≠ 17) : FjS wr b k p ch q c2 x y (Rq.up L i) w := by
  obtain ⟨g1, g2, g4⟩ := h
  unfold FjS
  rw [rq_other h1, rq_other h2, rq_other h3]
  exact ⟨g1, fun h => rq_keep (g2 h), g4⟩
theorem FjS.pos (h : FjS wr b k p ch q c2 x y L w) (hL : L 1 = false) : w.cell? ⟨b, 1, none⟩ = some (.int .i64 p) := by
  have e : L 15 = false := by
    cases e : L 15 with
    | false => rfl
    | true => have := h.2.1 e; rw [hL] at this; cases this
  have := h.1.cells.2.1
  rw [e] at this
  exact this
theorem FjS.set0 (h : FjS wr b k p ch q c2 x y L w) : FjS wr b k p ch q c2 x y (Rq.up L 13) (w.setCell ⟨b, 0, none⟩ (.int .i64 1)) := by
  obtain ⟨g1, g2, g4⟩ := h
  unfold FjS
  rw [rq_same, rq_other (by decide), rq_other (by decide), if_pos rfl]
  exact ⟨blk_set (i := 0) g1 (.int .i64 1), fun h => rq_keep (g2 h), Tn.set_ (T := fun z => z = b) g4 (p := ⟨b, 0, none⟩) (Or.inr rfl) _⟩
theorem FjS.set1 (h : FjS wr b k p ch q c2 x y L w) (h1 : L 1 = true) : FjS wr b k p ch q c2 x y (Rq.up L 15) (w.setCell ⟨b, 1, none⟩ (.int .i64 q)) := by
  obtain ⟨g1, g2, g4⟩ := h
  unfold FjS
  rw [rq_same, rq_other (by decide), rq_other (by decide), if_pos rfl]
  exact ⟨blk_set (i := 1) g1 (.int .i64 q), fun _ => rq_keep h1, Tn.set_ (T := fun z => z = b) g4 (p := ⟨b, 1, none⟩) (Or.inr rfl) _⟩
theorem FjS.set2 (h : FjS wr b k p ch q c2 x y L w) : FjS wr b k p ch q c2 x y (Rq.up L 17) (w.setCell ⟨b, 2, none⟩ (.int .i32 c2)) := by
  obtain ⟨g1, g2, g4⟩ := h
  unfold FjS
  rw [rq_same, rq_other (by decide), rq_other (by decide), if_pos rfl]
  exact ⟨blk_set (i := 2) g1 (.int .i32 c2), fun h => rq_keep (g2 h), Tn.set_ (T := fun z => z = b) g4 (p := ⟨b, 2, none⟩) (Or.inr rfl) _⟩
end
def FiR (w : World) (x y f : Int) (l : List Un) (N : Nat) (s o i : Value) (wr : World) : Prop := ∃ (j : Nat) (A : Option Addr) (c : Nat) (out : List Un), i = .int .i64 (j : Int) ∧ s = .int .i64 ((Pl.endN out N : Nat) : Int) ∧ o = .slice A j c ∧ out.length = j ∧ j ≤ l.length ∧ j ≤ 12 ∧ OwnU wr w.heap.size (.slice A j c) out ∧ Pl.FiOk x y f out N 0 ∧ ((∀ u ∈ l, u.k ≠ 2) → ∀ u ∈ out, u.k = 1) ∧ Below w.heap.size w wr
def RetF (w : World) (x y f : Int) (l : List Un) (N : Nat) (e : Ending) (w' : World) : Prop := ∃ (A : Option Addr) (c : Nat) (out : List Un), e = .returned (.slice A out.length c) ∧ out.length ≤ 12 ∧ OwnU w' w.heap.size (.slice A out.length c) out ∧ Pl.FiOk x y f out N 0 ∧ ((∀ u ∈ l, u.k ≠ 2) → ∀ u ∈ out, u.k = 1) ∧ Below w.heap.size w w'
theorem kinds_snoc {P : Prop} {out : List Un} {u : Un} (h : P → ∀ v ∈ out, v.k = 1) (hu : P → u.k = 1) : P → ∀ v ∈ out ++ [u], v.k = 1 := fun hp v hv => by
  rcases List.mem_append.1 hv with hv | hv
  · exact h hp v hv
  · rw [List.mem_singleton.1 hv]; exact hu hp
set_option maxHeartbeats 2000000 in
theorem fitted_any (A : Option Addr) (m c : Nat) (l : List Un) (N : Nat) (x y f : Int) (w0 : World) (h : Uns w0 w0.heap.size A m c l) (hN : N ≤ 1000) (hf : 0 ≤ f ∧ f ≤ 10000) :
    Calls Tryz.prog 36 #[.slice A m c, .int .i64 (N : Int), .agg #[.int .u32 x, .int .u64 y], .int .i32 f] w0 (RetF w0 x y f l N) := by
  have hcap := h.cap
  have hle := h.le
  unfold maxLen at hcap
  obtain ⟨w, hw⟩ : ∃ w, w = w0.alloc (.cells #[.int .u32 x, .int .u64 y] 43) := ⟨_, rfl⟩
  have hbw : Below w0.heap.size w0 w := by rw [hw]; exact below_box _ _
  have hid : IdAt w w0.heap.size x y := by rw [hw]; exact heap_new rfl
  have HU := Lib.hid (Rws.then_ h hbw)
  have HML := Lib.hid h.len
  have HID := Lib.hid hid
  have HIL := Lib.hid hid.lt
  have HW := Lib.hid hw
  have HBV := Lib.hid hbw
  have HFF := Lib.hid hf
  clear h hbw hid hw
  go_enter Tryz.func36, Tryz.ntmps36
  go_wp2_with fail
  rw [show w0.alloc (.cells #[.int .u32 x, .int .u64 y] 43) = w from HW.out.symm]
  go_loopw [1, 9, 14] (fun s o i wr => FiR w x y f l N s o i wr) (fun _ _ i _ => m - (intOf i).toNat)
  case atStart => exact ⟨0, none, 0, [], rfl, rfl, rfl, rfl, Nat.zero_le _, Nat.zero_le _, OwnR.nil_ _ _ _ _ _, trivial, (fun _ u hu => by cases hu), Below.refl _ _⟩
  case round =>
    obtain ⟨j, A2, c2, out, rfl, rfl, rfl, hol, hj, hj12, ho, hbr, hki, hb⟩ := hrel
    have HB := Lib.hid hb
    have HO := Lib.hid ho
    have HBR := Lib.hid hbr
    have HKI := Lib.hid hki
    have HOL := Lib.hid hol
    have hen := Pl.endN_le out N
    rw [HML.out] at hj
    obtain ⟨n, hn⟩ : ∃ n, n = Pl.endN out N := ⟨_, rfl⟩
    rw [← hn] at hen ⊢
    have HN := Lib.hid hn
    obtain ⟨i0, i1⟩ := (HID.out.tn (Tn.of (fun _ => False) hb) (fun h => h)).cells
    clear hb ho hbr hol hn hki
    by_cases hlt : j < m
    · obtain ⟨g1, o1, rfl, hg1, hc1⟩ := Uns.at_ (Rws.below HU.out HB.out (Nat.le_refl _)) hlt
      obtain ⟨a0, a1, a2, a3, a4⟩ := hc1 j hlt
      have hjl : j < l.length := by rw [HML.out]; exact hlt
      have HME := Lib.hid (mem_getD hjl)
      obtain ⟨u, hu⟩ : ∃ u, u = l.getD j default := ⟨_, rfl⟩
      rw [← hu] at a0 a1 a2 a3 a4 HME
      obtain ⟨k, p, ch, x1, y1⟩ := u
      simp only at a0 a1 a2 a3 a4
      have z0 : (0 : Int) ≤ (j : Int) := by omega
      have z1 : (j : Int) < (m : Int) := by omega
      clear hc1 hu
      by_cases h12 : j = 12
      · subst h12
        replace a0 : wr.cell? ⟨g1, o1 + 60, none⟩ = some (.int .i64 k) := a0
        replace a1 : wr.cell? ⟨g1, o1 + 60 + 1, none⟩ = some (.int .i64 p) := a1
        replace a2 : wr.cell? ⟨g1, o1 + 60 + 2, none⟩ = some (.int .i32 ch) := a2
        replace a3 : wr.cell? ⟨g1, o1 + 60 + 3, none⟩ = some (.int .u32 x1) := a3
        replace a4 : wr.cell? ⟨g1, o1 + 60 + 4, none⟩ = some (.int .u64 y1) := a4
        have z1 : (12 : Int) < (m : Int) := by omega
        go_wp2_with fail
        go_ret
        refine ⟨A2, c2, out, ?_, by rw [HOL.out]; exact Nat.le_refl _, ?_, HBR.out, HKI.out, HBV.out.trans ((below_then' HB.out (below_box wr _) HB.out.size).mono HBV.out.size)⟩
        · rw [HOL.out]; rfl
        · rw [HOL.out]; exact OwnR.lower (OwnR.then_ HO.out (below_box wr _)) HBV.out.size
      · have hb12 : ((j : Int) == 12) = false := by rw [beq_eq_false_iff_ne]; omega
        have HJ := Lib.hid (show j + 1 ≤ m ∧ j + 1 ≤ 12 from by omega)
        have i2 : (wr.alloc (.cells #[.int .i64 k, .int .i64 p, .int .i32 ch, .int .u32 x1, .int .u64 y1] 47)).cell? ⟨w0.heap.size, 0, none⟩ = some (.int .u32 x) := (((HID.out.tn (Tn.of (fun _ => False) HB.out) (fun h => h)).tn (Tn.of (fun _ => False) (below_box wr _)) (fun h => h)).cells).1
        have i3 : (wr.alloc (.cells #[.int .i64 k, .int .i64 p, .int .i32 ch, .int .u32 x1, .int .u64 y1] 47)).cell? ⟨w0.heap.size, 1, none⟩ = some (.int .u64 y) := (((HID.out.tn (Tn.of (fun _ => False) HB.out) (fun h => h)).tn (Tn.of (fun _ => False) (below_box wr _)) (fun h => h)).cells).2
        by_cases h2 : k = 2 ∧ 0 < n
        · obtain ⟨rfl, hn0⟩ := h2
          have z2 : (0 : Int) < (n : Int) := by omega
          obtain ⟨U, q, r1, r2, r3, r4, r5, r6, r7⟩ := round_i p n hn0 (by have := HOL.out; omega)
          have hw1 : wrap64 ((n : Int) - 1) = ((n - 1 : Nat) : Int) := by have := HOL.out; unfold wrap64; omega
          have HBR2 := Lib.hid (Pl.fi_snoc HBR.out (show Pl.FiOk x y f [⟨2, (q : Int), 0, x, y⟩] (Pl.endN out N) (0 + out.length) from ⟨rfl, rfl, Or.inr ⟨rfl, ⟨q, rfl, by rw [← HN.out]; exact r4⟩, rfl, trivial⟩⟩))
          have HKI2 := Lib.hid (kinds_snoc (u := ⟨2, (q : Int), 0, x, y⟩) HKI.out (fun h => absurd rfl (h _ HME.out)))
          have HEN2 := Lib.hid (show Pl.endN (out ++ [⟨2, (q : Int), 0, x, y⟩]) N = n - 1 from by rw [Pl.endN_snoc, ← HN.out]; rfl)
          obtain ⟨W1, hW1⟩ : ∃ W1, W1 = wr.alloc (.cells #[.int .i64 2, .int .i64 (q : Int), .int .i32 0, .int .u32 x, .int .u64 y] 47) := ⟨_, rfl⟩
          have HSZ := Lib.hid (show W1.heap.size = wr.heap.size + 1 by rw [hW1]; simp)
          have hbb : Below wr.heap.size wr W1 := by rw [hW1]; exact below_box _ _
          have HOO := Lib.hid (OwnR.then_ HO.out hbb)
          have HBB := Lib.hid (below_then' HB.out hbb HB.out.size)
          clear hbb r4
          have HRW := Lib.hid (show OwnU (World.alloc W1 (.cells #[.int .i64 2, .int .i64 (q:Int), .int .i32 0, .int .u32 x, .int .u64 y] 47)) wr.heap.size (.slice (some ⟨(wr.heap.size+1), 0, none⟩) 1 1) [⟨2, (q:Int), 0, x, y⟩] from by
            have h := unit_row W1 2 (q:Int) 0 x y
            rw [HSZ.out] at h
            exact OwnR.lower h (by omega))
          have HOW := Lib.hid (show OwnU (World.alloc W1 (.cells #[.int .i64 2, .int .i64 (q:Int), .int .i32 0, .int .u32 x, .int .u64 y] 47)) w.heap.size (.slice A2 j c2) out from OwnR.then_ HOO.out (below_box _ _))
          have HBW := Lib.hid (below_then' HBB.out (below_box W1 (.cells #[.int .i64 2, .int .i64 (q:Int), .int .i32 0, .int .u32 x, .int .u64 y] 47)) HBB.out.size)
          rw [hW1] at HRW HOW HBW
          have hjm : j < m := hlt
          clear hW1
          go_wp2_with (at_builtin; refine wpList_append_rws encU_len encU_one Tryz.underlying29 infoUn (by decide) (by decide) (World.alloc (wr.alloc (.cells #[.int .i64 2, .int .i64 (q:Int), .int .i32 0, .int .u32 x, .int .u64 y] 47)) (.cells #[.int .i64 2, .int .i64 (q:Int), .int .i32 0, .int .u32 x, .int .u64 y] 47)) rfl (.tmp 58) (.tmp 60) rfl w.heap.size A2 j c2 out (by rfl) HOW.out _ (some ⟨(wr.heap.size+1), 0, none⟩) 1 1 [⟨2, (q:Int), 0, x, y⟩] (by rfl) (OwnU.uns HRW.out) (by unfold maxLen; omega) (by omega) HBW.out.size ?_)
          intro A3 c3 w3 hO3 hg3 hat3
          have HO3 := Lib.hid (show OwnU w3 w.heap.size (.slice A3 (j + 1) c3) (out ++ [⟨2, (q:Int), 0, x, y⟩]) from hO3)
          have HB3 := Lib.hid (OwnR.grownBelow HOW.out hg3 HBW.out HBW.out.size)
          clear hO3 hg3 hat3
          go_wp2_with fail
          go_roundw
          case rel => exact ⟨j + 1, A3, c3, _, by go_num, by rw [HEN2.out], rfl, by rw [List.length_append, HOL.out]; rfl, by rw [HML.out]; exact HJ.out.1, HJ.out.2, HO3.out, HBR2.out, HKI2.out, HB3.out⟩
          case measure => simp [intOf]; exact fi_meas hlt
        · obtain ⟨n1, hn1⟩ : ∃ n1, n1 = n + 1 := ⟨_, rfl⟩
          obtain ⟨U, q, r1, r3, r4, r4b, r5, r6, _⟩ := round_i p n1 (by omega) (by have := HOL.out; omega)
          have r0 : ¬ n1 = 0 := by rw [hn1]; exact Nat.succ_ne_zero n
          have hqn : q ≤ n := by rw [hn1] at r4b; exact Nat.lt_succ_iff.1 r4b
          obtain ⟨c4, hc4⟩ : ∃ c4, c4 = f + (j : Int) := ⟨_, rfl⟩
          have hff := HFF.out
          have r2 : IntKind.i64.wrap ((n : Int) + 1) = (n1 : Int) := by have := HOL.out; rw [IntKind.wrap_i64]; omega
          have r7 : IntKind.i32.wrap (j : Int) = (j : Int) := by rw [IntKind.wrap_i32]; omega
          have r8 : IntKind.i32.wrap (f + (j : Int)) = c4 := by rw [IntKind.wrap_i32]; omega
          have hw1 : wrap64 ((n : Int) + 1) = (n1 : Int) := by have := HOL.out; unfold wrap64; omega
          have HBR2 := Lib.hid (Pl.fi_snoc HBR.out (show Pl.FiOk x y f [⟨1, (q : Int), c4, x, y⟩] (Pl.endN out N) (0 + out.length) from ⟨rfl, rfl, Or.inl ⟨rfl, ⟨q, rfl, by rw [← HN.out]; exact hqn⟩, by rw [HOL.out, Nat.zero_add]; exact hc4, trivial⟩⟩))
          have HKI2 := Lib.hid (kinds_snoc (u := ⟨1, (q : Int), c4, x, y⟩) HKI.out (fun _ => rfl))
          have HEN2 := Lib.hid (show Pl.endN (out ++ [⟨1, (q : Int), c4, x, y⟩]) N = n1 from by rw [Pl.endN_snoc, ← HN.out, hn1]; rfl)
          obtain ⟨W0, hW0⟩ : ∃ W0, W0 = wr.alloc (.cells #[.int .i64 k, .int .i64 p, .int .i32 ch, .int .u32 x, .int .u64 y] 47) := ⟨_, rfl⟩
          have hbb : Below wr.heap.size wr W0 := by rw [hW0]; exact below_box _ _
          have HSW := Lib.hid (show W0.heap.size = wr.heap.size + 1 by rw [hW0]; simp)
          obtain ⟨b, hb⟩ : ∃ b, b = wr.heap.size := ⟨_, rfl⟩
          have HU0 := Lib.hid (show FjS W0 b k p ch (q : Int) c4 x y (fun _ => false) W0.drew from ⟨by rw [hb, hW0]; exact uat_new wr k p ch x y, (fun h => by cases h), (Tn.refl _ _).drew⟩)
          have HO0 := Lib.hid (OwnR.then_ HO.out hbb)
          have HB0 := Lib.hid (below_then' HB.out hbb HB.out.size)
          have HBW0 := Lib.hid hb
          have HW0 := Lib.hid hW0
          have HKN := Lib.hid h2
          clear hbb r4b hc4 hb hW0 hn1 hqn hff
          by_cases hk2 : k = 2
          · have hn0 : n = 0 := by
              rcases Nat.eq_zero_or_pos n with h | h
              · exact h
              · exact absurd ⟨hk2, h⟩ h2
            subst hk2
            have z2 : ¬ (0 : Int) < (n : Int) := by rw [hn0]; exact Int.lt_irrefl 0
            clear h2 hn0
            go_wp2_with fail
            rw [← HW0.out, ← HBW0.out]
            clear a0 a1 a2 a3 a4 i0 i1
            refine Rq.wp_region_inv (FjS W0 b _ p ch (q : Int) c4 x y) PR0 (Rq.Wd.at [.is (.pointer (some ⟨b, 1, none⟩)), .is (.int .i64 p), .is (.int .u64 (U : Int)), .is (.int .i64 (n : Int)), .is (.int .i64 (n1 : Int)), .is (.int .u64 (n1 : Int)), .is (.int .u64 (q : Int)), .is (.int .i64 (q : Int)), .is (.int .i32 f), .is (.int .i64 (j : Int)), .is (.int .i32 (j : Int)), .is (.int .i32 c4), .is (.pointer (some ⟨b, 0, none⟩)), .any, .is (.pointer (some ⟨b, 1, none⟩)), .any, .is (.pointer (some ⟨b, 2, none⟩)), .any]) (by kernel_rfl) (by kernel_rfl) (Rq.Wd.stays _ _ (fun i q hi => (by rcases i with _ | _ | _ | _ | _ | _ | _ | _ | _ | _ | _ | _ | _ | _ | _ | _ | _ | _ | i <;> simp at hi))) (HU0.out) ⟨?_, ?_, ?_, ?_, ?_, ?_, ?_, ?_, ?_, ?_, ?_, ?_, ?_, ?_, ?_, ?_, ?_, ?_, trivial⟩ ?_
            · intro L a w1 hL hS hb hd
              have e11 := hb 11 (Rq.nw (by decide))
              simp [Act.eval] at e11
              exact Rq.does_pure (Rq.wanted_none rfl) (by simp [execOp, e11, go_sem]) rfl (hS.stay (by decide) (by decide) (by decide)) trivial
            · intro L a w1 hL hS hb hd
              have p41 := (hd ⟨0, .data⟩ (by simp) rfl).2 _ _ rfl rfl
              have e41 : a.tmps[41]?.getD undef = (.pointer (some ⟨b, 1, none⟩)) := Rq.slot p41
              exact Rq.does_pure (Rq.wanted_none rfl) (by simp [execOp, e41, (hS.pos hL), go_sem]) rfl (hS.stay (by decide) (by decide) (by decide)) trivial
            · intro L a w1 hL hS hb hd
              have p42 := (hd ⟨1, .data⟩ (by simp) rfl).2 _ _ rfl rfl
              have e42 : a.tmps[42]?.getD undef = (.int .i64 p) := Rq.slot p42
              exact Rq.does_pure (Rq.wanted_none rfl) (by simp [execOp, e42, r1, go_sem]) rfl (hS.stay (by decide) (by decide) (by decide)) trivial
            · intro L a w1 hL hS hb hd
              have e1 := hb 1 (Rq.nw (by decide))
              simp [Act.eval] at e1
              exact Rq.does_pure (Rq.wanted_none rfl) (by simp [execOp, e1, go_sem]) rfl (hS.stay (by decide) (by decide) (by decide)) trivial
            · intro L a w1 hL hS hb hd
              have p44 := (hd ⟨3, .data⟩ (by simp) rfl).2 _ _ rfl rfl
              have e44 : a.tmps[44]?.getD undef = (.int .i64 (n : Int)) := Rq.slot p44
              exact Rq.does_pure (Rq.wanted_none rfl) (by simp [execOp, e44, r2, go_sem]) rfl (hS.stay (by decide) (by decide) (by decide)) trivial
            · intro L a w1 hL hS hb hd
              have p45 := (hd ⟨4, .data⟩ (by simp) rfl).2 _ _ rfl rfl
              have e45 : a.tmps[45]?.getD undef = (.int .i64 (n1 : Int)) := Rq.slot p45
              exact Rq.does_pure (Rq.wanted_none rfl) (by simp [execOp, e45, r3, go_sem]) rfl (hS.stay (by decide) (by decide) (by decide)) trivial
            · intro L a w1 hL hS hb hd
              have p43 := (hd ⟨2, .data⟩ (by simp) rfl).2 _ _ rfl rfl
              have e43 : a.tmps[43]?.getD undef = (.int .u64 (U : Int)) := Rq.slot p43
              have p46 := (hd ⟨5, .data⟩ (by simp) rfl).2 _ _ rfl rfl
              have e46 : a.tmps[46]?.getD undef = (.int .u64 (n1 : Int)) := Rq.slot p46
              exact Rq.does_pure (Rq.wanted_none rfl) (by simp [execOp, e43, e46, r4, r0, go_sem]) rfl (hS.stay (by decide) (by decide) (by decide)) trivial
            · intro L a w1 hL hS hb hd
              have p47 := (hd ⟨6, .data⟩ (by simp) rfl).2 _ _ rfl rfl
              have e47 : a.tmps[47]?.getD undef = (.int .u64 (q : Int)) := Rq.slot p47
              exact Rq.does_pure (Rq.wanted_none rfl) (by simp [execOp, e47, r6, go_sem]) rfl (hS.stay (by decide) (by decide) (by decide)) trivial
            · intro L a w1 hL hS hb hd
              have e3 := hb 3 (Rq.nw (by decide))
              simp [Act.eval] at e3
              exact Rq.does_pure (Rq.wanted_none rfl) (by simp [execOp, e3, go_sem]) rfl (hS.stay (by decide) (by decide) (by decide)) trivial
            · intro L a w1 hL hS hb hd
              have e10 := hb 10 (Rq.nw (by decide))
              simp [Act.eval] at e10
              exact Rq.does_pure (Rq.wanted_none rfl) (by simp [execOp, e10, go_sem]) rfl (hS.stay (by decide) (by decide) (by decide)) trivial
            · intro L a w1 hL hS hb hd
              have p50 := (hd ⟨9, .data⟩ (by simp) rfl).2 _ _ rfl rfl
              have e50 : a.tmps[50]?.getD undef = (.int .i64 (j : Int)) := Rq.slot p50
              exact Rq.does_pure (Rq.wanted_none rfl) (by simp [execOp, e50, r7, go_sem]) rfl (hS.stay (by decide) (by decide) (by decide)) trivial
            · intro L a w1 hL hS hb hd
              have p49 := (hd ⟨8, .data⟩ (by simp) rfl).2 _ _ rfl rfl
              have e49 : a.tmps[49]?.getD undef = (.int .i32 f) := Rq.slot p49
              have p51 := (hd ⟨10, .data⟩ (by simp) rfl).2 _ _ rfl rfl
              have e51 : a.tmps[51]?.getD undef = (.int .i32 (j : Int)) := Rq.slot p51
              exact Rq.does_pure (Rq.wanted_none rfl) (by simp [execOp, e49, e51, r8, go_sem]) rfl (hS.stay (by decide) (by decide) (by decide)) trivial
            · intro L a w1 hL hS hb hd
              have e11 := hb 11 (Rq.nw (by decide))
              simp [Act.eval] at e11
              exact Rq.does_pure (Rq.wanted_none rfl) (by simp [execOp, e11, go_sem]) rfl (hS.stay (by decide) (by decide) (by decide)) trivial
            · intro L a w1 hL hS hb hd
              have p53 := (hd ⟨12, .data⟩ (by simp) rfl).2 _ _ rfl rfl
              have e53 : a.tmps[53]?.getD undef = (.pointer (some ⟨b, 0, none⟩)) := Rq.slot p53
              have hU := hS.1; have d0 := hU.cells.1; have f2 := fun j => hU.frozen j; exact Rq.does_skip rfl (Rq.wanted_none rfl) (by simp [execOp, e53, go_sem, d0, f2]) trivial (hS.set0) trivial
            · intro L a w1 hL hS hb hd
              have e11 := hb 11 (Rq.nw (by decide))
              simp [Act.eval] at e11
              exact Rq.does_pure (Rq.wanted_none rfl) (by simp [execOp, e11, go_sem]) rfl (hS.stay (by decide) (by decide) (by decide)) trivial
            · intro L a w1 hL hS hb hd
              have p54 := (hd ⟨14, .data⟩ (by simp) rfl).2 _ _ rfl rfl
              have e54 : a.tmps[54]?.getD undef = (.pointer (some ⟨b, 1, none⟩)) := Rq.slot p54
              have p48 := (hd ⟨7, .data⟩ (by simp) rfl).2 _ _ rfl rfl
              have e48 : a.tmps[48]?.getD undef = (.int .i64 (q : Int)) := Rq.slot p48
              have q1 := (hd ⟨1, .phase⟩ (by simp) rfl).1; have hU := hS.1; have d0 := hU.cells.2.1; have f2 := fun j => hU.frozen j; exact Rq.does_skip rfl (Rq.wanted_none rfl) (by simp [execOp, e54, e48, go_sem, d0, f2]) trivial (hS.set1 q1) trivial
            · intro L a w1 hL hS hb hd
              have e11 := hb 11 (Rq.nw (by decide))
              simp [Act.eval] at e11
              exact Rq.does_pure (Rq.wanted_none rfl) (by simp [execOp, e11, go_sem]) rfl (hS.stay (by decide) (by decide) (by decide)) trivial
            · intro L a w1 hL hS hb hd
              have p55 := (hd ⟨16, .data⟩ (by simp) rfl).2 _ _ rfl rfl
              have e55 : a.tmps[55]?.getD undef = (.pointer (some ⟨b, 2, none⟩)) := Rq.slot p55
              have p52 := (hd ⟨11, .data⟩ (by simp) rfl).2 _ _ rfl rfl
              have e52 : a.tmps[52]?.getD undef = (.int .i32 c4) := Rq.slot p52
              have hU := hS.1; have d0 := hU.cells.2.2.1; have f2 := fun j => hU.frozen j; exact Rq.does_skip rfl (Rq.wanted_none rfl) (by simp [execOp, e55, e52, go_sem, d0, f2]) trivial (hS.set2) trivial
            · intro L v w5 hS hall hv
              have hU := hS.1
              rw [if_pos (hall 13 (by decide)), if_pos (hall 15 (by decide)), if_pos (hall 17 (by decide))] at hU
              obtain ⟨e0, e1, e2, e3, e4⟩ := hU.cells
              have HOO := Lib.hid (OwnR.tn HO0.out hS.2.2 (fun g hg e => by have := (HO.out.lt g hg).2; have := HBW0.out; omega))
              have HBB := Lib.hid (hS.2.2.below HB0.out HB0.out.size (fun z hz => by have := HB.out.size; have := HBW0.out; omega))
              have HSZ := Lib.hid (show w5.heap.size = w5.heap.size from rfl)
              have hsz5 := hS.2.2.size
              have hsw := HSW.out
              clear hS hall hv hU
              simp only [Rq.putAll, Nat.zero_add, Nat.reduceAdd]
              simp only [Act.put, List.setIfInBounds_toArray, List.set_cons_succ, List.set_cons_zero]
              have HRW := Lib.hid (show OwnU (World.alloc w5 (.cells #[.int .i64 1, .int .i64 (q:Int), .int .i32 c4, .int .u32 x, .int .u64 y] 47)) wr.heap.size (.slice (some ⟨(w5.heap.size), 0, none⟩) 1 1) [⟨1, (q:Int), c4, x, y⟩] from by
                have h := unit_row w5 1 (q:Int) c4 x y
                rw [HSZ.out] at h
                exact OwnR.lower h (by omega))
              have HOW := Lib.hid (show OwnU (World.alloc w5 (.cells #[.int .i64 1, .int .i64 (q:Int), .int .i32 c4, .int .u32 x, .int .u64 y] 47)) w.heap.size (.slice A2 j c2) out from OwnR.then_ HOO.out (below_box _ _))
              have HBW := Lib.hid (below_then' HBB.out (below_box w5 (.cells #[.int .i64 1, .int .i64 (q:Int), .int .i32 c4, .int .u32 x, .int .u64 y] 47)) HBB.out.size)
              go_wp2_with (at_builtin; refine wpList_append_rws encU_len encU_one Tryz.underlying29 infoUn (by decide) (by decide) (World.alloc w5 (.cells #[.int .i64 1, .int .i64 (q:Int), .int .i32 c4, .int .u32 x, .int .u64 y] 47)) rfl (.tmp 58) (.tmp 60) rfl w.heap.size A2 j c2 out (by rfl) HOW.out _ (some ⟨(w5.heap.size), 0, none⟩) 1 1 [⟨1, (q:Int), c4, x, y⟩] (by rfl) (OwnU.uns HRW.out) (by unfold maxLen; omega) (by omega) HBW.out.size ?_)
              intro A3 c3 w3 hO3 hg3 hat3
              have HO3 := Lib.hid (show OwnU w3 w.heap.size (.slice A3 (j + 1) c3) (out ++ [⟨1, (q:Int), c4, x, y⟩]) from hO3)
              have HB3 := Lib.hid (OwnR.grownBelow HOW.out hg3 HBW.out HBW.out.size)
              clear hO3 hg3 hat3
              go_wp2_with fail
              go_roundw
              case rel => exact ⟨j + 1, A3, c3, _, by go_num, by rw [HEN2.out], rfl, by rw [List.length_append, HOL.out]; rfl, by rw [HML.out]; exact HJ.out.1, HJ.out.2, HO3.out, HBR2.out, HKI2.out, HB3.out⟩
              case measure => simp [intOf]; exact fi_meas hlt
          · have hkb : (k == 2) = false := by simpa using hk2
            clear h2
            go_wp2_with fail
            rw [← HW0.out, ← HBW0.out]
            clear a0 a1 a2 a3 a4 i0 i1
            refine Rq.wp_region_inv (FjS W0 b _ p ch (q : Int) c4 x y) PR0 (Rq.Wd.at [.is (.pointer (some ⟨b, 1, none⟩)), .is (.int .i64 p), .is (.int .u64 (U : Int)), .is (.int .i64 (n : Int)), .is (.int .i64 (n1 : Int)), .is (.int .u64 (n1 : Int)), .is (.int .u64 (q : Int)), .is (.int .i64 (q : Int)), .is (.int .i32 f), .is (.int .i64 (j : Int)), .is (.int .i32 (j : Int)), .is (.int .i32 c4), .is (.pointer (some ⟨b, 0, none⟩)), .any, .is (.pointer (some ⟨b, 1, none⟩)), .any, .is (.pointer (some ⟨b, 2, none⟩)), .any]) (by kernel_rfl) (by kernel_rfl) (Rq.Wd.stays _ _ (fun i q hi => (by rcases i with _ | _ | _ | _ | _ | _ | _ | _ | _ | _ | _ | _ | _ | _ | _ | _ | _ | _ | i <;> simp at hi))) (HU0.out) ⟨?_, ?_, ?_, ?_, ?_, ?_, ?_, ?_, ?_, ?_, ?_, ?_, ?_, ?_, ?_, ?_, ?_, ?_, trivial⟩ ?_
            · intro L a w1 hL hS hb hd
              have e11 := hb 11 (Rq.nw (by decide))
              simp [Act.eval] at e11
              exact Rq.does_pure (Rq.wanted_none rfl) (by simp [execOp, e11, go_sem]) rfl (hS.stay (by decide) (by decide) (by decide)) trivial
            · intro L a w1 hL hS hb hd
              have p41 := (hd ⟨0, .data⟩ (by simp) rfl).2 _ _ rfl rfl
              have e41 : a.tmps[41]?.getD undef = (.pointer (some ⟨b, 1, none⟩)) := Rq.slot p41
              exact Rq.does_pure (Rq.wanted_none rfl) (by simp [execOp, e41, (hS.pos hL), go_sem]) rfl (hS.stay (by decide) (by decide) (by decide)) trivial
            · intro L a w1 hL hS hb hd
              have p42 := (hd ⟨1, .data⟩ (by simp) rfl).2 _ _ rfl rfl
              have e42 : a.tmps[42]?.getD undef = (.int .i64 p) := Rq.slot p42
              exact Rq.does_pure (Rq.wanted_none rfl) (by simp [execOp, e42, r1, go_sem]) rfl (hS.stay (by decide) (by decide) (by decide)) trivial
            · intro L a w1 hL hS hb hd
              have e1 := hb 1 (Rq.nw (by decide))
              simp [Act.eval] at e1
              exact Rq.does_pure (Rq.wanted_none rfl) (by simp [execOp, e1, go_sem]) rfl (hS.stay (by decide) (by decide) (by decide)) trivial
            · intro L a w1 hL hS hb hd
              have p44 := (hd ⟨3, .data⟩ (by simp) rfl).2 _ _ rfl rfl
              have e44 : a.tmps[44]?.getD undef = (.int .i64 (n : Int)) := Rq.slot p44
              exact Rq.does_pure (Rq.wanted_none rfl) (by simp [execOp, e44, r2, go_sem]) rfl (hS.stay (by decide) (by decide) (by decide)) trivial
            · intro L a w1 hL hS hb hd
              have p45 := (hd ⟨4, .data⟩ (by simp) rfl).2 _ _ rfl rfl
              have e45 : a.tmps[45]?.getD undef = (.int .i64 (n1 : Int)) := Rq.slot p45
              exact Rq.does_pure (Rq.wanted_none rfl) (by simp [execOp, e45, r3, go_sem]) rfl (hS.stay (by decide) (by decide) (by decide)) trivial
            · intro L a w1 hL hS hb hd
              have p43 := (hd ⟨2, .data⟩ (by simp) rfl).2 _ _ rfl rfl
              have e43 : a.tmps[43]?.getD undef = (.int .u64 (U : Int)) := Rq.slot p43
              have p46 := (hd ⟨5, .data⟩ (by simp) rfl).2 _ _ rfl rfl
              have e46 : a.tmps[46]?.getD undef = (.int .u64 (n1 : Int)) := Rq.slot p46
              exact Rq.does_pure (Rq.wanted_none rfl) (by simp [execOp, e43, e46, r4, r0, go_sem]) rfl (hS.stay (by decide) (by decide) (by decide)) trivial
            · intro L a w1 hL hS hb hd
              have p47 := (hd ⟨6, .data⟩ (by simp) rfl).2 _ _ rfl rfl
              have e47 : a.tmps[47]?.getD undef = (.int .u64 (q : Int)) := Rq.slot p47
              exact Rq.does_pure (Rq.wanted_none rfl) (by simp [execOp, e47, r6, go_sem]) rfl (hS.stay (by decide) (by decide) (by decide)) trivial
            · intro L a w1 hL hS hb hd
              have e3 := hb 3 (Rq.nw (by decide))
              simp [Act.eval] at e3
              exact Rq.does_pure (Rq.wanted_none rfl) (by simp [execOp, e3, go_sem]) rfl (hS.stay (by decide) (by decide) (by decide)) trivial
            · intro L a w1 hL hS hb hd
              have e10 := hb 10 (Rq.nw (by decide))
              simp [Act.eval] at e10
              exact Rq.does_pure (Rq.wanted_none rfl) (by simp [execOp, e10, go_sem]) rfl (hS.stay (by decide) (by decide) (by decide)) trivial
            · intro L a w1 hL hS hb hd
              have p50 := (hd ⟨9, .data⟩ (by simp) rfl).2 _ _ rfl rfl
              have e50 : a.tmps[50]?.getD undef = (.int .i64 (j : Int)) := Rq.slot p50
              exact Rq.does_pure (Rq.wanted_none rfl) (by simp [execOp, e50, r7, go_sem]) rfl (hS.stay (by decide) (by decide) (by decide)) trivial
            · intro L a w1 hL hS hb hd
              have p49 := (hd ⟨8, .data⟩ (by simp) rfl).2 _ _ rfl rfl
              have e49 : a.tmps[49]?.getD undef = (.int .i32 f) := Rq.slot p49
              have p51 := (hd ⟨10, .data⟩ (by simp) rfl).2 _ _ rfl rfl
              have e51 : a.tmps[51]?.getD undef = (.int .i32 (j : Int)) := Rq.slot p51
              exact Rq.does_pure (Rq.wanted_none rfl) (by simp [execOp, e49, e51, r8, go_sem]) rfl (hS.stay (by decide) (by decide) (by decide)) trivial
            · intro L a w1 hL hS hb hd
              have e11 := hb 11 (Rq.nw (by decide))
              simp [Act.eval] at e11
              exact Rq.does_pure (Rq.wanted_none rfl) (by simp [execOp, e11, go_sem]) rfl (hS.stay (by decide) (by decide) (by decide)) trivial
            · intro L a w1 hL hS hb hd
              have p53 := (hd ⟨12, .data⟩ (by simp) rfl).2 _ _ rfl rfl
              have e53 : a.tmps[53]?.getD undef = (.pointer (some ⟨b, 0, none⟩)) := Rq.slot p53
              have hU := hS.1; have d0 := hU.cells.1; have f2 := fun j => hU.frozen j; exact Rq.does_skip rfl (Rq.wanted_none rfl) (by simp [execOp, e53, go_sem, d0, f2]) trivial (hS.set0) trivial
            · intro L a w1 hL hS hb hd
              have e11 := hb 11 (Rq.nw (by decide))
              simp [Act.eval] at e11
              exact Rq.does_pure (Rq.wanted_none rfl) (by simp [execOp, e11, go_sem]) rfl (hS.stay (by decide) (by decide) (by decide)) trivial
            · intro L a w1 hL hS hb hd
              have p54 := (hd ⟨14, .data⟩ (by simp) rfl).2 _ _ rfl rfl
              have e54 : a.tmps[54]?.getD undef = (.pointer (some ⟨b, 1, none⟩)) := Rq.slot p54
              have p48 := (hd ⟨7, .data⟩ (by simp) rfl).2 _ _ rfl rfl
              have e48 : a.tmps[48]?.getD undef = (.int .i64 (q : Int)) := Rq.slot p48
              have q1 := (hd ⟨1, .phase⟩ (by simp) rfl).1; have hU := hS.1; have d0 := hU.cells.2.1; have f2 := fun j => hU.frozen j; exact Rq.does_skip rfl (Rq.wanted_none rfl) (by simp [execOp, e54, e48, go_sem, d0, f2]) trivial (hS.set1 q1) trivial
            · intro L a w1 hL hS hb hd
              have e11 := hb 11 (Rq.nw (by decide))
              simp [Act.eval] at e11
              exact Rq.does_pure (Rq.wanted_none rfl) (by simp [execOp, e11, go_sem]) rfl (hS.stay (by decide) (by decide) (by decide)) trivial
            · intro L a w1 hL hS hb hd
              have p55 := (hd ⟨16, .data⟩ (by simp) rfl).2 _ _ rfl rfl
              have e55 : a.tmps[55]?.getD undef = (.pointer (some ⟨b, 2, none⟩)) := Rq.slot p55
              have p52 := (hd ⟨11, .data⟩ (by simp) rfl).2 _ _ rfl rfl
              have e52 : a.tmps[52]?.getD undef = (.int .i32 c4) := Rq.slot p52
              have hU := hS.1; have d0 := hU.cells.2.2.1; have f2 := fun j => hU.frozen j; exact Rq.does_skip rfl (Rq.wanted_none rfl) (by simp [execOp, e55, e52, go_sem, d0, f2]) trivial (hS.set2) trivial
            · intro L v w5 hS hall hv
              have hU := hS.1
              rw [if_pos (hall 13 (by decide)), if_pos (hall 15 (by decide)), if_pos (hall 17 (by decide))] at hU
              obtain ⟨e0, e1, e2, e3, e4⟩ := hU.cells
              have HOO := Lib.hid (OwnR.tn HO0.out hS.2.2 (fun g hg e => by have := (HO.out.lt g hg).2; have := HBW0.out; omega))
              have HBB := Lib.hid (hS.2.2.below HB0.out HB0.out.size (fun z hz => by have := HB.out.size; have := HBW0.out; omega))
              have HSZ := Lib.hid (show w5.heap.size = w5.heap.size from rfl)
              have hsz5 := hS.2.2.size
              have hsw := HSW.out
              clear hS hall hv hU
              simp only [Rq.putAll, Nat.zero_add, Nat.reduceAdd]
              simp only [Act.put, List.setIfInBounds_toArray, List.set_cons_succ, List.set_cons_zero]
              have HRW := Lib.hid (show OwnU (World.alloc w5 (.cells #[.int .i64 1, .int .i64 (q:Int), .int .i32 c4, .int .u32 x, .int .u64 y] 47)) wr.heap.size (.slice (some ⟨(w5.heap.size), 0, none⟩) 1 1) [⟨1, (q:Int), c4, x, y⟩] from by
                have h := unit_row w5 1 (q:Int) c4 x y
                rw [HSZ.out] at h
                exact OwnR.lower h (by omega))
              have HOW := Lib.hid (show OwnU (World.alloc w5 (.cells #[.int .i64 1, .int .i64 (q:Int), .int .i32 c4, .int .u32 x, .int .u64 y] 47)) w.heap.size (.slice A2 j c2) out from OwnR.then_ HOO.out (below_box _ _))
              have HBW := Lib.hid (below_then' HBB.out (below_box w5 (.cells #[.int .i64 1, .int .i64 (q:Int), .int .i32 c4, .int .u32 x, .int .u64 y] 47)) HBB.out.size)
              go_wp2_with (at_builtin; refine wpList_append_rws encU_len encU_one Tryz.underlying29 infoUn (by decide) (by decide) (World.alloc w5 (.cells #[.int .i64 1, .int .i64 (q:Int), .int .i32 c4, .int .u32 x, .int .u64 y] 47)) rfl (.tmp 58) (.tmp 60) rfl w.heap.size A2 j c2 out (by rfl) HOW.out _ (some ⟨(w5.heap.size), 0, none⟩) 1 1 [⟨1, (q:Int), c4, x, y⟩] (by rfl) (OwnU.uns HRW.out) (by unfold maxLen; omega) (by omega) HBW.out.size ?_)
              intro A3 c3 w3 hO3 hg3 hat3
              have HO3 := Lib.hid (show OwnU w3 w.heap.size (.slice A3 (j + 1) c3) (out ++ [⟨1, (q:Int), c4, x, y⟩]) from hO3)
              have HB3 := Lib.hid (OwnR.grownBelow HOW.out hg3 HBW.out HBW.out.size)
              clear hO3 hg3 hat3
              go_wp2_with fail
              go_roundw
              case rel => exact ⟨j + 1, A3, c3, _, by go_num, by rw [HEN2.out], rfl, by rw [List.length_append, HOL.out]; rfl, by rw [HML.out]; exact HJ.out.1, HJ.out.2, HO3.out, HBR2.out, HKI2.out, HB3.out⟩
              case measure => simp [intOf]; exact fi_meas hlt
    · go_wp2_with fail
      go_ret
      refine ⟨A2, c2, out, ?_, by rw [HOL.out]; exact hj12, ?_, HBR.out, HKI.out, HBV.out.trans (HB.out.mono HBV.out.size)⟩
      · rw [HOL.out]; rfl
      · rw [HOL.out]; exact OwnR.lower HO.out HBV.out.size
end Go.Proofs.YtldmnkakpmplnaaGreat
