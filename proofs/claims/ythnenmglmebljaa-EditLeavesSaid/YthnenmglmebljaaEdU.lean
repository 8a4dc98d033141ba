/-
  The document's own May, Fits, Apply of a unit (layer 6), and of a row (layer 8). Conditions: those that each states.
-/
import Derived.Test.YthnenmglmebljaaEdR
import Derived.Test.YthnenmglmebljaaEdO
namespace Go.Proofs.Ythnenmglmebljaa
open Go.RowKit
open Pl (Un)

set_option maxRecDepth 100000 in
set_option maxHeartbeats 400000 in
theorem okay6_any (u : Un) (w : World) :
    Calls Try.prog 41 #[uval u] w fun e w' => e = .returned (.bool (decide (Pl.Okay u))) ∧ Below w.heap.size w w' := by
  obtain ⟨k, p, c, x, y⟩ := u
  have HM := fun w => Lib.hid (may4_any c w)
  obtain ⟨r, hr⟩ : ∃ r, r = decide (Pl.Okay ⟨k, p, c, x, y⟩) := ⟨_, rfl⟩
  rw [← hr]
  have HR := Lib.hid hr
  clear hr
  unfold uval
  simp only
  go_enter Try.func41, Try.ntmps41
  by_cases h0 : k = 0
  · subst h0
    by_cases hp : p = 0
    · subst hp
      go_wp2_with fail
      go_ret
      refine ⟨ret_bool ?_, (Below.refl _ w).alloc (Nat.le_refl _) _⟩
      rw [HR.out]
      unfold Pl.Okay
      rw [Bool.eq_iff_iff]
      simp
    · have hpb : (p == 0) = false := by simpa using hp
      go_wp2_with fail
      go_ret
      refine ⟨ret_bool ?_, (Below.refl _ w).alloc (Nat.le_refl _) _⟩
      rw [HR.out]
      unfold Pl.Okay
      simp [hp]
  · have h0b : (k == 0) = false := by simpa using h0
    by_cases h1 : k = 1 ∨ k = 2
    · by_cases hp : 0 ≤ p
      · rcases h1 with rfl | rfl
        all_goals
          go_wp2_with fail
          refine (HM _).out.mono ?_
          rintro e w' ⟨rfl, rfl⟩
          go_wp2_with fail
          go_ret
          refine ⟨ret_bool ?_, (Below.refl _ w).alloc (Nat.le_refl _) _⟩
          rw [HR.out]
          unfold Pl.Okay
          simp
          intro _
          exact hp
      · rcases h1 with rfl | rfl
        all_goals
          go_wp2_with fail
          go_ret
          refine ⟨ret_bool ?_, (Below.refl _ w).alloc (Nat.le_refl _) _⟩
          rw [HR.out]
          unfold Pl.Okay
          simp
          omega
    · have h2 : ¬ k = 2 := fun h => h1 (Or.inr h)
      have h3 : ¬ k = 1 := fun h => h1 (Or.inl h)
      have h2b : (k == 2) = false := by simpa using h2
      have h3b : (k == 1) = false := by simpa using h3
      clear h1
      go_wp2_with fail
      go_ret
      refine ⟨ret_bool ?_, (Below.refl _ w).alloc (Nat.le_refl _) _⟩
      rw [HR.out]
      unfold Pl.Okay
      simp [h0, h2, h3]
set_option maxRecDepth 100000 in
set_option maxHeartbeats 400000 in
theorem fits6_any (u : Un) (n : Nat) (w : World) :
    Calls Try.prog 42 #[uval u, .int .i64 (n : Int)] w fun e w' => e = .returned (.bool (decide (Pl.Fit u (n : Int)))) ∧ Below w.heap.size w w' := by
  obtain ⟨k, p, c, x, y⟩ := u
  have HM := fun w => Lib.hid (okay6_any ⟨k, p, c, x, y⟩ w)
  obtain ⟨r, hr⟩ : ∃ r, r = decide (Pl.Fit ⟨k, p, c, x, y⟩ (n : Int)) := ⟨_, rfl⟩
  rw [← hr]
  have HR := Lib.hid hr
  clear hr
  have HU := Lib.hid (uat_new w k p c x y)
  have hn0 : (0 : Int) ≤ (n : Int) := Int.natCast_nonneg n
  have hn1 : ¬ (n : Int) < 0 := Int.not_lt.2 hn0
  by_cases hO : Pl.Okay ⟨k, p, c, x, y⟩
  · rw [decide_eq_true hO] at HM
    have HO := Lib.hid hO
    clear hO
    unfold uval at *
    simp only at *
    go_enter Try.func42, Try.ntmps42
    by_cases h1 : k = 1
    · subst h1
      go_wp2_with fail
      refine (HM _).out.mono ?_
      rintro e w' ⟨rfl, hb⟩
      have HB := Lib.hid (below_on hb)
      obtain ⟨c0, c1, c2, c3, c4⟩ := (HU.out.then_ hb).cells
      clear hb
      go_wp2_with fail
      go_ret
      refine ⟨ret_bool ?_, HB.out⟩
      rw [HR.out]
      unfold Pl.Fit
      simp [HO.out]
    · by_cases h2 : k = 2
      · subst h2
        go_wp2_with fail
        refine (HM _).out.mono ?_
        rintro e w' ⟨rfl, hb⟩
        have HB := Lib.hid (below_on hb)
        obtain ⟨c0, c1, c2, c3, c4⟩ := (HU.out.then_ hb).cells
        clear hb
        go_wp2_with fail
        go_ret
        refine ⟨ret_bool ?_, HB.out⟩
        rw [HR.out]
        unfold Pl.Fit
        simp [HO.out]
      · go_wp2_with fail
        refine (HM _).out.mono ?_
        rintro e w' ⟨rfl, hb⟩
        have HB := Lib.hid (below_on hb)
        obtain ⟨c0, c1, c2, c3, c4⟩ := (HU.out.then_ hb).cells
        clear hb
        go_wp2_with fail
        go_ret
        refine ⟨ret_bool ?_, HB.out⟩
        rw [HR.out]
        unfold Pl.Fit
        simp [HO.out, h1, h2]
  · rw [decide_eq_false hO] at HM
    have HO := Lib.hid (show r = false by rw [HR.out]; exact decide_eq_false fun h => hO h.1)
    clear hO HR
    unfold uval at *
    simp only at *
    go_enter Try.func42, Try.ntmps42
    by_cases h1 : k = 1
    · subst h1
      go_wp2_with fail
      refine (HM _).out.mono ?_
      rintro e w' ⟨rfl, hb⟩
      have HB := Lib.hid (below_on hb)
      clear hb
      go_wp2_with fail
      go_ret
      exact ⟨ret_bool HO.out.symm, HB.out⟩
    · by_cases h2 : k = 2
      · subst h2
        go_wp2_with fail
        refine (HM _).out.mono ?_
        rintro e w' ⟨rfl, hb⟩
        have HB := Lib.hid (below_on hb)
        clear hb
        go_wp2_with fail
        go_ret
        exact ⟨ret_bool HO.out.symm, HB.out⟩
      · go_wp2_with fail
        refine (HM _).out.mono ?_
        rintro e w' ⟨rfl, hb⟩
        have HB := Lib.hid (below_on hb)
        clear hb
        go_wp2_with fail
        go_ret
        exact ⟨ret_bool HO.out.symm, HB.out⟩
namespace Pl
/-- what round i of the document's own Apply lays down -/
def stepA (u : Un) (cs : List Int) (i : Nat) : List Int := (if u.k = 1 ∧ (i : Int) = u.p then [u.c] else []) ++ (if i < cs.length ∧ (u.k ≠ 2 ∨ (i : Int) ≠ u.p) then [cs.getD i 0] else [])
def partA (u : Un) (cs : List Int) : Nat → List Int
  | 0 => []
  | i + 1 => partA u cs i ++ stepA u cs i
theorem take_one {cs : List Int} {i : Nat} (h : i < cs.length) : cs.take (i + 1) = cs.take i ++ [cs.getD i 0] := by
  rw [List.take_add_one, List.getElem?_eq_getElem h, List.getD_eq_getElem?_getD, List.getElem?_eq_getElem h]; rfl
theorem part_len (u : Un) (cs : List Int) (i : Nat) : (partA u cs i).length ≤ 2 * i := by
  induction i with
  | zero => exact Nat.le_refl _
  | succ i ih =>
    have : (stepA u cs i).length ≤ 2 := by unfold stepA; rw [List.length_append]; split <;> split <;> simp
    rw [partA, List.length_append]; omega
theorem part_ahead (u : Un) (cs : List Int) (i : Nat) (hi : i ≤ cs.length) (h : u.k = 1 ∨ u.k = 2 → (i : Int) ≤ u.p) : partA u cs i = cs.take i := by
  induction i with
  | zero => simp [partA]
  | succ i ih =>
    rw [partA, ih (by omega) (fun hk => by have := h hk; omega), take_one (by omega)]
    congr 1
    unfold stepA
    by_cases h1 : u.k = 1
    · have := h (Or.inl h1)
      rw [if_neg (by omega), if_pos ⟨by omega, Or.inl (by omega)⟩]; rfl
    · rw [if_neg (fun hh => h1 hh.1)]
      by_cases h2 : u.k = 2
      · have := h (Or.inr h2)
        rw [if_pos ⟨by omega, Or.inr (by omega)⟩]; rfl
      · rw [if_pos ⟨by omega, Or.inl h2⟩]; rfl
theorem part_past (u : Un) (cs : List Int) (p : Nat) (hp : u.p = (p : Int)) (_hk : u.k = 1 ∨ u.k = 2) : ∀ t, p + 1 + t ≤ cs.length → partA u cs (p + 1 + t) = partA u cs (p + 1) ++ (cs.drop (p + 1)).take t := by
  intro t
  induction t with
  | zero => intro _; simp
  | succ t ih =>
    intro h
    rw [show p + 1 + (t + 1) = (p + 1 + t) + 1 from rfl, partA, ih (by omega), List.append_assoc]
    congr 1
    have e : (cs.drop (p + 1)).take (t + 1) = (cs.drop (p + 1)).take t ++ [(cs.drop (p + 1)).getD t 0] := take_one (by rw [List.length_drop]; omega)
    rw [e]
    congr 1
    unfold stepA
    rw [if_neg (by omega), if_pos ⟨by omega, Or.inr (by omega)⟩, List.getD_eq_getElem?_getD, List.getD_eq_getElem?_getD, List.getElem?_drop]; rfl
theorem part_end (u : Un) (cs : List Int) (h : Fit u cs.length) : partA u cs (cs.length + 1) = behind u cs := by
  have hlast : ∀ i, i = cs.length → ¬ (u.k = 1 ∧ (i : Int) = u.p) → stepA u cs i = [] := fun i hi h1 => by
    unfold stepA; rw [if_neg h1, if_neg (by omega)]; rfl
  unfold behind
  by_cases h1 : u.k = 1
  · rw [if_pos h1]
    have hp0 : 0 ≤ u.p := by rcases h.1 with ⟨a, _⟩ | ⟨_, b, _⟩ <;> omega
    obtain ⟨p, hp⟩ : ∃ p : Nat, u.p = (p : Int) := ⟨u.p.toNat, by omega⟩
    have hpl : p ≤ cs.length := by have := h.2.1 h1; omega
    rw [hp, Int.toNat_natCast]
    have e1 : partA u cs p = cs.take p := part_ahead u cs p hpl (fun _ => by omega)
    rcases Nat.lt_or_ge p cs.length with hlt | hge
    · have e2 : partA u cs (p + 1) = cs.take p ++ u.c :: [cs.getD p 0] := by
        rw [partA, e1]; congr 1; unfold stepA
        rw [if_pos ⟨h1, hp.symm⟩, if_pos ⟨hlt, Or.inl (by omega)⟩]; rfl
      have e3 := part_past u cs p hp (Or.inl h1) (cs.length - (p + 1)) (by omega)
      rw [show p + 1 + (cs.length - (p + 1)) = cs.length by omega] at e3
      rw [partA, hlast _ rfl (by omega), List.append_nil, e3, e2, List.append_assoc]
      congr 1
      rw [List.take_of_length_le (by rw [List.length_drop]; omega), List.drop_eq_getElem_cons hlt, List.getD_eq_getElem?_getD, List.getElem?_eq_getElem hlt]
      rfl
    · obtain rfl : p = cs.length := by omega
      rw [partA, e1]
      unfold stepA
      rw [if_pos ⟨h1, hp.symm⟩, if_neg (by omega), List.drop_length]; rfl
  · rw [if_neg h1]
    rw [partA, hlast _ rfl (fun hh => h1 hh.1), List.append_nil]
    by_cases h2 : u.k = 2
    · rw [if_pos h2]
      have hp0 : 0 ≤ u.p := by rcases h.1 with ⟨a, _⟩ | ⟨_, b, _⟩ <;> omega
      obtain ⟨p, hp⟩ : ∃ p : Nat, u.p = (p : Int) := ⟨u.p.toNat, by omega⟩
      have hpl : p < cs.length := by have := h.2.2 h2; omega
      rw [hp, Int.toNat_natCast]
      have e1 : partA u cs p = cs.take p := part_ahead u cs p (by omega) (fun _ => by omega)
      have e2 : partA u cs (p + 1) = cs.take p := by
        rw [partA, e1]; unfold stepA
        rw [if_neg (fun hh => h1 hh.1), if_neg (fun hh => hh.2.elim (fun a => a h2) (fun a => a hp.symm))]; simp
      have e3 := part_past u cs p hp (Or.inr h2) (cs.length - (p + 1)) (by omega)
      rw [show p + 1 + (cs.length - (p + 1)) = cs.length by omega] at e3
      rw [e3, e2, List.take_of_length_le (l := cs.drop (p + 1)) (by rw [List.length_drop]; omega)]
    · rw [if_neg h2, part_ahead u cs cs.length (Nat.le_refl _) (fun hk => by rcases hk with hk | hk; exact absurd hk h1; exact absurd hk h2), List.take_length]
end Pl
/-- a unit applied: the text behind it, where it fits -/
def ApR (w : World) (u : Un) (cs : List Int) (e : Ending) (w' : World) : Prop := Below w.heap.size w w' ∧
  (¬ Pl.Fit u cs.length ∧ (∃ r, r ≠ 0 ∧ e = .returned (.tuple #[.slice none 0 0, .int .i64 r])) ∨ Pl.Fit u cs.length ∧ ∃ B m d, e = .returned (.tuple #[.slice B m d, .int .i64 0]) ∧ Crs w' w'.heap.size B m d (Pl.behind u cs))
/-- between one round and the next -/
def AuR (w : World) (u : Un) (cs : List Int) (s i : Value) (wr : World) : Prop := ∃ (j m : Nat) (A : Option Addr) (c : Nat), i = .int .i64 (j : Int) ∧ s = .slice A m c ∧ j ≤ cs.length + 1 ∧ OwnC wr w.heap.size (.slice A m c) (Pl.partA u cs j) ∧ Below w.heap.size w wr
set_option maxRecDepth 100000 in
set_option maxHeartbeats 2000000 in
theorem apply6_any (u : Un) (A : Option Addr) (n c : Nat) (cs : List Int) (w : World) (h1 : Crs w w.heap.size A n c cs) (hn : n ≤ 1000) (hJ : Pl.J u.c) :
    Calls Try.prog 36 #[uval u, .slice A n c] w (ApR w u cs) := by
  have H1 := Lib.hid h1
  have HL := Lib.hid h1.len
  have hcap := h1.cap
  have hle := h1.le
  unfold maxLen at hcap
  have HM := fun w => Lib.hid (okay6_any u w)
  have HF := fun w => Lib.hid (fits6_any u n w)
  have HUJ := Lib.hid hJ
  obtain ⟨k, p, ch, x, y⟩ := u
  have HB1 := Lib.hid (below_box w (.cells #[.int .i64 k, .int .i64 p, .int .i32 ch, .int .u32 x, .int .u64 y] 44))
  have HU := Lib.hid (uat_new w k p ch x y)
  have HO0 := Lib.hid (show Pl.Fit ⟨k, p, ch, x, y⟩ (n : Int) → Pl.Okay ⟨k, p, ch, x, y⟩ from fun h => h.1)
  have HLE := Lib.hid (show ∀ P : Prop, (Pl.Fit ⟨k, p, ch, x, y⟩ (cs.length : Int) → P) → Pl.Fit ⟨k, p, ch, x, y⟩ (n : Int) → P from fun P h h2 => h (by rw [HL.out]; exact h2))
  by_cases hF : Pl.Fit ⟨k, p, ch, x, y⟩ (n : Int)
  · have hO := hF.1
    have HFF := Lib.hid (show Pl.Fit ⟨k, p, ch, x, y⟩ (cs.length : Int) by rw [HL.out]; exact hF)
    simp only [decide_eq_true hO] at HM
    simp only [decide_eq_true hF] at HF
    obtain ⟨q, hq⟩ : ∃ q, q = n + 1 := ⟨_, rfl⟩
    have HQ := Lib.hid hq
    have hkk : k = 0 ∨ k = 1 ∨ k = 2 := by rcases hO with ⟨h, _⟩ | ⟨h | h, _⟩ <;> (simp only at h; omega)
    have HKK := Lib.hid hkk
    have HPP := Lib.hid (show k = 2 → p < (n : Int) from hF.2.2)
    clear h1 hF hO hJ HO0 HLE hq hkk
    unfold uval at *
    simp only at *
    go_enter Try.func36, Try.ntmps36
    obtain ⟨u0, u1, u2, u3, u4⟩ := HU.out.cells
    go_wp2_with fail
    refine (HM _).out.mono ?_
    rintro e w2 ⟨rfl, hb2⟩
    have HB2 := Lib.hid (below_on hb2)
    have HU2 := Lib.hid (HU.out.then_ hb2)
    obtain ⟨v0, v1, v2, v3, v4⟩ := HU2.out.cells
    clear hb2 u0 u1 u2 u3 u4
    go_wp2_with fail
    refine (HF _).out.mono ?_
    rintro e w3 ⟨rfl, hb3⟩
    have HB3 := Lib.hid (below_then HB2.out hb3)
    have HU3 := Lib.hid (HU2.out.then_ hb3)
    clear hb3 v0 v1 v2 v3 v4 HM HF
    go_wp2_with fail
    go_loopw [6, 7] (fun s i wr => AuR w3 ⟨k, p, ch, x, y⟩ cs s i wr) (fun _ i _ => n + 1 - (intOf i).toNat)
    case atStart => exact ⟨0, 0, none, 0, rfl, rfl, Nat.zero_le _, OwnC.nil_ _ _, Below.refl _ _⟩
    case round =>
      obtain ⟨j, m, A2, c2, rfl, rfl, hj, ho, hb⟩ := hrel
      have HO := Lib.hid ho
      have HBW := Lib.hid hb
      have HB := Lib.hid (below_then HB3.out hb)
      have hm : m ≤ 2 * j := by have h := ho.crs.1; have h2 := Pl.part_len ⟨k, p, ch, x, y⟩ cs j; omega
      obtain ⟨u0, u1, u2, u3, u4⟩ := (HU3.out.below hb HU3.out.lt).cells
      rw [HL.out] at hj
      have z0 : (0 : Int) ≤ (j : Int) := Int.natCast_nonneg j
      by_cases hlt : j < n + 1
      · have HPN := Lib.hid (show Pl.partA ⟨k, p, ch, x, y⟩ cs (j + 1) = Pl.partA ⟨k, p, ch, x, y⟩ cs j ++ Pl.stepA ⟨k, p, ch, x, y⟩ cs j from rfl)
        obtain ⟨P, hP⟩ : ∃ P, P = Pl.partA ⟨k, p, ch, x, y⟩ cs j := ⟨_, rfl⟩
        rw [← hP] at HO HPN
        have HMS := Lib.hid (show n + 1 - (j + 1) < n + 1 - j by omega)
        have HJ1 := Lib.hid (show j + 1 ≤ cs.length + 1 by rw [HL.out]; omega)
        have hm5 : m ≤ 2002 := by omega
        have zl : (j : Int) ≤ (n : Int) := by omega
        clear ho hb hP hj hm
        by_cases hjn : j < n
        · obtain ⟨g1, o1, rfl, hg1, hc1⟩ := (H1.out.below HB.out (Nat.le_refl _)).at_ hjn
          have a0 := hc1 j hjn
          have HZJ := Lib.hid (H1.out.getJ j)
          have HZC := Lib.hid (show ∀ w9, Below w.heap.size w w9 → w9.cell? ⟨g1, o1 + j, none⟩ = some (.int .i32 (cs.getD j 0)) from fun w9 h => by
            obtain ⟨g', o', e, _, hc'⟩ := (H1.out.below h (Nat.le_refl _)).at_ hjn
            cases e; exact hc' j hjn)
          have hin : j < cs.length := by rw [HL.out]; exact hjn
          have HZ1 := Lib.hid (show k = 1 → (j : Int) = p → Pl.stepA ⟨k, p, ch, x, y⟩ cs j = [ch, cs.getD j 0] from fun h1 h2 => by
            unfold Pl.stepA; rw [if_pos ⟨h1, h2⟩, if_pos ⟨hin, Or.inl (by simp only; omega)⟩]; rfl)
          have HZ2 := Lib.hid (show k = 2 → (j : Int) = p → Pl.stepA ⟨k, p, ch, x, y⟩ cs j = [] from fun h1 h2 => by
            unfold Pl.stepA; rw [if_neg (by simp only; omega), if_neg (by simp only; omega)]; rfl)
          have HZ3 := Lib.hid (show (k = 0 ∨ (j : Int) ≠ p) → Pl.stepA ⟨k, p, ch, x, y⟩ cs j = [cs.getD j 0] from fun h1 => by
            unfold Pl.stepA; rw [if_neg (by simp only; omega), if_pos ⟨hin, by simp only; omega⟩]; rfl)
          obtain ⟨z, hz⟩ : ∃ z, z = cs.getD j 0 := ⟨_, rfl⟩
          rw [← hz] at a0 HZJ HZC HZ1 HZ3
          have z1 : (j : Int) < (n : Int) := Int.ofNat_lt.2 hjn
          clear hc1 hz hin
          by_cases hp : (j : Int) = p
          · have hpb : ((j : Int) == p) = true := by simpa using hp
            have hpn : ((j : Int) != p) = false := by simpa using hp
            rcases HKK.out with hk | hk | hk
            · subst hk
              have hst := HZ3.out (Or.inl rfl)
              clear HZ1 HZ2 HZ3 hp
              have HST := Lib.hid hst
              clear hst
              have HSV := Lib.hid (show Crs (World.alloc wr (.cells #[.int .i32 z] 42)) (World.alloc wr (.cells #[.int .i32 z] 42)).heap.size (some ⟨World.heap wr |>.size, 0, none⟩) 1 1 [z] from (crs_lit wr [z] (fun x hx => by rw [List.mem_singleton.1 hx]; exact HZJ.out) (by simp [maxLen])).crs.2)
              have HOV := Lib.hid (OwnC.then_ HO.out (below_box wr (.cells #[.int .i32 z] 42)))
              have HBV := Lib.hid (below_then HBW.out (below_box wr (.cells #[.int .i32 z] 42)))
              have hsz := HBV.out.size
              go_wp2_with (at_builtin; refine wpList_append_crs (World.alloc wr (.cells #[.int .i32 z] 42)) rfl (.tmp 51) (.tmp 56) rfl w3.heap.size A2 (m) c2 (P) (by rfl) HOV.out _ (some ⟨World.heap wr |>.size, 0, none⟩) 1 1 [z] (by rfl) HSV.out (by omega) hsz ?_)
              intro A5 c5 w5 hO5 hg5 _
              have HO5 := Lib.hid hO5
              have HB5 := Lib.hid (below_appendC HOV.out hg5 HBV.out hsz)
              clear hO5 hg5 hsz HSV HOV HBV
              have HO9 := Lib.hid (show OwnC w5 w3.heap.size (.slice A5 (m + 1) c5) (Pl.partA ⟨0, p, ch, x, y⟩ cs (j + 1)) by rw [HPN.out, HST.out]; exact HO5.out)
              go_wp2_with fail
              go_roundw
              case rel => exact ⟨j + 1, (m+1), A5, c5, by go_num, rfl, HJ1.out, HO9.out, HB5.out⟩
              case measure => simp [intOf]; have h := HMS.out; omega
            · subst hk
              have hst := HZ1.out rfl hp
              clear HZ1 HZ2 HZ3 hp
              have HST := Lib.hid hst
              clear hst
              have HSV := Lib.hid (show Crs (World.alloc wr (.cells #[.int .i32 ch] 42)) (World.alloc wr (.cells #[.int .i32 ch] 42)).heap.size (some ⟨World.heap wr |>.size, 0, none⟩) 1 1 [ch] from (crs_lit wr [ch] (fun x hx => by rw [List.mem_singleton.1 hx]; exact HUJ.out) (by simp [maxLen])).crs.2)
              have HOV := Lib.hid (OwnC.then_ HO.out (below_box wr (.cells #[.int .i32 ch] 42)))
              have HBV := Lib.hid (below_then HBW.out (below_box wr (.cells #[.int .i32 ch] 42)))
              have hsz := HBV.out.size
              go_wp2_with (at_builtin; refine wpList_append_crs (World.alloc wr (.cells #[.int .i32 ch] 42)) rfl (.tmp 31) (.tmp 34) rfl w3.heap.size A2 (m) c2 (P) (by rfl) HOV.out _ (some ⟨World.heap wr |>.size, 0, none⟩) 1 1 [ch] (by rfl) HSV.out (by omega) hsz ?_)
              intro A5 c5 w5 hO5 hg5 _
              have HO5 := Lib.hid hO5
              have HB5 := Lib.hid (below_appendC HOV.out hg5 HBV.out hsz)
              clear hO5 hg5 hsz HSV HOV HBV
              obtain ⟨s0, s1, s2, s3, s4⟩ := (HU3.out.below HB5.out HU3.out.lt).cells
              have sz := HZC.out w5 (below_then HB3.out HB5.out)
              clear u0 u1 u2 u3 u4 a0
              obtain ⟨M, hM⟩ : ∃ M, M = m + 1 := ⟨_, rfl⟩
              have hm6 : M ≤ 3000 := by omega
              rw [← hM] at HO5 ⊢
              obtain ⟨P5, hP5⟩ : ∃ P5, P5 = P ++ [ch] := ⟨_, rfl⟩
              have HP5 := Lib.hid hP5
              rw [← hP5] at HO5
              clear hM hP5
              have HSV := Lib.hid (show Crs (World.alloc w5 (.cells #[.int .i32 z] 42)) (World.alloc w5 (.cells #[.int .i32 z] 42)).heap.size (some ⟨World.heap w5 |>.size, 0, none⟩) 1 1 [z] from (crs_lit w5 [z] (fun x hx => by rw [List.mem_singleton.1 hx]; exact HZJ.out) (by simp [maxLen])).crs.2)
              have HOV := Lib.hid (OwnC.then_ HO5.out (below_box w5 (.cells #[.int .i32 z] 42)))
              have HBV := Lib.hid (below_then HB5.out (below_box w5 (.cells #[.int .i32 z] 42)))
              have hsz := HBV.out.size
              go_wp2_with (at_builtin; refine wpList_append_crs (World.alloc w5 (.cells #[.int .i32 z] 42)) rfl (.tmp 51) (.tmp 56) rfl w3.heap.size A5 (M) c5 (P5) (by rfl) HOV.out _ (some ⟨World.heap w5 |>.size, 0, none⟩) 1 1 [z] (by rfl) HSV.out (by omega) hsz ?_)
              intro A6 c6 w6 hO5 hg5 _
              have HO6 := Lib.hid hO5
              have HB6 := Lib.hid (below_appendC HOV.out hg5 HBV.out hsz)
              clear hO5 hg5 hsz HSV HOV HBV
              have HO9 := Lib.hid (show OwnC w6 w3.heap.size (.slice A6 (M + 1) c6) (Pl.partA ⟨1, p, ch, x, y⟩ cs (j + 1)) by rw [HPN.out, HST.out, show P ++ [ch, z] = P5 ++ [z] by rw [HP5.out, List.append_assoc]; rfl]; exact HO6.out)
              go_wp2_with fail
              go_roundw
              case rel => exact ⟨j + 1, (M+1), A6, c6, by go_num, rfl, HJ1.out, HO9.out, HB6.out⟩
              case measure => simp [intOf]; have h := HMS.out; omega
            · subst hk
              have hst := HZ2.out rfl hp
              clear HZ1 HZ2 HZ3 hp
              have HO9 := Lib.hid (show OwnC wr w3.heap.size (.slice A2 m c2) (Pl.partA ⟨2, p, ch, x, y⟩ cs (j + 1)) by rw [HPN.out, hst, List.append_nil]; exact HO.out)
              clear hst
              go_wp2_with fail
              go_roundw
              case rel => exact ⟨j + 1, m, A2, c2, by go_num, rfl, HJ1.out, HO9.out, HBW.out⟩
              case measure => simp [intOf]; have h := HMS.out; omega
          · have hpb : ((j : Int) == p) = false := by simpa using hp
            have hpn : ((j : Int) != p) = true := by simpa using hp
            have hst := HZ3.out (Or.inr hp)
            clear HZ1 HZ2 HZ3 hp
            rcases HKK.out with hk | hk | hk
            · subst hk
              have HST := Lib.hid hst
              clear hst
              have HSV := Lib.hid (show Crs (World.alloc wr (.cells #[.int .i32 z] 42)) (World.alloc wr (.cells #[.int .i32 z] 42)).heap.size (some ⟨World.heap wr |>.size, 0, none⟩) 1 1 [z] from (crs_lit wr [z] (fun x hx => by rw [List.mem_singleton.1 hx]; exact HZJ.out) (by simp [maxLen])).crs.2)
              have HOV := Lib.hid (OwnC.then_ HO.out (below_box wr (.cells #[.int .i32 z] 42)))
              have HBV := Lib.hid (below_then HBW.out (below_box wr (.cells #[.int .i32 z] 42)))
              have hsz := HBV.out.size
              go_wp2_with (at_builtin; refine wpList_append_crs (World.alloc wr (.cells #[.int .i32 z] 42)) rfl (.tmp 51) (.tmp 56) rfl w3.heap.size A2 (m) c2 (P) (by rfl) HOV.out _ (some ⟨World.heap wr |>.size, 0, none⟩) 1 1 [z] (by rfl) HSV.out (by omega) hsz ?_)
              intro A5 c5 w5 hO5 hg5 _
              have HO5 := Lib.hid hO5
              have HB5 := Lib.hid (below_appendC HOV.out hg5 HBV.out hsz)
              clear hO5 hg5 hsz HSV HOV HBV
              have HO9 := Lib.hid (show OwnC w5 w3.heap.size (.slice A5 (m + 1) c5) (Pl.partA ⟨0, p, ch, x, y⟩ cs (j + 1)) by rw [HPN.out, HST.out]; exact HO5.out)
              go_wp2_with fail
              go_roundw
              case rel => exact ⟨j + 1, (m+1), A5, c5, by go_num, rfl, HJ1.out, HO9.out, HB5.out⟩
              case measure => simp [intOf]; have h := HMS.out; omega
            · subst hk
              have HST := Lib.hid hst
              clear hst
              have HSV := Lib.hid (show Crs (World.alloc wr (.cells #[.int .i32 z] 42)) (World.alloc wr (.cells #[.int .i32 z] 42)).heap.size (some ⟨World.heap wr |>.size, 0, none⟩) 1 1 [z] from (crs_lit wr [z] (fun x hx => by rw [List.mem_singleton.1 hx]; exact HZJ.out) (by simp [maxLen])).crs.2)
              have HOV := Lib.hid (OwnC.then_ HO.out (below_box wr (.cells #[.int .i32 z] 42)))
              have HBV := Lib.hid (below_then HBW.out (below_box wr (.cells #[.int .i32 z] 42)))
              have hsz := HBV.out.size
              go_wp2_with (at_builtin; refine wpList_append_crs (World.alloc wr (.cells #[.int .i32 z] 42)) rfl (.tmp 51) (.tmp 56) rfl w3.heap.size A2 (m) c2 (P) (by rfl) HOV.out _ (some ⟨World.heap wr |>.size, 0, none⟩) 1 1 [z] (by rfl) HSV.out (by omega) hsz ?_)
              intro A5 c5 w5 hO5 hg5 _
              have HO5 := Lib.hid hO5
              have HB5 := Lib.hid (below_appendC HOV.out hg5 HBV.out hsz)
              clear hO5 hg5 hsz HSV HOV HBV
              have HO9 := Lib.hid (show OwnC w5 w3.heap.size (.slice A5 (m + 1) c5) (Pl.partA ⟨1, p, ch, x, y⟩ cs (j + 1)) by rw [HPN.out, HST.out]; exact HO5.out)
              go_wp2_with fail
              go_roundw
              case rel => exact ⟨j + 1, (m+1), A5, c5, by go_num, rfl, HJ1.out, HO9.out, HB5.out⟩
              case measure => simp [intOf]; have h := HMS.out; omega
            · subst hk
              have HST := Lib.hid hst
              clear hst
              have HSV := Lib.hid (show Crs (World.alloc wr (.cells #[.int .i32 z] 42)) (World.alloc wr (.cells #[.int .i32 z] 42)).heap.size (some ⟨World.heap wr |>.size, 0, none⟩) 1 1 [z] from (crs_lit wr [z] (fun x hx => by rw [List.mem_singleton.1 hx]; exact HZJ.out) (by simp [maxLen])).crs.2)
              have HOV := Lib.hid (OwnC.then_ HO.out (below_box wr (.cells #[.int .i32 z] 42)))
              have HBV := Lib.hid (below_then HBW.out (below_box wr (.cells #[.int .i32 z] 42)))
              have hsz := HBV.out.size
              go_wp2_with (at_builtin; refine wpList_append_crs (World.alloc wr (.cells #[.int .i32 z] 42)) rfl (.tmp 51) (.tmp 56) rfl w3.heap.size A2 (m) c2 (P) (by rfl) HOV.out _ (some ⟨World.heap wr |>.size, 0, none⟩) 1 1 [z] (by rfl) HSV.out (by omega) hsz ?_)
              intro A5 c5 w5 hO5 hg5 _
              have HO5 := Lib.hid hO5
              have HB5 := Lib.hid (below_appendC HOV.out hg5 HBV.out hsz)
              clear hO5 hg5 hsz HSV HOV HBV
              have HO9 := Lib.hid (show OwnC w5 w3.heap.size (.slice A5 (m + 1) c5) (Pl.partA ⟨2, p, ch, x, y⟩ cs (j + 1)) by rw [HPN.out, HST.out]; exact HO5.out)
              go_wp2_with fail
              go_roundw
              case rel => exact ⟨j + 1, (m+1), A5, c5, by go_num, rfl, HJ1.out, HO9.out, HB5.out⟩
              case measure => simp [intOf]; have h := HMS.out; omega
        · have hjn2 : ¬ (j : Int) < (n : Int) := by omega
          have hin : ¬ j < cs.length := by rw [HL.out]; exact hjn
          have HZ1 := Lib.hid (show k = 1 → (j : Int) = p → Pl.stepA ⟨k, p, ch, x, y⟩ cs j = [ch] from fun h1 h2 => by
            unfold Pl.stepA; rw [if_pos ⟨h1, h2⟩, if_neg (fun h => hin h.1)]; rfl)
          have HZ2 := Lib.hid (show ¬ (k = 1 ∧ (j : Int) = p) → Pl.stepA ⟨k, p, ch, x, y⟩ cs j = [] from fun h1 => by
            unfold Pl.stepA; rw [if_neg h1, if_neg (fun h => hin h.1)]; rfl)
          clear hin
          rcases HKK.out with hk | hk | hk
          · subst hk
            have hst := HZ2.out (fun h => by have := h.1; omega)
            clear HZ1 HZ2
            have HO9 := Lib.hid (show OwnC wr w3.heap.size (.slice A2 m c2) (Pl.partA ⟨0, p, ch, x, y⟩ cs (j + 1)) by rw [HPN.out, hst, List.append_nil]; exact HO.out)
            clear hst
            go_wp2_with fail
            go_roundw
            case rel => exact ⟨j + 1, m, A2, c2, by go_num, rfl, HJ1.out, HO9.out, HBW.out⟩
            case measure => simp [intOf]; have h := HMS.out; omega
          · subst hk
            by_cases hp : (j : Int) = p
            · have hpb : ((j : Int) == p) = true := by simpa using hp
              have hst := HZ1.out rfl hp
              clear HZ1 HZ2 hp
              have HST := Lib.hid hst
              clear hst
              have HSV := Lib.hid (show Crs (World.alloc wr (.cells #[.int .i32 ch] 42)) (World.alloc wr (.cells #[.int .i32 ch] 42)).heap.size (some ⟨World.heap wr |>.size, 0, none⟩) 1 1 [ch] from (crs_lit wr [ch] (fun x hx => by rw [List.mem_singleton.1 hx]; exact HUJ.out) (by simp [maxLen])).crs.2)
              have HOV := Lib.hid (OwnC.then_ HO.out (below_box wr (.cells #[.int .i32 ch] 42)))
              have HBV := Lib.hid (below_then HBW.out (below_box wr (.cells #[.int .i32 ch] 42)))
              have hsz := HBV.out.size
              go_wp2_with (at_builtin; refine wpList_append_crs (World.alloc wr (.cells #[.int .i32 ch] 42)) rfl (.tmp 31) (.tmp 34) rfl w3.heap.size A2 (m) c2 (P) (by rfl) HOV.out _ (some ⟨World.heap wr |>.size, 0, none⟩) 1 1 [ch] (by rfl) HSV.out (by omega) hsz ?_)
              intro A5 c5 w5 hO5 hg5 _
              have HO5 := Lib.hid hO5
              have HB5 := Lib.hid (below_appendC HOV.out hg5 HBV.out hsz)
              clear hO5 hg5 hsz HSV HOV HBV
              have HO9 := Lib.hid (show OwnC w5 w3.heap.size (.slice A5 (m + 1) c5) (Pl.partA ⟨1, p, ch, x, y⟩ cs (j + 1)) by rw [HPN.out, HST.out]; exact HO5.out)
              obtain ⟨s0, s1, s2, s3, s4⟩ := (HU3.out.below HB5.out HU3.out.lt).cells
              clear u0 u1 u2 u3 u4
              go_wp2_with fail
              go_roundw
              case rel => exact ⟨j + 1, (m+1), A5, c5, by go_num, rfl, HJ1.out, HO9.out, HB5.out⟩
              case measure => simp [intOf]; have h := HMS.out; omega
            · have hpb : ((j : Int) == p) = false := by simpa using hp
              have hst := HZ2.out (fun h => hp h.2)
              clear HZ1 HZ2 hp
              have HO9 := Lib.hid (show OwnC wr w3.heap.size (.slice A2 m c2) (Pl.partA ⟨1, p, ch, x, y⟩ cs (j + 1)) by rw [HPN.out, hst, List.append_nil]; exact HO.out)
              clear hst
              go_wp2_with fail
              go_roundw
              case rel => exact ⟨j + 1, m, A2, c2, by go_num, rfl, HJ1.out, HO9.out, HBW.out⟩
              case measure => simp [intOf]; have h := HMS.out; omega
          · subst hk
            have hst := HZ2.out (fun h => by have := h.1; omega)
            clear HZ1 HZ2
            have HO9 := Lib.hid (show OwnC wr w3.heap.size (.slice A2 m c2) (Pl.partA ⟨2, p, ch, x, y⟩ cs (j + 1)) by rw [HPN.out, hst, List.append_nil]; exact HO.out)
            clear hst
            go_wp2_with fail
            go_roundw
            case rel => exact ⟨j + 1, m, A2, c2, by go_num, rfl, HJ1.out, HO9.out, HBW.out⟩
            case measure => simp [intOf]; have h := HMS.out; omega
      · have hE : Pl.partA ⟨k, p, ch, x, y⟩ cs j = Pl.behind ⟨k, p, ch, x, y⟩ cs := by
          have e : j = cs.length + 1 := by rw [HL.out]; omega
          rw [e]; exact Pl.part_end _ _ HFF.out
        have HO9 := Lib.hid (show Crs wr wr.heap.size A2 m c2 (Pl.behind ⟨k, p, ch, x, y⟩ cs) by rw [← hE]; exact ho.crs.2)
        have zl : ¬ (j : Int) ≤ (n : Int) := by omega
        have zl2 : (n : Int) < (j : Int) := by omega
        clear ho hb hj hE hm
        go_wp2_with fail
        go_returns
        exact ⟨HB.out, Or.inr ⟨HFF.out, A2, m, c2, rfl, HO9.out⟩⟩
  · have HNF := Lib.hid (show ¬ Pl.Fit ⟨k, p, ch, x, y⟩ (cs.length : Int) by rw [HL.out]; exact hF)
    simp only [decide_eq_false hF] at HF
    clear h1 hF hJ HO0 HLE
    by_cases hO : Pl.Okay ⟨k, p, ch, x, y⟩
    · simp only [decide_eq_true hO] at HM
      clear hO
      unfold uval at *
      simp only at *
      go_enter Try.func36, Try.ntmps36
      obtain ⟨u0, u1, u2, u3, u4⟩ := HU.out.cells
      go_wp2_with fail
      refine (HM _).out.mono ?_
      rintro e w2 ⟨rfl, hb2⟩
      have HB2 := Lib.hid (below_on hb2)
      obtain ⟨v0, v1, v2, v3, v4⟩ := (HU.out.then_ hb2).cells
      clear hb2 u0 u1 u2 u3 u4
      go_wp2_with fail
      refine (HF _).out.mono ?_
      rintro e w3 ⟨rfl, hb3⟩
      have HB3 := Lib.hid (below_then HB2.out hb3)
      clear hb3 v0 v1 v2 v3 v4 HM HF
      go_wp2_with fail
      go_returns
      exact ⟨HB3.out, Or.inl ⟨HNF.out, 30, by decide, rfl⟩⟩
    · simp only [decide_eq_false hO] at HM
      clear hO
      unfold uval at *
      simp only at *
      go_enter Try.func36, Try.ntmps36
      obtain ⟨u0, u1, u2, u3, u4⟩ := HU.out.cells
      go_wp2_with fail
      refine (HM _).out.mono ?_
      rintro e w2 ⟨rfl, hb2⟩
      have HB2 := Lib.hid (below_on hb2)
      clear hb2 u0 u1 u2 u3 u4 HM HF
      go_wp2_with fail
      go_returns
      exact ⟨HB2.out, Or.inl ⟨HNF.out, 1, by decide, rfl⟩⟩
/-! ### a row -/
theorem Pl.fitR_take1 {l : List Un} {cs : List Int} {j : Nat} (hj : j < l.length) : Pl.FitR (l.take (j + 1)) cs ↔ Pl.FitR (l.take j) cs ∧ Pl.Fit (l.getD j default) (Pl.leave (l.take j) cs).length := by
  rw [take_snoc hj, Pl.fitR_append]
  exact ⟨fun h => ⟨h.1, h.2.1⟩, fun h => ⟨h.1, h.2, trivial⟩⟩
theorem Pl.leave_take1 {l : List Un} {cs : List Int} {j : Nat} (hj : j < l.length) : Pl.leave (l.take (j + 1)) cs = Pl.behind (l.getD j default) (Pl.leave (l.take j) cs) := by
  rw [take_snoc hj, Pl.leave_append]; rfl
/-- a row applied -/
def AqR (w : World) (l : List Un) (cs : List Int) (e : Ending) (w' : World) : Prop := Below w.heap.size w w' ∧
  (¬ Pl.FitR l cs ∧ e = .returned (.tuple #[.slice none 0 0, .bool false]) ∨ Pl.FitR l cs ∧ ∃ B m d, e = .returned (.tuple #[.slice B m d, .bool true]) ∧ Crs w' w'.heap.size B m d (Pl.leave l cs))
/-- between one unit and the next -/
def AsR (w : World) (l : List Un) (cs : List Int) (s i : Value) (wr : World) : Prop := ∃ (j m : Nat) (A : Option Addr) (c : Nat), i = .int .i64 (j : Int) ∧ s = .slice A m c ∧ j ≤ l.length ∧ Crs wr wr.heap.size A m c (Pl.leave (l.take j) cs) ∧ Pl.FitR (l.take j) cs ∧ m ≤ cs.length + j ∧ Below w.heap.size w wr
set_option maxRecDepth 100000 in
set_option maxHeartbeats 2000000 in
theorem apply8_any (R : Option Addr) (q d : Nat) (l : List Un) (A : Option Addr) (n c : Nat) (cs : List Int) (w : World) (hR : Uns w w.heap.size R q d l) (h1 : Crs w w.heap.size A n c cs) (hn : q + n ≤ 1000) (hJ : ∀ u ∈ l, Pl.J u.c) :
    Calls Try.prog 23 #[.slice R q d, .slice A n c] w (AqR w l cs) := by
  have HR := Lib.hid hR
  have HL := Lib.hid hR.len
  have H1 := Lib.hid h1
  have HC := Lib.hid h1.len
  have HJ := Lib.hid hJ
  have hq1 : q ≤ 1000 := by omega
  have HN := Lib.hid hn
  clear hR h1 hJ hn
  go_enter Try.func23, Try.ntmps23
  go_wp2_with fail
  go_loopw [1, 6] (fun s i wr => AsR w l cs s i wr) (fun _ i _ => q - (intOf i).toNat)
  case atStart => exact ⟨0, n, A, c, rfl, rfl, Nat.zero_le _, H1.out, trivial, by rw [HC.out]; exact Nat.le_refl _, Below.refl _ _⟩
  case round =>
    obtain ⟨j, m, A2, c2, rfl, rfl, hj, hc, hf, hm, hb⟩ := hrel
    have HB := Lib.hid hb
    have HCR := Lib.hid hc
    have HF := Lib.hid hf
    rw [HL.out] at hj
    clear hb hc hf
    by_cases hlt : j < q
    · obtain ⟨g1, o1, rfl, hg1, hc1⟩ := Uns.at_ (Rws.below HR.out HB.out (Nat.le_refl _)) hlt
      obtain ⟨a0, a1, a2, a3, a4⟩ := hc1 j hlt
      have hjl : j < l.length := by rw [HL.out]; exact hlt
      have HFT := Lib.hid (Pl.fitR_take1 (cs := cs) hjl)
      have HLT := Lib.hid (Pl.leave_take1 (cs := cs) hjl)
      obtain ⟨T, hT⟩ : ∃ T, T = Pl.leave (l.take j) cs := ⟨_, rfl⟩
      rw [← hT] at HCR HFT HLT
      obtain ⟨u, hu⟩ : ∃ u, u = l.getD j default := ⟨_, rfl⟩
      rw [← hu] at a0 a1 a2 a3 a4 HFT HLT
      have hm2 : m ≤ 1000 := by have h1 := HN.out; have h2 := HC.out; omega
      have HAP := Lib.hid (apply6_any u A2 m c2 T wr HCR.out hm2 (HJ.out u (by rw [hu]; exact mem_getD hjl)))
      have HLB := Lib.hid (show Pl.Fit u T.length → (Pl.behind u T).length ≤ m + 1 from fun h => by have := Pl.len_behind_le h; have h2 := HCR.out.len; omega)
      have HNO := Lib.hid (show ¬ Pl.FitR (l.take (j + 1)) cs → ¬ Pl.FitR l cs from fun h h2 => h (by
        have e := (List.take_append_drop (j + 1) l).symm
        rw [e, Pl.fitR_append] at h2
        exact h2.1))
      obtain ⟨k, p, ch, x, y⟩ := u
      simp only at a0 a1 a2 a3 a4
      have z0 : (0 : Int) ≤ (j : Int) := Int.natCast_nonneg j
      have z1 : (j : Int) < (q : Int) := Int.ofNat_lt.2 hlt
      have HMS := Lib.hid (show q - (j + 1) < q - j by omega)
      have HJ1 := Lib.hid (show j + 1 ≤ l.length from hjl)
      have HM := Lib.hid hm
      clear hc1 hu hT hm hm2
      unfold uval at HAP
      simp only at HAP
      go_wp2_with fail
      refine HAP.out.mono ?_
      rintro e w2 ⟨hb2, ⟨hnf, r, hr, rfl⟩ | ⟨hfit, B, m2, d2, rfl, hc2⟩⟩
      · have HB2 := Lib.hid (below_then HB.out hb2)
        have HNF := Lib.hid (HNO.out (fun h => hnf (HFT.out.1 h).2))
        have hrb : (r != 0) = true := by simpa using hr
        clear hb2 hnf HAP a0 a1 a2 a3 a4 hr
        go_wp2_with fail
        go_returns
        exact ⟨HB2.out, Or.inl ⟨HNF.out, rfl⟩⟩
      · have HB2 := Lib.hid (below_then HB.out hb2)
        have HF2 := Lib.hid (HFT.out.2 ⟨HF.out, hfit⟩)
        have HC2 := Lib.hid (show Crs w2 w2.heap.size B m2 d2 (Pl.leave (l.take (j + 1)) cs) by rw [HLT.out]; exact hc2)
        have HM2 := Lib.hid (show m2 ≤ cs.length + (j + 1) by have h1 := HLB.out hfit; have h2 := hc2.len; have h3 := HM.out; omega)
        clear hb2 hfit hc2 HAP a0 a1 a2 a3 a4
        go_wp2_with fail
        go_roundw
        case rel => exact ⟨j + 1, m2, B, d2, by go_num, rfl, HJ1.out, HC2.out, HF2.out, HM2.out, HB2.out⟩
        case measure => simp [intOf]; exact HMS.out
    · have hE : l.take j = l := List.take_of_length_le (by rw [HL.out]; omega)
      rw [hE] at HCR HF
      clear hE
      go_wp2_with fail
      go_returns
      exact ⟨HB.out, Or.inr ⟨HF.out, A2, m, c2, rfl, HCR.out⟩⟩
end Go.Proofs.Ythnenmglmebljaa
