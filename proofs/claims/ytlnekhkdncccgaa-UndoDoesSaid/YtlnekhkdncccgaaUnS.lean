/-
  The document's own Fits (layer 6), and the text that one unit leaves (layer 7). Conditions: the unit fits; texts of at most a thousand code points.
-/
import Derived.Test.YtlnekhkdncccgaaUnK
namespace Go.Proofs.Ytlnekhkdncccgaa
open Go.RowKit
open Pl (Un)

set_option maxRecDepth 100000 in
set_option maxHeartbeats 400000 in
theorem fits6_any (u : Un) (n : Nat) (w : World) :
    Calls Try.prog 56 #[uval u, .int .i64 (n : Int)] w fun e w' => e = .returned (.bool (decide (Pl.Fit u (n : Int)))) ∧ Below w.heap.size w w' := by
  obtain ⟨k, p, c, x, y⟩ := u
  have HM := fun w => Lib.hid (okay6_any ⟨k, p, c, x, y⟩ w)
  obtain ⟨r, hr⟩ : ∃ r, r = decide (Pl.Fit ⟨k, p, c, x, y⟩ (n : Int)) := ⟨_, rfl⟩
  rw [← hr]
  have HR := Lib.hid hr
  clear hr
  have HU := Lib.hid (uat_new w k p c x y)
  have hn0 : (0 : Int) ≤ (n : Int) := Int.natCast_nonneg n
  have hn1 : ¬ (n : Int) < 0 := Int.not_lt.2 hn0
  by_cases hO : Pl.Okay ⟨k, p, c, x, y⟩
  · rw [decide_eq_true hO] at HM
    have HO := Lib.hid hO
    clear hO
    unfold uval at *
    simp only at *
    go_enter Try.func56, Try.ntmps56
    by_cases h1 : k = 1
    · subst h1
      go_wp2_with fail
      refine (HM _).out.mono ?_
      rintro e w' ⟨rfl, hb⟩
      have HB := Lib.hid (below_on hb)
      obtain ⟨c0, c1, c2, c3, c4⟩ := (HU.out.then_ hb).cells
      clear hb
      go_wp2_with fail
      go_ret
      refine ⟨ret_bool ?_, HB.out⟩
      rw [HR.out]
      unfold Pl.Fit
      simp [HO.out]
    · by_cases h2 : k = 2
      · subst h2
        go_wp2_with fail
        refine (HM _).out.mono ?_
        rintro e w' ⟨rfl, hb⟩
        have HB := Lib.hid (below_on hb)
        obtain ⟨c0, c1, c2, c3, c4⟩ := (HU.out.then_ hb).cells
        clear hb
        go_wp2_with fail
        go_ret
        refine ⟨ret_bool ?_, HB.out⟩
        rw [HR.out]
        unfold Pl.Fit
        simp [HO.out]
      · go_wp2_with fail
        refine (HM _).out.mono ?_
        rintro e w' ⟨rfl, hb⟩
        have HB := Lib.hid (below_on hb)
        obtain ⟨c0, c1, c2, c3, c4⟩ := (HU.out.then_ hb).cells
        clear hb
        go_wp2_with fail
        go_ret
        refine ⟨ret_bool ?_, HB.out⟩
        rw [HR.out]
        unfold Pl.Fit
        simp [HO.out, h1, h2]
  · rw [decide_eq_false hO] at HM
    have HO := Lib.hid (show r = false by rw [HR.out]; exact decide_eq_false fun h => hO h.1)
    clear hO HR
    unfold uval at *
    simp only at *
    go_enter Try.func56, Try.ntmps56
    by_cases h1 : k = 1
    · subst h1
      go_wp2_with fail
      refine (HM _).out.mono ?_
      rintro e w' ⟨rfl, hb⟩
      have HB := Lib.hid (below_on hb)
      clear hb
      go_wp2_with fail
      go_ret
      exact ⟨ret_bool HO.out.symm, HB.out⟩
    · by_cases h2 : k = 2
      · subst h2
        go_wp2_with fail
        refine (HM _).out.mono ?_
        rintro e w' ⟨rfl, hb⟩
        have HB := Lib.hid (below_on hb)
        clear hb
        go_wp2_with fail
        go_ret
        exact ⟨ret_bool HO.out.symm, HB.out⟩
      · go_wp2_with fail
        refine (HM _).out.mono ?_
        rintro e w' ⟨rfl, hb⟩
        have HB := Lib.hid (below_on hb)
        clear hb
        go_wp2_with fail
        go_ret
        exact ⟨ret_bool HO.out.symm, HB.out⟩
namespace Pl
/-- what round i of the document's own Apply lays down -/
def stepA (u : Un) (cs : List Int) (i : Nat) : List Int := (if u.k = 1 ∧ (i : Int) = u.p then [u.c] else []) ++ (if i < cs.length ∧ (u.k ≠ 2 ∨ (i : Int) ≠ u.p) then [cs.getD i 0] else [])
def partA (u : Un) (cs : List Int) : Nat → List Int
  | 0 => []
  | i + 1 => partA u cs i ++ stepA u cs i
theorem take_one {cs : List Int} {i : Nat} (h : i < cs.length) : cs.take (i + 1) = cs.take i ++ [cs.getD i 0] := by
  rw [List.take_add_one, List.getElem?_eq_getElem h, List.getD_eq_getElem?_getD, List.getElem?_eq_getElem h]; rfl
theorem part_len (u : Un) (cs : List Int) (i : Nat) : (partA u cs i).length ≤ 2 * i := by
  induction i with
  | zero => exact Nat.le_refl _
  | succ i ih =>
    have : (stepA u cs i).length ≤ 2 := by unfold stepA; rw [List.length_append]; split <;> split <;> simp
    rw [partA, List.length_append]; omega
theorem part_ahead (u : Un) (cs : List Int) (i : Nat) (hi : i ≤ cs.length) (h : u.k = 1 ∨ u.k = 2 → (i : Int) ≤ u.p) : partA u cs i = cs.take i := by
  induction i with
  | zero => simp [partA]
  | succ i ih =>
    rw [partA, ih (by omega) (fun hk => by have := h hk; omega), take_one (by omega)]
    congr 1
    unfold stepA
    by_cases h1 : u.k = 1
    · have := h (Or.inl h1)
      rw [if_neg (by omega), if_pos ⟨by omega, Or.inl (by omega)⟩]; rfl
    · rw [if_neg (fun hh => h1 hh.1)]
      by_cases h2 : u.k = 2
      · have := h (Or.inr h2)
        rw [if_pos ⟨by omega, Or.inr (by omega)⟩]; rfl
      · rw [if_pos ⟨by omega, Or.inl h2⟩]; rfl
theorem part_past (u : Un) (cs : List Int) (p : Nat) (hp : u.p = (p : Int)) (_hk : u.k = 1 ∨ u.k = 2) : ∀ t, p + 1 + t ≤ cs.length → partA u cs (p + 1 + t) = partA u cs (p + 1) ++ (cs.drop (p + 1)).take t := by
  intro t
  induction t with
  | zero => intro _; simp
  | succ t ih =>
    intro h
    rw [show p + 1 + (t + 1) = (p + 1 + t) + 1 from rfl, partA, ih (by omega), List.append_assoc]
    congr 1
    have e : (cs.drop (p + 1)).take (t + 1) = (cs.drop (p + 1)).take t ++ [(cs.drop (p + 1)).getD t 0] := take_one (by rw [List.length_drop]; omega)
    rw [e]
    congr 1
    unfold stepA
    rw [if_neg (by omega), if_pos ⟨by omega, Or.inr (by omega)⟩, List.getD_eq_getElem?_getD, List.getD_eq_getElem?_getD, List.getElem?_drop]; rfl
theorem part_end (u : Un) (cs : List Int) (h : Fit u cs.length) : partA u cs (cs.length + 1) = behind u cs := by
  have hlast : ∀ i, i = cs.length → ¬ (u.k = 1 ∧ (i : Int) = u.p) → stepA u cs i = [] := fun i hi h1 => by
    unfold stepA; rw [if_neg h1, if_neg (by omega)]; rfl
  unfold behind
  by_cases h1 : u.k = 1
  · rw [if_pos h1]
    have hp0 : 0 ≤ u.p := by rcases h.1 with ⟨a, _⟩ | ⟨_, b, _⟩ <;> omega
    obtain ⟨p, hp⟩ : ∃ p : Nat, u.p = (p : Int) := ⟨u.p.toNat, by omega⟩
    have hpl : p ≤ cs.length := by have := h.2.1 h1; omega
    rw [hp, Int.toNat_natCast]
    have e1 : partA u cs p = cs.take p := part_ahead u cs p hpl (fun _ => by omega)
    rcases Nat.lt_or_ge p cs.length with hlt | hge
    · have e2 : partA u cs (p + 1) = cs.take p ++ u.c :: [cs.getD p 0] := by
        rw [partA, e1]; congr 1; unfold stepA
        rw [if_pos ⟨h1, hp.symm⟩, if_pos ⟨hlt, Or.inl (by omega)⟩]; rfl
      have e3 := part_past u cs p hp (Or.inl h1) (cs.length - (p + 1)) (by omega)
      rw [show p + 1 + (cs.length - (p + 1)) = cs.length by omega] at e3
      rw [partA, hlast _ rfl (by omega), List.append_nil, e3, e2, List.append_assoc]
      congr 1
      rw [List.take_of_length_le (by rw [List.length_drop]; omega), List.drop_eq_getElem_cons hlt, List.getD_eq_getElem?_getD, List.getElem?_eq_getElem hlt]
      rfl
    · obtain rfl : p = cs.length := by omega
      rw [partA, e1]
      unfold stepA
      rw [if_pos ⟨h1, hp.symm⟩, if_neg (by omega), List.drop_length]; rfl
  · rw [if_neg h1]
    rw [partA, hlast _ rfl (fun hh => h1 hh.1), List.append_nil]
    by_cases h2 : u.k = 2
    · rw [if_pos h2]
      have hp0 : 0 ≤ u.p := by rcases h.1 with ⟨a, _⟩ | ⟨_, b, _⟩ <;> omega
      obtain ⟨p, hp⟩ : ∃ p : Nat, u.p = (p : Int) := ⟨u.p.toNat, by omega⟩
      have hpl : p < cs.length := by have := h.2.2 h2; omega
      rw [hp, Int.toNat_natCast]
      have e1 : partA u cs p = cs.take p := part_ahead u cs p (by omega) (fun _ => by omega)
      have e2 : partA u cs (p + 1) = cs.take p := by
        rw [partA, e1]; unfold stepA
        rw [if_neg (fun hh => h1 hh.1), if_neg (fun hh => hh.2.elim (fun a => a h2) (fun a => a hp.symm))]; simp
      have e3 := part_past u cs p hp (Or.inr h2) (cs.length - (p + 1)) (by omega)
      rw [show p + 1 + (cs.length - (p + 1)) = cs.length by omega] at e3
      rw [e3, e2, List.take_of_length_le (l := cs.drop (p + 1)) (by rw [List.length_drop]; omega)]
    · rw [if_neg h2, part_ahead u cs cs.length (Nat.le_refl _) (fun hk => by rcases hk with hk | hk; exact absurd hk h1; exact absurd hk h2), List.take_length]
end Pl
/-- between one round and the next -/
def AuR (w : World) (u : Un) (cs : List Int) (s i : Value) (wr : World) : Prop := ∃ (j m : Nat) (A : Option Addr) (c : Nat), i = .int .i64 (j : Int) ∧ s = .slice A m c ∧ j ≤ cs.length + 1 ∧ OwnC wr w.heap.size (.slice A m c) (Pl.partA u cs j) ∧ Below w.heap.size w wr
set_option maxRecDepth 100000 in
set_option maxHeartbeats 2000000 in
theorem one_any (u : Un) (A : Option Addr) (n c : Nat) (cs : List Int) (w : World) (h1 : Crs w w.heap.size A n c cs) (hn : n ≤ 1000) (hF : Pl.Fit u (n : Int)) (hJ : Pl.J u.c) :
    Calls Try.prog 57 #[.slice A n c, uval u] w (RetC w (Pl.behind u cs)) := by
  have HL := Lib.hid h1.len
  have hcap := h1.cap
  have hle := h1.le
  unfold maxLen at hcap
  have HUJ := Lib.hid hJ
  obtain ⟨k, p, ch, x, y⟩ := u
  obtain ⟨W0, hW0⟩ : ∃ W0, W0 = w.alloc (.cells #[.int .i64 k, .int .i64 p, .int .i32 ch, .int .u32 x, .int .u64 y] 42) := ⟨_, rfl⟩
  have hb3 : Below w.heap.size w W0 := by rw [hW0]; exact below_box _ _
  have HB3 := Lib.hid hb3
  have H1 := Lib.hid h1
  have HU3 := Lib.hid (show UAt W0 w.heap.size k p ch x y by rw [hW0]; exact uat_new w k p ch x y)
  have HW0 := Lib.hid hW0
  have HFF := Lib.hid (show Pl.Fit ⟨k, p, ch, x, y⟩ (cs.length : Int) by rw [HL.out]; exact hF)
  have HKK := Lib.hid (show k = 0 ∨ k = 1 ∨ k = 2 by rcases hF.1 with ⟨h, _⟩ | ⟨h | h, _⟩ <;> (simp only at h; omega))
  have HPP := Lib.hid (show k = 2 → p < (n : Int) from hF.2.2)
  clear h1 hF hJ hb3 hW0
  unfold uval
  simp only at *
  go_enter Try.func57, Try.ntmps57
  go_wp2_with fail
  rw [show w.alloc (.cells #[.int .i64 k, .int .i64 p, .int .i32 ch, .int .u32 x, .int .u64 y] 42) = W0 from HW0.out.symm]
  go_loopw [5, 6] (fun s i wr => AuR W0 ⟨k, p, ch, x, y⟩ cs s i wr) (fun _ i _ => n + 1 - (intOf i).toNat)
  case atStart => exact ⟨0, 0, none, 0, rfl, rfl, Nat.zero_le _, OwnC.nil_ _ _, Below.refl _ _⟩
  case round =>
    obtain ⟨j, m, A2, c2, rfl, rfl, hj, ho, hb⟩ := hrel
    have HO := Lib.hid ho
    have HBW := Lib.hid hb
    have HB := Lib.hid (below_then HB3.out hb)
    have hm : m ≤ 2 * j := by have h := ho.crs.1; have h2 := Pl.part_len ⟨k, p, ch, x, y⟩ cs j; omega
    obtain ⟨u0, u1, u2, u3, u4⟩ := (HU3.out.below hb HU3.out.lt).cells
    rw [HL.out] at hj
    have z0 : (0 : Int) ≤ (j : Int) := Int.natCast_nonneg j
    by_cases hlt : j < n + 1
    · have HPN := Lib.hid (show Pl.partA ⟨k, p, ch, x, y⟩ cs (j + 1) = Pl.partA ⟨k, p, ch, x, y⟩ cs j ++ Pl.stepA ⟨k, p, ch, x, y⟩ cs j from rfl)
      obtain ⟨P, hP⟩ : ∃ P, P = Pl.partA ⟨k, p, ch, x, y⟩ cs j := ⟨_, rfl⟩
      rw [← hP] at HO HPN
      have HMS := Lib.hid (show n + 1 - (j + 1) < n + 1 - j by omega)
      have HJ1 := Lib.hid (show j + 1 ≤ cs.length + 1 by rw [HL.out]; omega)
      have hm5 : m ≤ 2002 := by omega
      have zl : (j : Int) ≤ (n : Int) := by omega
      clear ho hb hP hj hm
      by_cases hjn : j < n
      · obtain ⟨g1, o1, rfl, hg1, hc1⟩ := (H1.out.below HB.out (Nat.le_refl _)).at_ hjn
        have a0 := hc1 j hjn
        have HZJ := Lib.hid (H1.out.getJ j)
        have HZC := Lib.hid (show ∀ w9, Below w.heap.size w w9 → w9.cell? ⟨g1, o1 + j, none⟩ = some (.int .i32 (cs.getD j 0)) from fun w9 h => by
          obtain ⟨g', o', e, _, hc'⟩ := (H1.out.below h (Nat.le_refl _)).at_ hjn
          cases e; exact hc' j hjn)
        have hin : j < cs.length := by rw [HL.out]; exact hjn
        have HZ1 := Lib.hid (show k = 1 → (j : Int) = p → Pl.stepA ⟨k, p, ch, x, y⟩ cs j = [ch, cs.getD j 0] from fun h1 h2 => by
          unfold Pl.stepA; rw [if_pos ⟨h1, h2⟩, if_pos ⟨hin, Or.inl (by simp only; omega)⟩]; rfl)
        have HZ2 := Lib.hid (show k = 2 → (j : Int) = p → Pl.stepA ⟨k, p, ch, x, y⟩ cs j = [] from fun h1 h2 => by
          unfold Pl.stepA; rw [if_neg (by simp only; omega), if_neg (by simp only; omega)]; rfl)
        have HZ3 := Lib.hid (show (k = 0 ∨ (j : Int) ≠ p) → Pl.stepA ⟨k, p, ch, x, y⟩ cs j = [cs.getD j 0] from fun h1 => by
          unfold Pl.stepA; rw [if_neg (by simp only; omega), if_pos ⟨hin, by simp only; omega⟩]; rfl)
        obtain ⟨z, hz⟩ : ∃ z, z = cs.getD j 0 := ⟨_, rfl⟩
        rw [← hz] at a0 HZJ HZC HZ1 HZ3
        have z1 : (j : Int) < (n : Int) := Int.ofNat_lt.2 hjn
        clear hc1 hz hin
        by_cases hp : (j : Int) = p
        · have hpb : ((j : Int) == p) = true := by simpa using hp
          have hpn : ((j : Int) != p) = false := by simpa using hp
          rcases HKK.out with hk | hk | hk
          · subst hk
            have hst := HZ3.out (Or.inl rfl)
            clear HZ1 HZ2 HZ3 hp
            have HST := Lib.hid hst
            clear hst
            have HSV := Lib.hid (show Crs (World.alloc wr (.cells #[.int .i32 z] 40)) (World.alloc wr (.cells #[.int .i32 z] 40)).heap.size (some ⟨World.heap wr |>.size, 0, none⟩) 1 1 [z] from (crs_lit wr [z] (fun x hx => by rw [List.mem_singleton.1 hx]; exact HZJ.out) (by simp [maxLen])).crs.2)
            have HOV := Lib.hid (OwnC.then_ HO.out (below_box wr (.cells #[.int .i32 z] 40)))
            have HBV := Lib.hid (below_then HBW.out (below_box wr (.cells #[.int .i32 z] 40)))
            have hsz := HBV.out.size
            go_wp2_with (at_builtin; refine wpList_append_crs (World.alloc wr (.cells #[.int .i32 z] 40)) rfl (.tmp 43) (.tmp 48) rfl W0.heap.size A2 (m) c2 (P) (by rfl) HOV.out _ (some ⟨World.heap wr |>.size, 0, none⟩) 1 1 [z] (by rfl) HSV.out (by omega) hsz ?_)
            intro A5 c5 w5 hO5 hg5 _
            have HO5 := Lib.hid hO5
            have HB5 := Lib.hid (below_appendC HOV.out hg5 HBV.out hsz)
            clear hO5 hg5 hsz HSV HOV HBV
            have HO9 := Lib.hid (show OwnC w5 W0.heap.size (.slice A5 (m + 1) c5) (Pl.partA ⟨0, p, ch, x, y⟩ cs (j + 1)) by rw [HPN.out, HST.out]; exact HO5.out)
            go_wp2_with fail
            go_roundw
            case rel => exact ⟨j + 1, (m+1), A5, c5, by go_num, rfl, HJ1.out, HO9.out, HB5.out⟩
            case measure => simp [intOf]; have h := HMS.out; omega
          · subst hk
            have hst := HZ1.out rfl hp
            clear HZ1 HZ2 HZ3 hp
            have HST := Lib.hid hst
            clear hst
            have HSV := Lib.hid (show Crs (World.alloc wr (.cells #[.int .i32 ch] 40)) (World.alloc wr (.cells #[.int .i32 ch] 40)).heap.size (some ⟨World.heap wr |>.size, 0, none⟩) 1 1 [ch] from (crs_lit wr [ch] (fun x hx => by rw [List.mem_singleton.1 hx]; exact HUJ.out) (by simp [maxLen])).crs.2)
            have HOV := Lib.hid (OwnC.then_ HO.out (below_box wr (.cells #[.int .i32 ch] 40)))
            have HBV := Lib.hid (below_then HBW.out (below_box wr (.cells #[.int .i32 ch] 40)))
            have hsz := HBV.out.size
            go_wp2_with (at_builtin; refine wpList_append_crs (World.alloc wr (.cells #[.int .i32 ch] 40)) rfl (.tmp 22) (.tmp 25) rfl W0.heap.size A2 (m) c2 (P) (by rfl) HOV.out _ (some ⟨World.heap wr |>.size, 0, none⟩) 1 1 [ch] (by rfl) HSV.out (by omega) hsz ?_)
            intro A5 c5 w5 hO5 hg5 _
            have HO5 := Lib.hid hO5
            have HB5 := Lib.hid (below_appendC HOV.out hg5 HBV.out hsz)
            clear hO5 hg5 hsz HSV HOV HBV
            obtain ⟨s0, s1, s2, s3, s4⟩ := (HU3.out.below HB5.out HU3.out.lt).cells
            have sz := HZC.out w5 (below_then HB3.out HB5.out)
            clear u0 u1 u2 u3 u4 a0
            obtain ⟨M, hM⟩ : ∃ M, M = m + 1 := ⟨_, rfl⟩
            have hm6 : M ≤ 3000 := by omega
            rw [← hM] at HO5 ⊢
            obtain ⟨P5, hP5⟩ : ∃ P5, P5 = P ++ [ch] := ⟨_, rfl⟩
            have HP5 := Lib.hid hP5
            rw [← hP5] at HO5
            clear hM hP5
            have HSV := Lib.hid (show Crs (World.alloc w5 (.cells #[.int .i32 z] 40)) (World.alloc w5 (.cells #[.int .i32 z] 40)).heap.size (some ⟨World.heap w5 |>.size, 0, none⟩) 1 1 [z] from (crs_lit w5 [z] (fun x hx => by rw [List.mem_singleton.1 hx]; exact HZJ.out) (by simp [maxLen])).crs.2)
            have HOV := Lib.hid (OwnC.then_ HO5.out (below_box w5 (.cells #[.int .i32 z] 40)))
            have HBV := Lib.hid (below_then HB5.out (below_box w5 (.cells #[.int .i32 z] 40)))
            have hsz := HBV.out.size
            go_wp2_with (at_builtin; refine wpList_append_crs (World.alloc w5 (.cells #[.int .i32 z] 40)) rfl (.tmp 43) (.tmp 48) rfl W0.heap.size A5 (M) c5 (P5) (by rfl) HOV.out _ (some ⟨World.heap w5 |>.size, 0, none⟩) 1 1 [z] (by rfl) HSV.out (by omega) hsz ?_)
            intro A6 c6 w6 hO5 hg5 _
            have HO6 := Lib.hid hO5
            have HB6 := Lib.hid (below_appendC HOV.out hg5 HBV.out hsz)
            clear hO5 hg5 hsz HSV HOV HBV
            have HO9 := Lib.hid (show OwnC w6 W0.heap.size (.slice A6 (M + 1) c6) (Pl.partA ⟨1, p, ch, x, y⟩ cs (j + 1)) by rw [HPN.out, HST.out, show P ++ [ch, z] = P5 ++ [z] by rw [HP5.out, List.append_assoc]; rfl]; exact HO6.out)
            go_wp2_with fail
            go_roundw
            case rel => exact ⟨j + 1, (M+1), A6, c6, by go_num, rfl, HJ1.out, HO9.out, HB6.out⟩
            case measure => simp [intOf]; have h := HMS.out; omega
          · subst hk
            have hst := HZ2.out rfl hp
            clear HZ1 HZ2 HZ3 hp
            have HO9 := Lib.hid (show OwnC wr W0.heap.size (.slice A2 m c2) (Pl.partA ⟨2, p, ch, x, y⟩ cs (j + 1)) by rw [HPN.out, hst, List.append_nil]; exact HO.out)
            clear hst
            go_wp2_with fail
            go_roundw
            case rel => exact ⟨j + 1, m, A2, c2, by go_num, rfl, HJ1.out, HO9.out, HBW.out⟩
            case measure => simp [intOf]; have h := HMS.out; omega
        · have hpb : ((j : Int) == p) = false := by simpa using hp
          have hpn : ((j : Int) != p) = true := by simpa using hp
          have hst := HZ3.out (Or.inr hp)
          clear HZ1 HZ2 HZ3 hp
          rcases HKK.out with hk | hk | hk
          · subst hk
            have HST := Lib.hid hst
            clear hst
            have HSV := Lib.hid (show Crs (World.alloc wr (.cells #[.int .i32 z] 40)) (World.alloc wr (.cells #[.int .i32 z] 40)).heap.size (some ⟨World.heap wr |>.size, 0, none⟩) 1 1 [z] from (crs_lit wr [z] (fun x hx => by rw [List.mem_singleton.1 hx]; exact HZJ.out) (by simp [maxLen])).crs.2)
            have HOV := Lib.hid (OwnC.then_ HO.out (below_box wr (.cells #[.int .i32 z] 40)))
            have HBV := Lib.hid (below_then HBW.out (below_box wr (.cells #[.int .i32 z] 40)))
            have hsz := HBV.out.size
            go_wp2_with (at_builtin; refine wpList_append_crs (World.alloc wr (.cells #[.int .i32 z] 40)) rfl (.tmp 43) (.tmp 48) rfl W0.heap.size A2 (m) c2 (P) (by rfl) HOV.out _ (some ⟨World.heap wr |>.size, 0, none⟩) 1 1 [z] (by rfl) HSV.out (by omega) hsz ?_)
            intro A5 c5 w5 hO5 hg5 _
            have HO5 := Lib.hid hO5
            have HB5 := Lib.hid (below_appendC HOV.out hg5 HBV.out hsz)
            clear hO5 hg5 hsz HSV HOV HBV
            have HO9 := Lib.hid (show OwnC w5 W0.heap.size (.slice A5 (m + 1) c5) (Pl.partA ⟨0, p, ch, x, y⟩ cs (j + 1)) by rw [HPN.out, HST.out]; exact HO5.out)
            go_wp2_with fail
            go_roundw
            case rel => exact ⟨j + 1, (m+1), A5, c5, by go_num, rfl, HJ1.out, HO9.out, HB5.out⟩
            case measure => simp [intOf]; have h := HMS.out; omega
          · subst hk
            have HST := Lib.hid hst
            clear hst
            have HSV := Lib.hid (show Crs (World.alloc wr (.cells #[.int .i32 z] 40)) (World.alloc wr (.cells #[.int .i32 z] 40)).heap.size (some ⟨World.heap wr |>.size, 0, none⟩) 1 1 [z] from (crs_lit wr [z] (fun x hx => by rw [List.mem_singleton.1 hx]; exact HZJ.out) (by simp [maxLen])).crs.2)
            have HOV := Lib.hid (OwnC.then_ HO.out (below_box wr (.cells #[.int .i32 z] 40)))
            have HBV := Lib.hid (below_then HBW.out (below_box wr (.cells #[.int .i32 z] 40)))
            have hsz := HBV.out.size
            go_wp2_with (at_builtin; refine wpList_append_crs (World.alloc wr (.cells #[.int .i32 z] 40)) rfl (.tmp 43) (.tmp 48) rfl W0.heap.size A2 (m) c2 (P) (by rfl) HOV.out _ (some ⟨World.heap wr |>.size, 0, none⟩) 1 1 [z] (by rfl) HSV.out (by omega) hsz ?_)
            intro A5 c5 w5 hO5 hg5 _
            have HO5 := Lib.hid hO5
            have HB5 := Lib.hid (below_appendC HOV.out hg5 HBV.out hsz)
            clear hO5 hg5 hsz HSV HOV HBV
            have HO9 := Lib.hid (show OwnC w5 W0.heap.size (.slice A5 (m + 1) c5) (Pl.partA ⟨1, p, ch, x, y⟩ cs (j + 1)) by rw [HPN.out, HST.out]; exact HO5.out)
            go_wp2_with fail
            go_roundw
            case rel => exact ⟨j + 1, (m+1), A5, c5, by go_num, rfl, HJ1.out, HO9.out, HB5.out⟩
            case measure => simp [intOf]; have h := HMS.out; omega
          · subst hk
            have HST := Lib.hid hst
            clear hst
            have HSV := Lib.hid (show Crs (World.alloc wr (.cells #[.int .i32 z] 40)) (World.alloc wr (.cells #[.int .i32 z] 40)).heap.size (some ⟨World.heap wr |>.size, 0, none⟩) 1 1 [z] from (crs_lit wr [z] (fun x hx => by rw [List.mem_singleton.1 hx]; exact HZJ.out) (by simp [maxLen])).crs.2)
            have HOV := Lib.hid (OwnC.then_ HO.out (below_box wr (.cells #[.int .i32 z] 40)))
            have HBV := Lib.hid (below_then HBW.out (below_box wr (.cells #[.int .i32 z] 40)))
            have hsz := HBV.out.size
            go_wp2_with (at_builtin; refine wpList_append_crs (World.alloc wr (.cells #[.int .i32 z] 40)) rfl (.tmp 43) (.tmp 48) rfl W0.heap.size A2 (m) c2 (P) (by rfl) HOV.out _ (some ⟨World.heap wr |>.size, 0, none⟩) 1 1 [z] (by rfl) HSV.out (by omega) hsz ?_)
            intro A5 c5 w5 hO5 hg5 _
            have HO5 := Lib.hid hO5
            have HB5 := Lib.hid (below_appendC HOV.out hg5 HBV.out hsz)
            clear hO5 hg5 hsz HSV HOV HBV
            have HO9 := Lib.hid (show OwnC w5 W0.heap.size (.slice A5 (m + 1) c5) (Pl.partA ⟨2, p, ch, x, y⟩ cs (j + 1)) by rw [HPN.out, HST.out]; exact HO5.out)
            go_wp2_with fail
            go_roundw
            case rel => exact ⟨j + 1, (m+1), A5, c5, by go_num, rfl, HJ1.out, HO9.out, HB5.out⟩
            case measure => simp [intOf]; have h := HMS.out; omega
      · have hjn2 : ¬ (j : Int) < (n : Int) := by omega
        have hin : ¬ j < cs.length := by rw [HL.out]; exact hjn
        have HZ1 := Lib.hid (show k = 1 → (j : Int) = p → Pl.stepA ⟨k, p, ch, x, y⟩ cs j = [ch] from fun h1 h2 => by
          unfold Pl.stepA; rw [if_pos ⟨h1, h2⟩, if_neg (fun h => hin h.1)]; rfl)
        have HZ2 := Lib.hid (show ¬ (k = 1 ∧ (j : Int) = p) → Pl.stepA ⟨k, p, ch, x, y⟩ cs j = [] from fun h1 => by
          unfold Pl.stepA; rw [if_neg h1, if_neg (fun h => hin h.1)]; rfl)
        clear hin
        rcases HKK.out with hk | hk | hk
        · subst hk
          have hst := HZ2.out (fun h => by have := h.1; omega)
          clear HZ1 HZ2
          have HO9 := Lib.hid (show OwnC wr W0.heap.size (.slice A2 m c2) (Pl.partA ⟨0, p, ch, x, y⟩ cs (j + 1)) by rw [HPN.out, hst, List.append_nil]; exact HO.out)
          clear hst
          go_wp2_with fail
          go_roundw
          case rel => exact ⟨j + 1, m, A2, c2, by go_num, rfl, HJ1.out, HO9.out, HBW.out⟩
          case measure => simp [intOf]; have h := HMS.out; omega
        · subst hk
          by_cases hp : (j : Int) = p
          · have hpb : ((j : Int) == p) = true := by simpa using hp
            have hst := HZ1.out rfl hp
            clear HZ1 HZ2 hp
            have HST := Lib.hid hst
            clear hst
            have HSV := Lib.hid (show Crs (World.alloc wr (.cells #[.int .i32 ch] 40)) (World.alloc wr (.cells #[.int .i32 ch] 40)).heap.size (some ⟨World.heap wr |>.size, 0, none⟩) 1 1 [ch] from (crs_lit wr [ch] (fun x hx => by rw [List.mem_singleton.1 hx]; exact HUJ.out) (by simp [maxLen])).crs.2)
            have HOV := Lib.hid (OwnC.then_ HO.out (below_box wr (.cells #[.int .i32 ch] 40)))
            have HBV := Lib.hid (below_then HBW.out (below_box wr (.cells #[.int .i32 ch] 40)))
            have hsz := HBV.out.size
            go_wp2_with (at_builtin; refine wpList_append_crs (World.alloc wr (.cells #[.int .i32 ch] 40)) rfl (.tmp 22) (.tmp 25) rfl W0.heap.size A2 (m) c2 (P) (by rfl) HOV.out _ (some ⟨World.heap wr |>.size, 0, none⟩) 1 1 [ch] (by rfl) HSV.out (by omega) hsz ?_)
            intro A5 c5 w5 hO5 hg5 _
            have HO5 := Lib.hid hO5
            have HB5 := Lib.hid (below_appendC HOV.out hg5 HBV.out hsz)
            clear hO5 hg5 hsz HSV HOV HBV
            have HO9 := Lib.hid (show OwnC w5 W0.heap.size (.slice A5 (m + 1) c5) (Pl.partA ⟨1, p, ch, x, y⟩ cs (j + 1)) by rw [HPN.out, HST.out]; exact HO5.out)
            obtain ⟨s0, s1, s2, s3, s4⟩ := (HU3.out.below HB5.out HU3.out.lt).cells
            clear u0 u1 u2 u3 u4
            go_wp2_with fail
            go_roundw
            case rel => exact ⟨j + 1, (m+1), A5, c5, by go_num, rfl, HJ1.out, HO9.out, HB5.out⟩
            case measure => simp [intOf]; have h := HMS.out; omega
          · have hpb : ((j : Int) == p) = false := by simpa using hp
            have hst := HZ2.out (fun h => hp h.2)
            clear HZ1 HZ2 hp
            have HO9 := Lib.hid (show OwnC wr W0.heap.size (.slice A2 m c2) (Pl.partA ⟨1, p, ch, x, y⟩ cs (j + 1)) by rw [HPN.out, hst, List.append_nil]; exact HO.out)
            clear hst
            go_wp2_with fail
            go_roundw
            case rel => exact ⟨j + 1, m, A2, c2, by go_num, rfl, HJ1.out, HO9.out, HBW.out⟩
            case measure => simp [intOf]; have h := HMS.out; omega
        · subst hk
          have hst := HZ2.out (fun h => by have := h.1; omega)
          clear HZ1 HZ2
          have HO9 := Lib.hid (show OwnC wr W0.heap.size (.slice A2 m c2) (Pl.partA ⟨2, p, ch, x, y⟩ cs (j + 1)) by rw [HPN.out, hst, List.append_nil]; exact HO.out)
          clear hst
          go_wp2_with fail
          go_roundw
          case rel => exact ⟨j + 1, m, A2, c2, by go_num, rfl, HJ1.out, HO9.out, HBW.out⟩
          case measure => simp [intOf]; have h := HMS.out; omega
    · have hE : Pl.partA ⟨k, p, ch, x, y⟩ cs j = Pl.behind ⟨k, p, ch, x, y⟩ cs := by
        have e : j = cs.length + 1 := by rw [HL.out]; omega
        rw [e]; exact Pl.part_end _ _ HFF.out
      have HO9 := Lib.hid (show OwnC wr W0.heap.size (.slice A2 m c2) (Pl.behind ⟨k, p, ch, x, y⟩ cs) by rw [← hE]; exact ho)
      have HML := Lib.hid (show m = (Pl.behind ⟨k, p, ch, x, y⟩ cs).length from HO9.out.crs.1)
      have zl : ¬ (j : Int) ≤ (n : Int) := by omega
      have zl2 : (n : Int) < (j : Int) := by omega
      clear ho hb hj hE hm
      go_wp2_with fail
      go_ret
      exact ⟨A2, c2, by rw [← HML.out]; rfl, by rw [← HML.out]; exact HO9.out.lower HB3.out.size, HB.out⟩
end Go.Proofs.Ytlnekhkdncccgaa
