/-
  Small calls of layer 9's law and of the document's own answer: numbered, Contains, the document's Clean. Conditions: those that each states.
-/
import Derived.Test.YtlnekhkdncccgaaUnQ
import Derived.Test.YtlnekhkdncccgaaWvR
import Derived.BigQuiet
namespace Go.Proofs.Ytlnekhkdncccgaa
open Go.RowKit
open Pl (Un)

/-- the numbers from 1000 on -/
def Pl.numL (n : Nat) : List Int := (List.range n).map fun i : Nat => 1000 + (i : Int)
theorem Pl.num_len (n : Nat) : (Pl.numL n).length = n := by simp [Pl.numL]
theorem Pl.num_succ (n : Nat) : Pl.numL (n + 1) = Pl.numL n ++ [1000 + (n : Int)] := by unfold Pl.numL; rw [List.range_succ, List.map_append]; rfl
theorem Pl.num_mem {n : Nat} {c : Int} (h : c ∈ Pl.numL n) : ∃ i, i < n ∧ c = 1000 + (i : Int) := by
  obtain ⟨i, hi, rfl⟩ := List.mem_map.1 h
  exact ⟨i, List.mem_range.1 hi, rfl⟩
theorem Pl.num_nodup (n : Nat) : (Pl.numL n).Nodup := by
  unfold Pl.numL
  rw [List.nodup_iff_pairwise_ne, List.pairwise_map]
  refine List.Pairwise.imp ?_ (List.nodup_iff_pairwise_ne.1 (List.nodup_range (n := n)))
  intro a b h e
  apply h; omega
theorem Pl.num_sorted (n : Nat) : (Pl.numL n).Pairwise (· ≤ ·) := by
  unfold Pl.numL
  rw [List.pairwise_map]
  refine List.Pairwise.imp ?_ (List.pairwise_lt_range (n := n))
  intro a b h; omega
/-- between one number and the next -/
def NuR (w : World) (s i : Value) (wr : World) : Prop := ∃ (j : Nat) (A : Option Addr) (c : Nat), i = .int .i64 (j : Int) ∧ s = .slice A j c ∧ OwnC wr w.heap.size (.slice A j c) (Pl.numL j) ∧ Below w.heap.size w wr
set_option maxRecDepth 100000 in
set_option maxHeartbeats 1000000 in
theorem numbered_any (n : Nat) (hn : n ≤ 1000) (w : World) :
    Calls Try.prog 21 #[.int .i64 (n : Int)] w fun e w' => ∃ A c, e = .returned (.slice A n c) ∧ OwnC w' w.heap.size (.slice A n c) (Pl.numL n) ∧ Below w.heap.size w w' := by
  go_enter Try.func21, Try.ntmps21
  go_wp2_with fail
  go_loopw [3, 6] (fun s i wr => (∃ j : Nat, i = .int .i64 (j : Int) ∧ j ≤ n) ∧ NuR w s i wr) (fun _ i _ => n - (intOf i).toNat)
  case atStart => exact ⟨⟨0, rfl, Nat.zero_le _⟩, 0, none, 0, rfl, rfl, OwnC.nil_ _ _, Below.refl _ _⟩
  case round =>
    obtain ⟨⟨j0, e0, hj⟩, j, A, c, rfl, rfl, ho, hb⟩ := hrel
    obtain rfl : j0 = j := by injection e0 with _ e; omega
    have HO := Lib.hid ho
    have HB := Lib.hid hb
    clear ho hb e0
    by_cases hlt : j0 < n
    · have z0 : (0 : Int) ≤ (j0 : Int) := Int.natCast_nonneg j0
      have z1 : (j0 : Int) < (n : Int) := Int.ofNat_lt.2 hlt
      have HMS := Lib.hid (show n - (j0 + 1) < n - j0 by omega)
      have HJ1 := Lib.hid (show j0 + 1 ≤ n from hlt)
      have HNS := Lib.hid (Pl.num_succ j0)
      have hj32 : Pl.J (1000 + (j0 : Int)) := by unfold Pl.J; omega
      have HSV := Lib.hid (show Crs (World.alloc wr (.cells #[.int .i32 (1000 + (j0 : Int))] 40)) (World.alloc wr (.cells #[.int .i32 (1000 + (j0 : Int))] 40)).heap.size (some ⟨wr.heap.size, 0, none⟩) 1 1 [1000 + (j0 : Int)] from (crs_lit wr [1000 + (j0 : Int)] (fun x hx => by rw [List.mem_singleton.1 hx]; exact hj32) (by simp [maxLen])).crs.2)
      have hbx := below_box wr (.cells #[.int .i32 (1000 + (j0 : Int))] 40)
      have HOV := Lib.hid (OwnC.then_ HO.out hbx)
      have HBV := Lib.hid (below_then HB.out hbx)
      have hsz := HBV.out.size
      clear hbx hj32
      go_wp2_with (at_builtin; refine wpList_append_crs (World.alloc wr (.cells #[.int .i32 (1000 + (j0 : Int))] 40)) rfl (.tmp 9) (.tmp 13) rfl w.heap.size A j0 c (Pl.numL j0) (by rfl) HOV.out _ (some ⟨wr.heap.size, 0, none⟩) 1 1 [1000 + (j0 : Int)] (by rfl) HSV.out (by omega) hsz ?_)
      intro A5 c5 w5 hO5 hg5 _
      have HO5 := Lib.hid hO5
      rw [← HNS.out] at HO5
      have HB5 := Lib.hid (below_appendC HOV.out hg5 HBV.out hsz)
      clear hO5 hg5 hsz HSV HOV HBV
      go_wp2_with fail
      go_roundw
      case rel => exact ⟨⟨j0 + 1, by go_num, HJ1.out⟩, j0 + 1, A5, c5, by go_num, rfl, HO5.out, HB5.out⟩
      case measure => simp [intOf]; exact HMS.out
    · obtain rfl : n = j0 := by omega
      go_wp2_with fail
      go_ret
      exact ⟨A, c, rfl, HO.out, HB.out⟩
/-- between one unit and the next, without Nops -/
def ClR (w : World) (l : List Un) (s i : Value) (wr : World) : Prop := ∃ (j m : Nat) (A : Option Addr) (c : Nat), i = .int .i64 (j : Int) ∧ s = .slice A m c ∧ j ≤ l.length ∧ OwnU wr w.heap.size (.slice A m c) (Pl.cleanL (l.take j)) ∧ Below w.heap.size w wr
set_option maxRecDepth 100000 in
set_option maxHeartbeats 1000000 in
theorem clean9_any (A : Option Addr) (n c : Nat) (l : List Un) (w : World) (h1 : Uns w w.heap.size A n c l) (hn : n ≤ 1000) :
    Calls Try.prog 19 #[.slice A n c] w (RetU w (Pl.cleanL l)) := by
  have HL := Lib.hid h1.len
  have H1 := Lib.hid h1
  clear h1
  go_enter Try.func19, Try.ntmps19
  go_wp2_with fail
  go_loopw [3, 4] (fun s i wr => ClR w l s i wr) (fun _ i _ => n - (intOf i).toNat)
  case atStart => exact ⟨0, 0, none, 0, rfl, rfl, Nat.zero_le _, OwnR.nil_ _ _ _ _ _, Below.refl _ _⟩
  case round =>
    obtain ⟨j, m, B, d, rfl, rfl, hj, ho, hb⟩ := hrel
    have HO := Lib.hid ho
    have HB := Lib.hid hb
    rw [HL.out] at hj
    by_cases hlt : j < n
    · obtain ⟨g1, o1, rfl, hg1, hc1⟩ := Uns.at_ (Rws.below H1.out hb (Nat.le_refl _)) hlt
      obtain ⟨a0, a1, a2, a3, a4⟩ := hc1 j hlt
      have hjl : j < l.length := by rw [HL.out]; exact hlt
      have hm : m ≤ j := by
        have h2 := OwnU.len ho
        have h3 := Pl.len_clean (l.take j)
        rw [List.length_take] at h3; omega
      have hts : l.take (j + 1) = l.take j ++ [l.getD j default] := by rw [List.take_add_one, getD_of_get hjl]; rfl
      obtain ⟨u, hu⟩ : ∃ u, u = l.getD j default := ⟨_, rfl⟩
      rw [← hu] at a0 a1 a2 a3 a4 hts
      have HCS := Lib.hid (show Pl.cleanL (l.take (j + 1)) = if u.k = 0 then Pl.cleanL (l.take j) else Pl.cleanL (l.take j) ++ [u] by rw [hts]; exact Pl.clean_snoc _ _)
      obtain ⟨k, p, ch, x, y⟩ := u
      simp only at a0 a1 a2 a3 a4 HCS
      have z0 : (0 : Int) ≤ (j : Int) := Int.natCast_nonneg j
      have z1 : (j : Int) < (n : Int) := Int.ofNat_lt.2 hlt
      have HMS := Lib.hid (show n - (j + 1) < n - j by omega)
      have HJ1 := Lib.hid (show j + 1 ≤ l.length from hjl)
      clear hc1 hu hts ho hb
      by_cases hk : k = 0
      · subst hk
        have HO2 := Lib.hid (show OwnU wr w.heap.size (.slice B m d) (Pl.cleanL (l.take (j + 1))) by rw [HCS.out, if_pos rfl]; exact HO.out)
        go_wp2_with fail
        go_roundw
        case rel => exact ⟨j + 1, m, B, d, by go_num, rfl, HJ1.out, HO2.out, HB.out⟩
        case measure => simp [intOf]; exact HMS.out
      · have hkb : (k != 0) = true := by simpa using hk
        have HC2 := Lib.hid (show Pl.cleanL (l.take (j + 1)) = Pl.cleanL (l.take j) ++ [⟨k, p, ch, x, y⟩] by rw [HCS.out, if_neg hk])
        have hVb := below_box wr (.cells #[.int .i64 k, .int .i64 p, .int .i32 ch, .int .u32 x, .int .u64 y] 42)
        have HOV := Lib.hid (OwnR.then_ HO.out hVb)
        have HRW := Lib.hid (OwnU.uns (unit_row wr k p ch x y))
        have HBV := Lib.hid (below_then HB.out hVb)
        have hsz := HBV.out.size
        clear hVb hk
        go_wp2_with (at_builtin; refine wpList_append_rws encU_len encU_one Try.underlying23 infoUn (by decide) (by decide) (World.alloc wr (.cells #[.int .i64 k, .int .i64 p, .int .i32 ch, .int .u32 x, .int .u64 y] 42)) rfl (.tmp 17) (.tmp 22) rfl w.heap.size B m d (Pl.cleanL (l.take j)) (by rfl) HOV.out _ (some ⟨wr.heap.size, 0, none⟩) 1 1 [⟨k, p, ch, x, y⟩] (by rfl) HRW.out (by unfold maxLen; omega) (by omega) hsz ?_)
        intro A4 c4 w4 hO4 hg4 _
        have HO5 := Lib.hid (show OwnU w4 w.heap.size (.slice A4 (m + 1) c4) (Pl.cleanL (l.take (j + 1))) by rw [HC2.out]; exact hO4)
        have HB5 := Lib.hid (OwnR.grownBelow HOV.out hg4 HBV.out hsz)
        clear hO4 hg4 hsz
        go_wp2_with fail
        go_roundw
        case rel => exact ⟨j + 1, m + 1, A4, c4, by go_num, rfl, HJ1.out, HO5.out, HB5.out⟩
        case measure => simp [intOf]; exact HMS.out
    · have hE : l.take j = l := List.take_of_length_le (by rw [HL.out]; omega)
      rw [hE] at HO
      have HM := Lib.hid (OwnU.len HO.out)
      clear hE ho hb
      go_wp2_with fail
      go_ret
      exact ⟨B, d, by rw [← HM.out]; rfl, by rw [← HM.out]; exact HO.out, HB.out⟩
end Go.Proofs.Ytlnekhkdncccgaa
