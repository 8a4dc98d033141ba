/-
  UndoBoth's closure: the first twenty units of a row, each an Ins. Conditions: those that it states.
-/
import Derived.Test.YtlnekhkdncccgaaUnK
namespace Go.Proofs.Ytlnekhkdncccgaa
open Go.RowKit
open Pl (Un)

def Pl.insU (u : Un) : Un := ⟨1, u.p, u.c, u.x, u.y⟩
def Pl.bringL (l : List Un) : List Un := (l.take 20).map Pl.insU
theorem Pl.bring_kind {l : List Un} : ∀ u ∈ Pl.bringL l, u.k ≠ 2 := fun u hu => by
  obtain ⟨v, _, rfl⟩ := List.mem_map.1 hu
  exact fun h => by cases h
/-- between one unit and the next -/
def BrR (W : World) (base K : Nat) (V : Value) (P : List Un) (i : Value) (wr : World) : Prop :=
  ∃ j : Nat, i = .int .i64 (j : Int) ∧ j ≤ K ∧ OwnU wr base V ((P.take j).map Pl.insU ++ P.drop j) ∧ Tn (fun b => V.ownBlock = some b) W wr
set_option maxRecDepth 100000 in
set_option maxHeartbeats 1000000 in
theorem bring_any (A : Option Addr) (n c : Nat) (l : List Un) (w : World) (h1 : Uns w w.heap.size A n c l) :
    Calls Try.prog 30 #[.slice A n c] w (RetU w (Pl.bringL l)) := by
  have hcap := h1.cap
  have hle := h1.le
  unfold maxLen at hcap
  obtain ⟨K, hK⟩ : ∃ K, K = min n 20 := ⟨_, rfl⟩
  have hK20 : K ≤ 20 := by omega
  have hmin : (if (20 : Int) < (n : Int) then (20 : Int) else (n : Int)) = (K : Int) := by split <;> omega
  have hst := slice_toU A n c K (by omega)
  have hup := Rws.upto encU_len h1 (show K ≤ n by omega)
  obtain ⟨P, hP⟩ : ∃ P, P = l.take K := ⟨_, rfl⟩
  have HPL := Lib.hid (show P.length = K by rw [hP, List.length_take, h1.len]; omega)
  have HPE := Lib.hid (show P = l.take 20 by
    rw [hP]
    by_cases h : n ≤ 20
    · rw [List.take_of_length_le (by rw [h1.len]; omega), List.take_of_length_le (by rw [h1.len]; omega)]
    · rw [show K = 20 by omega])
  rw [← hP] at hup
  have hbx := below_box w (.cells #[] 42)
  have HUP := Lib.hid (Rws.then_ hup hbx)
  have HB1 := Lib.hid hbx
  have HV := Lib.hid (show OwnU (w.alloc (.cells #[] 42)) w.heap.size (.slice (some ⟨w.heap.size, 0, none⟩) 0 0) [] from units_lit w [] (by simp))
  clear h1 hK hup hP hbx
  go_enter Try.func30, Try.ntmps30
  go_wp2_with (at_builtin; refine wpList_append_rws encU_len encU_one Try.underlying23 infoUn (by decide) (by decide) (w.alloc (.cells #[] 42)) rfl (.tmp 4) (.tmp 9) rfl w.heap.size _ 0 0 [] (by rfl) HV.out _ A K c P (by rfl) HUP.out (by unfold maxLen; omega) (by omega) (by simp) ?_)
  intro A2 c2 w2 hV2 hg2 _
  have hb2 := OwnR.grownBelow HV.out hg2 HB1.out (by simp)
  have hV2 : OwnU w2 w.heap.size (.slice A2 K c2) P := by simpa using hV2
  have HB2 := Lib.hid hb2
  have HR := Lib.hid (show BrR w2 w.heap.size K (.slice A2 K c2) P (.int .i64 ((0 : Nat) : Int)) w2 from ⟨0, rfl, Nat.zero_le _, hV2, Tn.refl _ _⟩)
  have HOG := Lib.hid hV2.lt
  clear hb2 hV2 hg2 hst hmin
  go_wp2_with fail
  go_loopw [13] (fun i wr => BrR w2 w.heap.size K (.slice A2 K c2) P i wr) (fun i _ => K - (intOf i).toNat)
  case atStart => exact HR.out
  case round =>
    obtain ⟨j, rfl, hj, ho, ht⟩ := hrel
    have hml : ((P.take j).map Pl.insU).length = j := by rw [List.length_map, List.length_take, HPL.out]; omega
    by_cases hlt : j < K
    · obtain ⟨g, rfl, _⟩ := OwnR.pos_ ho (by omega)
      obtain ⟨d0, d1, d2, d3, d4, df⟩ := OwnU.cells ho hlt
      have hjl : j < P.length := by rw [HPL.out]; exact hlt
      have hget : ((P.take j).map Pl.insU ++ P.drop j)[j]? = some (P.getD j default) := by
        rw [getD_of_get (by rw [List.length_append, hml, List.length_drop]; omega), list_at hml j rfl]
      have h7 := (OwnR.set_ encU_len ho j 0 (.int .i64 1) (by decide) (P.getD j default) (Pl.insU (P.getD j default)) hget rfl).1
      rw [list_set hml hjl, show (P.take j).map Pl.insU ++ [Pl.insU (P.getD j default)] = (P.take (j + 1)).map Pl.insU by rw [take_snoc hjl, List.map_append]; rfl] at h7
      have HO7 := Lib.hid h7
      have HT7 := Lib.hid (ht.set_ (p := ⟨g, j * 5 + 0, none⟩) (Or.inr rfl) (.int .i64 1))
      have z0 : (0 : Int) ≤ (j : Int) := Int.natCast_nonneg j
      have z1 : (j : Int) < (K : Int) := Int.ofNat_lt.2 hlt
      have HMS := Lib.hid (show K - (j + 1) < K - j by omega)
      have HJ1 := Lib.hid (show j + 1 ≤ K from hlt)
      clear ho ht hget h7 hjl hml
      go_wp2_with fail
      go_roundw
      case rel => exact ⟨j + 1, by go_num, HJ1.out, HO7.out, HT7.out⟩
      case measure => simp [intOf]; exact HMS.out
    · obtain rfl : K = j := by omega
      have hE : (P.take K).map Pl.insU ++ P.drop K = Pl.bringL l := by
        rw [List.take_of_length_le (by rw [HPL.out]; exact Nat.le_refl _), List.drop_of_length_le (by rw [HPL.out]; exact Nat.le_refl _), List.append_nil]
        unfold Pl.bringL
        rw [← HPE.out]
      rw [hE] at ho
      have HO := Lib.hid ho
      have HL := Lib.hid (OwnU.len ho)
      have HBF := Lib.hid (show Below w.heap.size w wr from ht.below HB2.out HB2.out.size (fun b hb => (HOG.out b hb).1))
      clear ho ht hE hml
      go_wp2_with fail
      go_ret
      exact ⟨A2, c2, by rw [← HL.out]; rfl, by rw [← HL.out]; exact HO.out, HBF.out⟩
end Go.Proofs.Ytlnekhkdncccgaa
