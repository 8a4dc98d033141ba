/-
  Contracts of the document's Same, of slices.Equal at code points and at pieces, of the statements' own same. No conditions but those that each states.
-/
import Derived.Test.YtogmddneimhpeaaPceO
import Derived.Laws.StructEq
namespace Go.Proofs.Ytogmddneimhpeaa
open Go.RowKit
open Pl (Pc Plc Tab)

def SRel (w : World) (n : Nat) (xs bs : List Int) (i : Value) (wr : World) : Prop := ∃ j : Nat, i = .int .i64 (j : Int) ∧ j ≤ n ∧ Below w.heap.size w wr ∧ ∀ t, t < j → xs.getD t 0 = bs.getD t 0
theorem ext_getD {xs bs : List Int} (hl : xs.length = bs.length) (h : ∀ t, t < xs.length → xs.getD t 0 = bs.getD t 0) : xs = bs := by
  refine List.ext_getElem hl fun i h1 h2 => ?_
  have := h i h1
  rwa [List.getD_eq_getElem?_getD, List.getD_eq_getElem?_getD, List.getElem?_eq_getElem h1, List.getElem?_eq_getElem h2] at this

set_option maxRecDepth 100000 in
set_option maxHeartbeats 400000 in
theorem same_any (A A' : Option Addr) (n c m c' : Nat) (xs bs : List Int) (w : World) (h1 : Crs w w.heap.size A n c xs) (h2 : Crs w w.heap.size A' m c' bs) :
    Calls Try.prog 19 #[.slice A n c, .slice A' m c'] w fun e w' => e = .returned (.bool (decide (xs = bs))) ∧ Below w.heap.size w w' := by
  have hcap1 := h1.cap
  have hle1 := h1.le
  have hcap2 := h2.cap
  have hle2 := h2.le
  unfold maxLen at hcap1 hcap2
  have HL1 := Lib.hid h1.len
  have HL2 := Lib.hid h2.len
  by_cases hnm : n = m
  · subst hnm
    have H1 := Lib.hid h1
    have H2 := Lib.hid h2
    clear h1 h2
    go_enter Try.func19, Try.ntmps19
    go_wp2_with fail
    go_loopw [5] (fun i wr => SRel w n xs bs i wr) (fun i _ => n - (intOf i).toNat)
    case atStart => exact ⟨0, rfl, Nat.zero_le _, Below.refl _ _, fun t ht => by omega⟩
    case round =>
      obtain ⟨j, rfl, hj, hb, hs⟩ := hrel
      have HB := Lib.hid hb
      have HS := Lib.hid hs
      clear hb hs
      by_cases hlt : j < n
      · obtain ⟨g1, o1, rfl, hg1, hc1⟩ := (H1.out.below HB.out (Nat.le_refl _)).at_ hlt
        obtain ⟨g2, o2, rfl, hg2, hc2⟩ := (H2.out.below HB.out (Nat.le_refl _)).at_ hlt
        have a1 := hc1 j hlt
        have a2 := hc2 j hlt
        have HNX := Lib.hid (show xs.getD j 0 = bs.getD j 0 → ∀ t, t < j + 1 → xs.getD t 0 = bs.getD t 0 from fun h t ht => by
          rcases Nat.lt_or_ge t j with h1 | h1
          · exact HS.out t h1
          · obtain rfl : t = j := by omega
            exact h)
        have HNE := Lib.hid (show xs.getD j 0 ≠ bs.getD j 0 → xs ≠ bs from fun h e => h (by rw [e]))
        clear hc1 hc2
        obtain ⟨x, hx⟩ : ∃ x, x = xs.getD j 0 := ⟨_, rfl⟩
        obtain ⟨y, hy⟩ : ∃ y, y = bs.getD j 0 := ⟨_, rfl⟩
        rw [← hx] at a1 HNX HNE
        rw [← hy] at a2 HNX HNE
        clear hx hy
        have z0 : (0 : Int) ≤ (j : Int) := by omega
        have z1 : (j : Int) < (n : Int) := by omega
        by_cases hxy : x = y
        · subst hxy
          have HN2 := Lib.hid (HNX.out rfl)
          go_wp2_with fail
          go_region_held3 (fun w' => w'.cell? ⟨g1, o1 + j, none⟩ = some (.int .i32 x) ∧ w'.cell? ⟨g2, o2 + j, none⟩ = some (.int .i32 x)) (go_keep) (fail)
          go_wp2_with fail
          go_roundw
          case rel => exact ⟨j + 1, by go_num, by omega, below_drawn HB.out, HN2.out⟩
          case measure => simp [intOf]; omega
        · have HN2 := Lib.hid (HNE.out hxy)
          have hbne : (x != y) = true := by rw [bne_iff_ne]; exact hxy
          go_wp2_with fail
          go_region_held3 (fun w' => w'.cell? ⟨g1, o1 + j, none⟩ = some (.int .i32 x) ∧ w'.cell? ⟨g2, o2 + j, none⟩ = some (.int .i32 y)) (go_keep) (fail)
          go_wp2_with fail
          go_ret
          exact ⟨ret_bool (decide_eq_false HN2.out).symm, below_drawn HB.out⟩
      · have hjn : j = n := by omega
        have HE := Lib.hid (show xs = bs from ext_getD (HL1.out.trans HL2.out.symm) (fun t ht => HS.out t (by have := HL1.out; omega)))
        clear hjn
        go_wp2_with fail
        go_ret
        exact ⟨ret_bool (decide_eq_true HE.out).symm, HB.out⟩
  · have HN := Lib.hid (show xs ≠ bs from fun e => hnm (by rw [← HL1.out, ← HL2.out, e]))
    have hb : ((n : Int) != (m : Int)) = true := by rw [bne_iff_ne]; omega
    clear h1 h2
    go_enter Try.func19, Try.ntmps19
    go_wp2_with fail
    go_ret
    exact ⟨ret_bool (decide_eq_false HN.out).symm, Below.refl _ _⟩

set_option maxRecDepth 100000 in
set_option maxHeartbeats 400000 in
theorem equalC_any (A A' : Option Addr) (n c m c' : Nat) (xs bs : List Int) (w : World) (h1 : Crs w w.heap.size A n c xs) (h2 : Crs w w.heap.size A' m c' bs) :
    Calls Try.prog 33 #[.slice A n c, .slice A' m c'] w fun e w' => e = .returned (.bool (decide (xs = bs))) ∧ Below w.heap.size w w' := by
  have hcap1 := h1.cap
  have hle1 := h1.le
  have hcap2 := h2.cap
  have hle2 := h2.le
  unfold maxLen at hcap1 hcap2
  have HL1 := Lib.hid h1.len
  have HL2 := Lib.hid h2.len
  by_cases hnm : n = m
  · subst hnm
    have H1 := Lib.hid h1
    have H2 := Lib.hid h2
    clear h1 h2
    go_enter Try.func33, Try.ntmps33
    go_wp2_with fail
    go_loopw [13] (fun i wr => SRel w n xs bs i wr) (fun i _ => n - (intOf i).toNat)
    case atStart => exact ⟨0, rfl, Nat.zero_le _, Below.refl _ _, fun t ht => by omega⟩
    case round =>
      obtain ⟨j, rfl, hj, hb, hs⟩ := hrel
      have HB := Lib.hid hb
      have HS := Lib.hid hs
      clear hb hs
      by_cases hlt : j < n
      · obtain ⟨g1, o1, rfl, hg1, hc1⟩ := (H1.out.below HB.out (Nat.le_refl _)).at_ hlt
        obtain ⟨g2, o2, rfl, hg2, hc2⟩ := (H2.out.below HB.out (Nat.le_refl _)).at_ hlt
        have a1 := hc1 j hlt
        have a2 := hc2 j hlt
        have HNX := Lib.hid (show xs.getD j 0 = bs.getD j 0 → ∀ t, t < j + 1 → xs.getD t 0 = bs.getD t 0 from fun h t ht => by
          rcases Nat.lt_or_ge t j with h1 | h1
          · exact HS.out t h1
          · obtain rfl : t = j := by omega
            exact h)
        have HNE := Lib.hid (show xs.getD j 0 ≠ bs.getD j 0 → xs ≠ bs from fun h e => h (by rw [e]))
        clear hc1 hc2
        obtain ⟨x, hx⟩ : ∃ x, x = xs.getD j 0 := ⟨_, rfl⟩
        obtain ⟨y, hy⟩ : ∃ y, y = bs.getD j 0 := ⟨_, rfl⟩
        rw [← hx] at a1 HNX HNE
        rw [← hy] at a2 HNX HNE
        clear hx hy
        have z0 : (0 : Int) ≤ (j : Int) := by omega
        have z1 : (j : Int) < (n : Int) := by omega
        by_cases hxy : x = y
        · subst hxy
          have HN2 := Lib.hid (HNX.out rfl)
          go_wp2_with fail
          go_region_held3 (fun w' => w'.cell? ⟨g1, o1 + j, none⟩ = some (.int .i32 x) ∧ w'.cell? ⟨g2, o2 + j, none⟩ = some (.int .i32 x)) (go_keep) (fail)
          go_wp2_with fail
          go_roundw
          case rel => exact ⟨j + 1, by go_num, by omega, below_drawn HB.out, HN2.out⟩
          case measure => simp [intOf]; omega
        · have HN2 := Lib.hid (HNE.out hxy)
          have hbne : (x != y) = true := by rw [bne_iff_ne]; exact hxy
          go_wp2_with fail
          go_region_held3 (fun w' => w'.cell? ⟨g1, o1 + j, none⟩ = some (.int .i32 x) ∧ w'.cell? ⟨g2, o2 + j, none⟩ = some (.int .i32 y)) (go_keep) (fail)
          go_wp2_with fail
          go_ret
          exact ⟨ret_bool (decide_eq_false HN2.out).symm, below_drawn HB.out⟩
      · have hjn : j = n := by omega
        have HE := Lib.hid (show xs = bs from ext_getD (HL1.out.trans HL2.out.symm) (fun t ht => HS.out t (by have := HL1.out; omega)))
        clear hjn
        go_wp2_with fail
        go_ret
        exact ⟨ret_bool (decide_eq_true HE.out).symm, HB.out⟩
  · have HN := Lib.hid (show xs ≠ bs from fun e => hnm (by rw [← HL1.out, ← HL2.out, e]))
    have hb : ((n : Int) != (m : Int)) = true := by rw [bne_iff_ne]; omega
    clear h1 h2
    go_enter Try.func33, Try.ntmps33
    go_wp2_with fail
    go_ret
    exact ⟨ret_bool (decide_eq_false HN.out).symm, Below.refl _ _⟩


theorem eql_pc (w : World) (s : Bool) (a l : Int) (s' : Bool) (a' l' : Int) : (binOp .eql 59 (.agg #[.bool s, .int .i64 a, .int .i64 l]) (.agg #[.bool s', .int .i64 a', .int .i64 l'])).run Try.prog w = .ok (.bool (s == s' && (a == a' && l == l'))) w := by
  have hS : Try.prog.underlying 59 = some (.struct (Try.prog.fieldsOf 59)) := by kernel_rfl
  have hp : Try.prog.stoodInHeld 59 = false := by kernel_rfl
  have u3 := Try.underlying3
  have a3 := Try.isAgg3
  have z3 := Try.sizeOf3
  rw [run_eql_struct, show (10000 : Nat) = 9999 + 1 from rfl, run_equalIn_agg w 9999 59 _ _ hS hp]
  simp only [Program.fieldsOf, Try.underlying59]
  go_simp
  by_cases h0 : s = s' <;> by_cases h1 : a = a' <;> by_cases h2 : l = l' <;> simp [h0, h1, h2]
theorem neq_pc (w : World) (s : Bool) (a l : Int) (s' : Bool) (a' l' : Int) : (binOp .neq 59 (.agg #[.bool s, .int .i64 a, .int .i64 l]) (.agg #[.bool s', .int .i64 a', .int .i64 l'])).run Try.prog w = .ok (.bool (!(s == s' && (a == a' && l == l')))) w := by
  have hS : Try.prog.underlying 59 = some (.struct (Try.prog.fieldsOf 59)) := by kernel_rfl
  have hp : Try.prog.stoodInHeld 59 = false := by kernel_rfl
  have u3 := Try.underlying3
  have a3 := Try.isAgg3
  have z3 := Try.sizeOf3
  rw [run_neq_struct, show (10000 : Nat) = 9999 + 1 from rfl, run_equalIn_agg w 9999 59 _ _ hS hp]
  simp only [Program.fieldsOf, Try.underlying59]
  go_simp
  by_cases h0 : s = s' <;> by_cases h1 : a = a' <;> by_cases h2 : l = l' <;> simp [h0, h1, h2]
theorem guard_pc (op : BinOp) (x y : Operand) (xs ys : Array Value) (w : World) : (eqGuard op 59 x y (.agg xs) (.agg ys)).run Try.prog w = .ok () w := run_eqGuard_agg w op _ x y xs ys (by kernel_rfl)
def ERel (w : World) (n : Nat) (i : Value) (wr : World) : Prop := ∃ j : Nat, i = .int .i64 (j : Int) ∧ j ≤ n ∧ Below w.heap.size w wr

set_option maxRecDepth 100000 in
set_option maxHeartbeats 400000 in
theorem same_eq (A A' : Option Addr) (n c c' : Nat) (ps : List Pc) (w : World) (h1 : Pcs w w.heap.size A n c ps) (h2 : Pcs w w.heap.size A' n c' ps) :
    Calls Try.prog 26 #[.slice A n c, .slice A' n c'] w fun e w' => e = .returned (.bool true) ∧ Below w.heap.size w w' := by
  have hcap1 := h1.cap
  have hle1 := h1.le
  unfold maxLen at hcap1
  have H1 := Lib.hid h1
  have H2 := Lib.hid h2
  clear h1 h2
  go_enter Try.func26, Try.ntmps26
  go_wp2_with fail
  go_loopw [13] (fun i wr => ERel w n i wr) (fun i _ => n - (intOf i).toNat)
  case atStart => exact ⟨0, rfl, Nat.zero_le _, Below.refl _ _⟩
  case round =>
    obtain ⟨j, rfl, hj, hb⟩ := hrel
    have HB := Lib.hid hb
    clear hb
    by_cases hlt : j < n
    · obtain ⟨g1, o1, rfl, hg1, hc1⟩ := Pcs.at_ (Rws.below H1.out HB.out (Nat.le_refl _)) hlt
      obtain ⟨g2, o2, rfl, hg2, hc2⟩ := Pcs.at_ (Rws.below H2.out HB.out (Nat.le_refl _)) hlt
      obtain ⟨a0, a1, a2⟩ := hc1 j hlt
      obtain ⟨b0, b1, b2⟩ := hc2 j hlt
      obtain ⟨⟨s, k, l⟩, hx⟩ : ∃ x, x = ps.getD j default := ⟨_, rfl⟩
      rw [← hx] at a0 a1 a2 b0 b1 b2
      simp only at a0 a1 a2 b0 b1 b2
      have z0 : (0 : Int) ≤ (j : Int) := by omega
      have z1 : (j : Int) < (n : Int) := by omega
      have hq := fun w => neq_pc w s (k : Int) (l : Int) s (k : Int) (l : Int)
      have hgd := fun x y w => guard_pc .neq x y #[.bool s, .int .i64 (k : Int), .int .i64 (l : Int)] #[.bool s, .int .i64 (k : Int), .int .i64 (l : Int)] w
      simp only [beq_self_eq_true, Bool.and_self, Bool.not_true] at hq
      clear hc1 hc2 hx
      go_wp2_with fail
      go_region_held3 (fun w' => w'.cell? ⟨g1, o1 + j * 3, none⟩ = some (.bool s) ∧ w'.cell? ⟨g1, o1 + j * 3 + 1, none⟩ = some (.int .i64 (k : Int)) ∧ w'.cell? ⟨g1, o1 + j * 3 + 2, none⟩ = some (.int .i64 (l : Int)) ∧ w'.cell? ⟨g2, o2 + j * 3, none⟩ = some (.bool s) ∧ w'.cell? ⟨g2, o2 + j * 3 + 1, none⟩ = some (.int .i64 (k : Int)) ∧ w'.cell? ⟨g2, o2 + j * 3 + 2, none⟩ = some (.int .i64 (l : Int))) (go_keep) (fail)
      go_wp2_with fail
      go_roundw
      case rel => exact ⟨j + 1, by go_num, by omega, below_drawn HB.out⟩
      case measure => simp [intOf]; omega
    · have hjn : j = n := by omega
      go_wp2_with fail
      go_ret
      exact ⟨rfl, HB.out⟩
end Go.Proofs.Ytogmddneimhpeaa
