/-
  Contracts of the calls of num that read bytes (reach, badEnd, Get, GetInt): what each returns for every slice of bytes; the world is left as it was.
-/
import Derived.Test.YtaboamkfpolpbaaNumA
import Derived.Test.YtaboamkfpolpbaaNumMem
namespace Go.Proofs.Ytaboamkfpolpbaa.Wi
open Go.RowKit

namespace Pl
/-- how far a number's bytes reach, 0 if there is none -/
def rk (bs : List Nat) : Nat := (reach 10 bs).getD 0
/-- the error's number -/
def re (bs : List Nat) : Nat := if (reach 10 bs).isSome then 0 else if bs.length < 10 then 4 else 5
/-- the first j have the highest bit -/
def High (bs : List Nat) (j : Nat) : Prop := ∀ t, t < j → 128 ≤ bs.getD t 0
set_option maxRecDepth 100000 in
theorem rk_hit {bs : List Nat} {j : Nat} (h : High bs j) (h10 : j < 10) (hl : j < bs.length) (hb : bs.getD j 0 < 128) : rk bs = j + 1 ∧ re bs = 0 := by
  have := reach_hit 10 bs j h10 hl hb h
  simp [rk, re, this]
set_option maxRecDepth 100000 in
theorem rk_miss {bs : List Nat} {j : Nat} (h : High bs j) (hj : bs.length ≤ j ∨ 10 ≤ j) : reach 10 bs = none :=
  reach_miss 10 bs fun t h1 h2 => h t (by omega)
set_option maxRecDepth 100000 in
theorem High.next {bs : List Nat} {j : Nat} (h : High bs j) (hb : 128 ≤ bs.getD j 0) : High bs (j + 1) := fun t ht => by
  rcases Nat.lt_or_ge t j with h1 | h1
  · exact h t h1
  · obtain rfl : t = j := by omega
    exact hb
end Pl

set_option maxRecDepth 100000 in
theorem ret2 {k l : IntKind} {a b c d : Int} (h : a = b) (h' : c = d) : Ending.returned (.tuple #[.int k a, .int l c]) = .returned (.tuple #[.int k b, .int l d]) := by rw [h, h']
set_option maxRecDepth 100000 in
theorem ret3 {k l m : IntKind} {a b c d x y : Int} (h : a = b) (h' : c = d) (h'' : x = y) : Ending.returned (.tuple #[.int k a, .int l c, .int m x]) = .returned (.tuple #[.int k b, .int l d, .int m y]) := by rw [h, h', h'']

set_option maxRecDepth 100000 in
set_option maxHeartbeats 400000 in
theorem reach_any (A : Option Addr) (n c : Nat) (bs : List Nat) (w : World) (h1 : Bys w w.heap.size A n c bs) :
    Calls Try.prog 75 #[.slice A n c] w fun e w' => e = .returned (.tuple #[.int .i64 ((Pl.rk bs : Nat) : Int), .int .i64 ((Pl.re bs : Nat) : Int)]) ∧ w = w' := by
  have hcap := h1.cap
  have hle := h1.le
  unfold maxLen at hcap
  by_cases hM : 10 < n
  all_goals
    go_enter Try.func75, Try.ntmps75
    go_wp2
    go_loop [8] (fun i => ∃ j : Nat, i = .int .i64 (j : Int) ∧ j ≤ n ∧ j ≤ 10 ∧ Pl.High bs j) (fun i => 10 - (intOf i).toNat)
    case atStart => exact ⟨0, rfl, by omega, by omega, fun t ht => by omega⟩
    case round =>
      obtain ⟨j, rfl, hj, h10, hh⟩ := hrel
      by_cases hlt : j < n ∧ j < 10
      · obtain ⟨hlt, hl10⟩ := hlt
        obtain ⟨g, o, rfl, _, hc⟩ := h1.at_ hlt
        have hcj := hc j hlt
        have H1 := Lib.hid h1
        have hbj := Pl.oct_getD h1.oct j
        have HL := Lib.hid h1.len
        obtain ⟨b, hb⟩ : ∃ b, b = bs.getD j 0 := ⟨_, rfl⟩
        rw [← hb] at hcj hbj
        have HBB := Lib.hid hb
        clear hc hb h1
        by_cases h128 : b < 128
        · go_wp2
          go_ret2
          have e1 := Pl.rk_hit hh hl10 (by rw [HL.out]; exact hlt) (by rw [← HBB.out]; exact h128)
          refine ⟨ret2 ?_ ?_, rfl⟩
          · rw [e1.1]; omega
          · rw [e1.2]; rfl
        · go_wp2
          go_round
          case rel => exact ⟨j + 1, by go_num, by omega, by omega, hh.next (by rw [← HBB.out]; omega)⟩
          case measure => simp [intOf]; omega
      · have HN := Lib.hid (Pl.rk_miss hh (by rw [h1.len]; omega))
        have HL := Lib.hid h1.len
        clear h1
        by_cases h9 : n < 10
        all_goals first | (exfalso; omega) | skip
        all_goals
          go_wp2
          go_ret2
          refine ⟨ret2 ?_ ?_, rfl⟩
          · simp [Pl.rk, HN.out]
          · simp [Pl.re, HN.out, HL.out, h9]

set_option maxRecDepth 100000 in
theorem ret_bool {a b : Bool} (h : a = b) : Ending.returned (.bool a) = .returned (.bool b) := by rw [h]
/-- a bad end -/
def Pl.Bad (b k : Nat) : Prop := k = 10 ∧ 1 < b ∨ 1 < k ∧ b = 0

set_option maxRecDepth 100000 in
set_option maxHeartbeats 400000 in
theorem badEnd_yes (b k : Nat) (w : World) (hb : b < 256) (h : Pl.Bad b k) :
    Calls Try.prog 76 #[.int .u8 (b : Int), .int .i64 (k : Int)] w fun e w' => e = .returned (.bool true) ∧ w = w' := by
  go_enter Try.func76, Try.ntmps76
  go_wp2
  all_goals
    go_ret
    unfold Pl.Bad at h
    refine ⟨ret_bool ?_, rfl⟩
    first | (simp; done) | (simp; omega)
set_option maxRecDepth 100000 in
set_option maxHeartbeats 400000 in
theorem badEnd_no (b k : Nat) (w : World) (hb : b < 256) (h : ¬ Pl.Bad b k) :
    Calls Try.prog 76 #[.int .u8 (b : Int), .int .i64 (k : Int)] w fun e w' => e = .returned (.bool false) ∧ w = w' := by
  go_enter Try.func76, Try.ntmps76
  go_wp2
  all_goals
    go_ret
    unfold Pl.Bad at h
    refine ⟨ret_bool ?_, rfl⟩
    first | (simp; done) | (simp; omega)

set_option maxRecDepth 100000 in
set_option maxHeartbeats 400000 in
theorem get_none_any (A : Option Addr) (n c : Nat) (bs : List Nat) (w : World) (h1 : Bys w w.heap.size A n c bs) (hr : Pl.reach 10 bs = none) :
    Calls Try.prog 72 #[.slice A n c] w fun e w' => e = .returned (.tuple #[.int .u64 (((Pl.get bs).1 : Nat) : Int), .int .i64 (((Pl.get bs).2.1 : Nat) : Int), .int .i64 (((Pl.get bs).2.2 : Nat) : Int)]) ∧ w = w' := by
  have HR := Lib.hid (reach_any A n c bs w h1)
  have e1 : Pl.rk bs = 0 := by simp [Pl.rk, hr]
  rw [Pl.get_none hr]
  by_cases h9 : bs.length < 10
  · have e2 : Pl.re bs = 4 := by simp [Pl.re, hr, h9]
    rw [e1, e2] at HR
    rw [if_pos h9]
    clear e1 e2 hr h9 h1
    go_enter Try.func72, Try.ntmps72
    go_wp2_with (go_at_call 75; refine HR.out.mono ?_; rintro e w' ⟨rfl, rfl⟩)
    go_ret3
    exact ⟨rfl, rfl⟩
  · have e2 : Pl.re bs = 5 := by simp [Pl.re, hr, h9]
    rw [e1, e2] at HR
    rw [if_neg h9]
    clear e1 e2 hr h9 h1
    go_enter Try.func72, Try.ntmps72
    go_wp2_with (go_at_call 75; refine HR.out.mono ?_; rintro e w' ⟨rfl, rfl⟩)
    go_ret3
    exact ⟨rfl, rfl⟩
set_option maxRecDepth 100000 in
set_option maxHeartbeats 400000 in
theorem get_bad_any (A : Option Addr) (n c k : Nat) (bs : List Nat) (w : World) (h1 : Bys w w.heap.size A n c bs) (hr : Pl.reach 10 bs = some k) (hbad : Pl.Bad (bs.getD (k - 1) 0) k) :
    Calls Try.prog 72 #[.slice A n c] w fun e w' => e = .returned (.tuple #[.int .u64 (((Pl.get bs).1 : Nat) : Int), .int .i64 (((Pl.get bs).2.1 : Nat) : Int), .int .i64 (((Pl.get bs).2.2 : Nat) : Int)]) ∧ w = w' := by
  have HR := Lib.hid (reach_any A n c bs w h1)
  have e1 : Pl.rk bs = k := by simp [Pl.rk, hr]
  have e2 : Pl.re bs = 0 := by simp [Pl.re, hr]
  have hb := Pl.reach_bound _ _ _ hr
  rw [h1.len] at hb
  rw [Pl.get_some hr, if_pos (by exact hbad)]
  rw [e1, e2] at HR
  obtain ⟨g, o, rfl, _, hc⟩ := h1.at_ (i := k - 1) (by omega)
  have hcj := hc (k - 1) (by omega)
  have HE := Lib.hid (badEnd_yes _ k w (Pl.oct_getD h1.oct (k - 1)) hbad)
  obtain ⟨b, hbb⟩ : ∃ b, b = bs.getD (k - 1) 0 := ⟨_, rfl⟩
  rw [← hbb] at hcj HE
  clear hbb hc e1 e2 hr h1 hbad
  obtain ⟨hb1, hb2, hb3⟩ := hb
  go_enter Try.func72, Try.ntmps72
  go_wp2_with (first | (go_at_call 75; refine HR.out.mono ?_; rintro e w' ⟨rfl, rfl⟩) | (go_at_call 76; refine HE.out.mono ?_; rintro e w' ⟨rfl, rfl⟩))
  go_ret3
  exact ⟨rfl, rfl⟩

set_option maxRecDepth 100000 in
set_option maxHeartbeats 400000 in
theorem get_good_any (A : Option Addr) (n c k : Nat) (bs : List Nat) (w : World) (h1 : Bys w w.heap.size A n c bs) (hr : Pl.reach 10 bs = some k) (hbad : ¬ Pl.Bad (bs.getD (k - 1) 0) k) :
    Calls Try.prog 72 #[.slice A n c] w fun e w' => e = .returned (.tuple #[.int .u64 (((Pl.get bs).1 : Nat) : Int), .int .i64 (((Pl.get bs).2.1 : Nat) : Int), .int .i64 (((Pl.get bs).2.2 : Nat) : Int)]) ∧ w = w' := by
  have HR := Lib.hid (reach_any A n c bs w h1)
  have e1 : Pl.rk bs = k := by simp [Pl.rk, hr]
  have e2 : Pl.re bs = 0 := by simp [Pl.re, hr]
  have hb := Pl.reach_bound _ _ _ hr
  rw [h1.len] at hb
  rw [Pl.get_some hr, if_neg (by exact hbad)]
  rw [e1, e2] at HR
  obtain ⟨g, o, rfl, _, hc⟩ := h1.at_ (i := k - 1) (by omega)
  have hcj := hc (k - 1) (by omega)
  have HE := Lib.hid (badEnd_no _ k w (Pl.oct_getD h1.oct (k - 1)) hbad)
  obtain ⟨b, hbb⟩ : ∃ b, b = bs.getD (k - 1) 0 := ⟨_, rfl⟩
  rw [← hbb] at hcj HE
  have HC := Lib.hid hc
  have HRR := Lib.hid hr
  have HN := Lib.hid hbad
  clear hbb hc e1 e2 hr hbad
  obtain ⟨hb1, hb2, hb3⟩ := hb
  go_enter Try.func72, Try.ntmps72
  go_wp2_with (first | (go_at_call 75; refine HR.out.mono ?_; rintro e w' ⟨rfl, rfl⟩) | (go_at_call 76; refine HE.out.mono ?_; rintro e w' ⟨rfl, rfl⟩))
  go_loop [7, 25] (fun t i => ∃ j : Nat, i = .int .i64 (j : Int) ∧ j ≤ k ∧ t = .int .u64 ((Pl.val (bs.take j) : Nat) : Int)) (fun _ i => k - (intOf i).toNat)
  case atStart => exact ⟨0, rfl, by omega, rfl⟩
  case round =>
    obtain ⟨j, rfl, hj, rfl⟩ := hrel
    by_cases hlt : j < k
    · have hx := HC.out j (by omega)
      have hvb := Pl.val_bound HRR.out (by exact HN.out)
      have hs := Pl.val_snoc bs j (by have := h1.len; omega)
      have hmono : Pl.val (bs.take (j + 1)) ≤ Pl.val (bs.take k) := by
        have e : bs.take k = bs.take (j + 1) ++ (bs.drop (j + 1)).take (k - (j + 1)) := by
          rw [← List.take_add]; congr 1; omega
        rw [e, Pl.val_append]; exact Nat.le_add_right _ _
      have hvl := Pl.val_lt (bs.take j)
      rw [List.length_take, Nat.min_eq_left (by have := h1.len; omega)] at hvl
      have hst := get_step (Pl.val (bs.take j)) (bs.getD j 0) j hvl (Pl.oct_getD h1.oct j) (by omega)
      rw [← hs] at hst
      rw [List.getD_eq_getElem?_getD] at hst
      have HST := Lib.hid hst
      clear hst hs hmono hvl hvb
      go_wp2
      go_round
      case rel => exact ⟨j + 1, by go_num, by omega, by rw [HST.out]⟩
      case measure => simp [intOf]; omega
    · have hjk : j = k := by omega
      subst hjk
      go_wp2
      go_ret3
      exact ⟨rfl, rfl⟩

set_option maxRecDepth 100000 in
theorem get_any (A : Option Addr) (n c : Nat) (bs : List Nat) (w : World) (h1 : Bys w w.heap.size A n c bs) :
    Calls Try.prog 72 #[.slice A n c] w fun e w' => e = .returned (.tuple #[.int .u64 (((Pl.get bs).1 : Nat) : Int), .int .i64 (((Pl.get bs).2.1 : Nat) : Int), .int .i64 (((Pl.get bs).2.2 : Nat) : Int)]) ∧ w = w' := by
  cases hr : Pl.reach 10 bs with
  | none => exact get_none_any A n c bs w h1 hr
  | some k =>
    by_cases hbad : Pl.Bad (bs.getD (k - 1) 0) k
    · exact get_bad_any A n c k bs w h1 hr hbad
    · exact get_good_any A n c k bs w h1 hr hbad
set_option maxRecDepth 100000 in
/-- Get at bytes whose answer is known -/
theorem get_at (A : Option Addr) (n c : Nat) (bs : List Nat) (w : World) (h1 : Bys w w.heap.size A n c bs) (x k e : Nat) (h : Pl.get bs = (x, k, e)) :
    Calls Try.prog 72 #[.slice A n c] w fun e' w' => e' = .returned (.tuple #[.int .u64 (x : Int), .int .i64 (k : Int), .int .i64 (e : Int)]) ∧ w = w' := by
  have := get_any A n c bs w h1
  rw [h] at this
  exact this

end Go.Proofs.Ytaboamkfpolpbaa.Wi
