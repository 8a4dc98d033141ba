/-
  past.New; past.Past's places and the closure that it gives; Length. Conditions: those that each states.
-/
import Derived.Test.YtkgehgedbgogbaaPaQ
namespace Go.Proofs.Ytkgehgedbgogbaa
open Go.RowKit
open Pl (Un)

theorem below_drewN (w : World) (n : Nat) : Below w.heap.size w (w.drewN n) := ⟨rfl, rfl, rfl, Nat.le_refl _, fun _ _ => rfl⟩
/-- the new past of New -/
theorem made_past (w : World) (fr : Nat) (n : Int) (hf : fr ≤ 1099511627776) :
    PastAt ((w.alloc (.cells #[.int .i64 n] 3)).alloc (.cells #[.int .u64 (fr : Int), .slice none 0 0, .slice (some ⟨w.heap.size, 0, none⟩) 1 1] 58)) (w.heap.size + 1) (fun b => b ≠ w.heap.size + 1) fr n [] := by
  have h1 : OwnR encI 1 3 (w.alloc (.cells #[.int .i64 n] 3)) w.heap.size (.slice (some ⟨w.heap.size, 0, none⟩) 1 1) [n] := litI w [n] (by simp [maxLen])
  have h2 := (h1.alloc (.cells #[.int .u64 (fr : Int), .slice none 0 0, .slice (some ⟨w.heap.size, 0, none⟩) 1 1] 58)).rws encI_len
  refine ⟨none, 0, 0, some ⟨w.heap.size, 0, none⟩, 1, 1, [], ?_, OpsF.none_ _ _, rfl, ?_, ?_, fun h => h rfl, ⟨by simp, by simpa using hf, fun o ho => by cases ho⟩⟩
  · exact heap_new (by simp)
  · rw [Pl.lens_nil]; exact h2.2
  · intro _ ad e
    cases e
    exact Nat.ne_of_lt (Nat.lt_succ_self _)
set_option maxRecDepth 100000 in
set_option maxHeartbeats 400000 in
theorem new_any (fr : Nat) (n : Int) (w : World) (hf : fr ≤ 1099511627776) (hn : 0 ≤ n) :
    Calls Try.prog 7 #[.int .u64 (fr : Int), .int .i64 n] w fun e w' => e = .returned (.tuple #[.pointer (some ⟨w.heap.size + 1, 0, none⟩), .int .i64 0]) ∧ PastAt w' (w.heap.size + 1) (fun b => b ≠ w.heap.size + 1) fr n [] ∧ Below w.heap.size w w' := by
  have HM := Lib.hid (made_past w fr n hf)
  have z0 : decide ((fr : Int) > 1099511627776) = false := decide_eq_false (by omega)
  have z1 : decide (1099511627776 < (fr : Int)) = false := decide_eq_false (by omega)
  have z2 : decide (n < 0) = false := decide_eq_false (by omega)
  clear hf hn
  go_enter Try.func7, Try.ntmps7
  go_wp2_with fail
  go_returns
  exact ⟨rfl, HM.out, below_alloc (below_box _ _) _⟩
set_option maxRecDepth 100000 in
set_option maxHeartbeats 400000 in
theorem new_bad (fr : Nat) (n : Int) (w : World) (h : 1099511627776 < fr ∨ n < 0) :
    Calls Try.prog 7 #[.int .u64 (fr : Int), .int .i64 n] w fun e w' => e = .returned (.tuple #[.pointer none, .int .i64 1]) ∧ Below w.heap.size w w' := by
  by_cases hf : 1099511627776 < fr
  · have z1 : decide (1099511627776 < (fr : Int)) = true := decide_eq_true (by omega)
    clear hf h
    go_enter Try.func7, Try.ntmps7
    go_wp2_with fail
    go_returns
    exact ⟨rfl, Below.refl _ _⟩
  · have z1 : decide (1099511627776 < (fr : Int)) = false := decide_eq_false (by omega)
    have z2 : decide (n < 0) = true := decide_eq_true (by omega)
    clear hf h
    go_enter Try.func7, Try.ntmps7
    go_wp2_with fail
    go_returns
    exact ⟨rfl, Below.refl _ _⟩

/-- the closure's own cells: the past, the least -/
def PlaceF (w : World) (v : Option Addr) (least : Int) (f : Value) : Prop :=
  ∃ a b, f = .func (.func 42) #[] #[.pointer (some ⟨a, 0, none⟩), .pointer (some ⟨b, 0, none⟩)] ∧ w.heap[a]? = some (.cells #[.pointer v] 25 (0, 0)) ∧ w.heap[b]? = some (.cells #[.int .u64 least] 22 (0, 0))
set_option maxRecDepth 100000 in
set_option maxHeartbeats 400000 in
theorem places_any (v : Option Addr) (least : Int) (w : World) :
    Calls Try.prog 33 #[.pointer v, .int .u64 least] w fun e w' => (∃ f, e = .returned f ∧ PlaceF w' v least f) ∧ Below w.heap.size w w' := by
  go_enter Try.func33, Try.ntmps33
  go_wp2_with fail
  go_ret
  refine ⟨⟨_, rfl, w.heap.size, w.heap.size + 1, rfl, ?_, heap_new (by simp)⟩, below_alloc (below_box _ _) _⟩
  exact below_old (w := w.alloc (.cells #[.pointer v] 25)) (below_box _ _) (heap_new rfl) (by simp)
namespace Pl
/-- what tells a revision's place -/
def place (fr len : Nat) (least rev : Nat) : Int × Int := if rev > fr + len then (0, 31) else if rev < fr + least then (0, 32) else ((rev : Int) - fr, 0)
end Pl
set_option maxRecDepth 100000 in
set_option maxHeartbeats 400000 in
theorem place_past {w : World} {p : Nat} {F : Nat → Prop} {fr : Nat} {N : Int} {P : List Pl.Op} (h : PastAt w p F fr N P) (least rev : Nat) (hl : least ≤ 1) (hv : rev ≤ 18446744073709551615) (a b : Nat)
    (ha : w.heap[a]? = some (.cells #[.pointer (some ⟨p, 0, none⟩)] 25 (0, 0))) (hb : w.heap[b]? = some (.cells #[.int .u64 (least : Int)] 22 (0, 0))) :
    Calls Try.prog 42 #[.int .u64 (rev : Int), .pointer (some ⟨a, 0, none⟩), .pointer (some ⟨b, 0, none⟩)] w fun e w' => e = .returned (.tuple #[.int .i64 (Pl.place fr P.length least rev).1, .int .i64 (Pl.place fr P.length least rev).2]) ∧ Below w.heap.size w w' := by
  have HN := Lib.hid (none_past h)
  have HW := Lib.hid (now_past h)
  have hr := h.fine.rev
  have hc := h.fine.cnt
  obtain ⟨A, n, c, B, m, d, L, h⟩ := h
  obtain ⟨c0, c1, c2⟩ := h.cells
  have ca := cell0 (r := []) ha
  have cb := cell0 (r := []) hb
  obtain ⟨k, hk⟩ : ∃ k, k = P.length := ⟨_, rfl⟩
  rw [← hk] at HW hr hc ⊢
  obtain ⟨nw, hnw⟩ : ∃ nw, nw = fr + k := ⟨_, rfl⟩
  rw [← hnw] at HW hr
  have hfn : fr ≤ nw := by omega
  obtain ⟨ra, hra⟩ : ∃ r, r = (Pl.place fr k least rev).1 := ⟨_, rfl⟩
  obtain ⟨rb, hrb⟩ : ∃ r, r = (Pl.place fr k least rev).2 := ⟨_, rfl⟩
  rw [← hra, ← hrb]
  unfold Pl.place at hra hrb
  rw [← hnw] at hra hrb
  clear h ha hb hk hnw
  by_cases h1 : rev > nw
  · rw [if_pos h1] at hra hrb
    have HE := Lib.hid (And.intro hra hrb)
    clear hra hrb
    have z1 : decide (nw < rev) = true := decide_eq_true (by omega)
    clear h1 hl hv hr hc
    go_enter Try.func42, Try.ntmps42
    go_wp2_with fail
    refine HN.out.mono ?_
    rintro e w' ⟨rfl, rfl⟩
    go_wp2_with fail
    refine HW.out.mono ?_
    rintro e w' ⟨rfl, rfl⟩
    go_wp2_with fail
    go_returns
    exact ⟨by rw [HE.out.1, HE.out.2]; rfl, Below.refl _ _⟩
  · have z1 : decide (nw < rev) = false := decide_eq_false (by omega)
    have hw : IntKind.u64.wrap ((fr : Int) + (least : Int)) = (fr : Int) + (least : Int) := wrap_u64 (by omega) (by omega)
    by_cases h2 : rev < fr + least
    · rw [if_neg h1, if_pos h2] at hra hrb
      have HE := Lib.hid (And.intro hra hrb)
      clear hra hrb
      have z2 : decide ((rev : Int) < (fr : Int) + (least : Int)) = true := decide_eq_true (by omega)
      clear h1 h2 hl hc
      go_enter Try.func42, Try.ntmps42
      go_wp2_with fail
      refine HN.out.mono ?_
      rintro e w' ⟨rfl, rfl⟩
      go_wp2_with fail
      refine HW.out.mono ?_
      rintro e w' ⟨rfl, rfl⟩
      go_wp2_with fail
      go_quiet (fail)
      go_wp2_with fail
      go_returns
      exact ⟨by rw [HE.out.1, HE.out.2]; rfl, below_drewN _ _⟩
    · rw [if_neg h1, if_neg h2] at hra hrb
      have hw3 : wrap64 ((rev : Int) - (fr : Int)) = (rev : Int) - (fr : Int) := by unfold wrap64; omega
      have HE := Lib.hid (And.intro (hra.trans hw3.symm) hrb)
      clear hra hrb hw3
      have z2 : decide ((rev : Int) < (fr : Int) + (least : Int)) = false := decide_eq_false (by omega)
      have hw2 : IntKind.u64.wrap ((rev : Int) - (fr : Int)) = (rev : Int) - (fr : Int) := wrap_u64 (by omega) (by omega)
      clear h1 h2 hl
      go_enter Try.func42, Try.ntmps42
      go_wp2_with fail
      refine HN.out.mono ?_
      rintro e w' ⟨rfl, rfl⟩
      go_wp2_with fail
      refine HW.out.mono ?_
      rintro e w' ⟨rfl, rfl⟩
      go_wp2_with fail
      go_quiet (fail)
      go_wp2_with fail
      go_returns
      exact ⟨by rw [HE.out.1, HE.out.2]; rfl, below_drewN _ _⟩
set_option maxRecDepth 100000 in
set_option maxHeartbeats 400000 in
theorem place_non {w : World} {v : Value} (h : NonAt w v) (rev : Int) (a b : Nat)
    (ha : w.heap[a]? = some (.cells #[v] 25 (0, 0))) :
    Calls Try.prog 42 #[.int .u64 rev, .pointer (some ⟨a, 0, none⟩), .pointer (some ⟨b, 0, none⟩)] w fun e w' => e = .returned (.tuple #[.int .i64 0, .int .i64 2]) ∧ Below w.heap.size w w' := by
  have HN := Lib.hid (none_non h)
  have ca := cell0 (r := []) ha
  clear h ha
  go_enter Try.func42, Try.ntmps42
  go_wp2_with fail
  refine HN.out.mono ?_
  rintro e w' ⟨rfl, rfl⟩
  go_wp2_with fail
  go_returns
  exact ⟨rfl, Below.refl _ _⟩
end Go.Proofs.Ytkgehgedbgogbaa
