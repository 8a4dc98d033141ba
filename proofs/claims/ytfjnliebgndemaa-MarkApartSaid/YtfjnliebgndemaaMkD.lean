/-
  MarkApart's calls in plain words; its closure: whatever call, to marks. Conditions: texts of at most a million code points.
-/
import Derived.Test.YtfjnliebgndemaaMkA
import Derived.Test.YtfjnliebgndemaaMkI
import Derived.Test.YtfjnliebgndemaaWvK
namespace Go.Proofs.Ytfjnliebgndemaa
open Go.RowKit
open Pl (Un)

namespace Pl
/-- a call: what it tells, and what it leaves -/
def doL (k x p : Int) (row : List Un) (N : Int) (M : Mks) : Int × Int × Mks :=
  if k = 1 then (if (getM M x).isSome = true then (0, N, delM M x) else (6, N, M))
  else if k = 2 then (if (longL row N).2 = 0 then (0, (longL row N).1, goM (fun v => placeR v row) M) else ((longL row N).2, N, M))
  else if 0 ≤ p ∧ p ≤ N then (0, N, putM M x p) else (30, N, M)
theorem doL_le {k x p : Int} {row : List Un} {N : Int} {M : Mks} (h0 : 0 ≤ N) : (doL k x p row N M).2.1 ≤ N + row.length := by
  unfold doL
  split
  · split <;> (simp only; omega)
  · split
    · split
      · rename_i h
        unfold longL at h ⊢
        split
        · rename_i hc
          rw [if_pos hc] at h
          exact (goR_ok row N hc.1 h).2
        · simp only; omega
      · simp only; omega
    · split <;> (simp only; omega)
end Pl
theorem longM_err {l : List Un} {n m e : Int} (h : Pl.longL l n = (m, e)) (he : e ≠ 0) : m = 0 := by
  unfold Pl.longL at h
  split at h
  · rcases Pl.goR_err l n with h1 | h1
    · rw [h] at h1; exact absurd h1 he
    · rw [h] at h1; exact (Prod.mk.inj h1).1
  · exact (Prod.mk.inj h).1.symm
theorem longM_ok {l : List Un} {n m : Int} (h : Pl.longL l n = (m, 0)) : 0 ≤ m ∧ m ≤ n + l.length := by
  unfold Pl.longL at h
  split at h
  · rename_i hc
    have := Pl.goR_ok l n hc.1 (by rw [h])
    rw [h] at this
    exact this
  · cases h
/-- what a call tells and leaves -/
def DoR (w : World) (q b : Nat) (k x p : Int) (row : List Un) (N : Int) (M : Pl.Mks) (e : Ending) (w' : World) : Prop :=
  ∃ b', e = .returned (.int .i64 (Pl.doL k x p row N M).1) ∧ (b' = b ∨ w.heap.size ≤ b') ∧ MarksW w' q b' (Pl.doL k x p row N M).2.1 (Pl.doL k x p row N M).2.2 ∧ Tn (fun i => i = b ∨ i = q) w w'
theorem goM_any {w : World} {p b : Nat} {N : Int} {M : Pl.Mks} (h : MarksW w p b N M) {B : Option Addr} {m d : Nat} {l : List Un} (hu : Uns w w.heap.size B m d l) (hm : m ≤ 1000) (hN : N ≤ 1000000) (x y : Int) :
    Calls Try.prog 11 #[.pointer (some ⟨p, 0, none⟩), .slice B m d] w (DoR w p b 2 x y l N M) := by
  have hd : ¬ (2 : Int) = 1 := by decide
  obtain ⟨N1, E, hlo⟩ : ∃ N1 E, Pl.longL l N = (N1, E) := ⟨_, _, rfl⟩
  unfold DoR Pl.doL
  rw [if_neg hd, if_pos rfl, hlo]
  by_cases hE : E = 0
  · subst hE
    have hb := longM_ok hlo
    have hl := hu.len
    refine (goM_ok h hu hm hN hlo (by omega)).mono ?_
    rintro e w' ⟨b', rfl, h1, h2, h3⟩
    rw [if_pos rfl]
    exact ⟨b', rfl, .inr h1, h2, h3.more fun _ _ e => .inr e⟩
  · have h0 := longM_err hlo hE
    subst h0
    refine (goM_bad h hu hm hN hlo hE).mono ?_
    rintro e w' ⟨rfl, hb⟩
    rw [if_neg hE]
    exact ⟨b, rfl, .inl rfl, h.then_ hb, Tn.of _ hb⟩
theorem dropM_all {w : World} {q b : Nat} {N : Int} {M : Pl.Mks} (h : MarksW w q b N M) {x : Int} (hx : 0 ≤ x ∧ x < 4294967296) (p : Int) (row : List Un) :
    Calls Try.prog 18 #[.pointer (some ⟨q, 0, none⟩), .int .u32 x] w (DoR w q b 1 x p row N M) := by
  unfold DoR Pl.doL
  rw [if_pos rfl]
  cases hg : (Pl.getM M x).isSome with
  | true =>
    refine (dropM_any h hx hg).mono ?_
    rintro e w' ⟨rfl, h1, h2⟩
    exact ⟨b, rfl, .inl rfl, h1, h2.more fun _ _ e => .inl e⟩
  | false =>
    refine (dropM_no h hx hg).mono ?_
    rintro e w' ⟨rfl, rfl⟩
    exact ⟨b, rfl, .inl rfl, h, Tn.refl _ _⟩
theorem setM_all {w : World} {q b : Nat} {N : Int} {M : Pl.Mks} (h : MarksW w q b N M) {x : Int} (hx : 0 ≤ x ∧ x < 4294967296) (k p : Int) (hk1 : k ≠ 1) (hk2 : k ≠ 2) (row : List Un) :
    Calls Try.prog 9 #[.pointer (some ⟨q, 0, none⟩), .int .u32 x, .int .i64 p] w (DoR w q b k x p row N M) := by
  unfold DoR Pl.doL
  rw [if_neg hk1, if_neg hk2]
  by_cases hp : 0 ≤ p ∧ p ≤ N
  · rw [if_pos hp]
    refine (setM_any h hx hp).mono ?_
    rintro e w' ⟨rfl, h1, h2⟩
    exact ⟨b, rfl, .inl rfl, h1, h2.more fun _ _ e => .inl e⟩
  · rw [if_neg hp]
    refine (setM_bad h hp).mono ?_
    rintro e w' ⟨rfl, rfl⟩
    exact ⟨b, rfl, .inl rfl, h, Tn.refl _ _⟩
set_option maxRecDepth 100000 in
set_option maxHeartbeats 1000000 in
theorem does_any {w : World} {q b a : Nat} {N : Int} {M : Pl.Mks} (h : MarksW w q b N M) {k x p : Int} {A : Option Addr} {n c : Nat} {l : List Un} (ha : w.heap[a]? = some (.cells #[.int .i64 k, .int .u32 x, .int .i64 p, .slice A n c] 49 (0, 0))) (hx : 0 ≤ x ∧ x < 4294967296)
    (hu : Uns w w.heap.size A n c l) (hN : N ≤ 1000000) :
    Calls Try.prog 17 #[.pointer (some ⟨q, 0, none⟩), .pointer (some ⟨a, 0, none⟩)] w (DoR w q b k x p (l.take (min n 20)) N M) := by
  have c0 : w.cell? ⟨a, 0, none⟩ = some (.int .i64 k) := cell0 (r := [.int .u32 x, .int .i64 p, .slice A n c]) ha
  have c1 : w.cell? ⟨a, 1, none⟩ = some (.int .u32 x) := cell1 (r := [.int .i64 p, .slice A n c]) ha
  have c2 : w.cell? ⟨a, 2, none⟩ = some (.int .i64 p) := cell2 (r := [.slice A n c]) ha
  have c3 : w.cell? ⟨a, 3, none⟩ = some (.slice A n c) := cell3 (r := []) ha
  obtain ⟨m, hm⟩ : ∃ m, m = min n 20 := ⟨_, rfl⟩
  have hmin : (if (20 : Int) < (n : Int) then (20 : Int) else (n : Int)) = (m : Int) := by split <;> omega
  have hs := slice_toU A n c m (by have := hu.le; omega)
  rw [← hm]
  have hub := Rws.upto encU_len hu (show m ≤ n by omega)
  have HG := Lib.hid (goM_any h hub (by omega) hN x p)
  have HD := Lib.hid (dropM_all h hx p (l.take m))
  have HS := fun k1 k2 => Lib.hid (setM_all h hx k p k1 k2 (l.take m))
  clear h ha hx hu hN hm hub
  by_cases k1 : k = 1
  · subst k1
    have z : ((1 : Int) == 1) = true := rfl
    clear HS HG
    go_enter Try.func17, Try.ntmps17
    go_wp2_with fail
    refine HD.out.mono ?_
    intro e w' hd
    obtain ⟨b', rfl, hd⟩ := hd
    have HDD := Lib.hid hd
    clear hd
    go_wp2_with fail
    go_ret
    exact ⟨b', rfl, HDD.out⟩
  · by_cases k2 : k = 2
    · subst k2
      clear HS HD
      go_enter Try.func17, Try.ntmps17
      go_wp2_with fail
      refine HG.out.mono ?_
      intro e w' hd
      obtain ⟨b', rfl, hd⟩ := hd
      have HDD := Lib.hid hd
      clear hd
      go_wp2_with fail
      go_ret
      exact ⟨b', rfl, HDD.out⟩
    · have z1 : (k == 1) = false := by simpa using k1
      have z2 : (k == 2) = false := by simpa using k2
      have HS1 := HS k1 k2
      clear HG HD HS k1 k2
      go_enter Try.func17, Try.ntmps17
      go_wp2_with fail
      refine HS1.out.mono ?_
      intro e w' hd
      obtain ⟨b', rfl, hd⟩ := hd
      have HDD := Lib.hid hd
      clear hd
      go_wp2_with fail
      go_ret
      exact ⟨b', rfl, HDD.out⟩
end Go.Proofs.Ytfjnliebgndemaa
