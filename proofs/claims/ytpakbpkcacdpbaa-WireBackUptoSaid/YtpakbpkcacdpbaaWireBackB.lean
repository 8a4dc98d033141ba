/-
  Records as lists of bytes (thing by thing), and what 'reads' answers at a whole thing and at a beginning of one. Conditions: those that each states.
-/
import Derived.Test.YtpakbpkcacdpbaaWireBackA
namespace Go.Proofs.Ytpakbpkcacdpbaa.wireBack
open Go.RowKit

/-- a thing's bytes -/
def bt (t : Thg) : List Nat := t.bs.take 300
def thg (t : Thg) : List Nat := if t.what = 1 then Pl.enc (Pl.fold (wrap64 (t.n : Int))) else if t.what = 2 then Pl.enc (t.n % 2) else if t.what = 3 ∨ t.what = 4 then Pl.enc (bt t).length ++ bt t else Pl.enc t.n
def recs (l : List Thg) : List Nat := (l.map thg).flatten
theorem I_wrap (N : Nat) : Pl.I (wrap64 (N : Int)) := by
  unfold wrap64
  exact Pl.I.mk (by omega)
theorem bt_len (t : Thg) : (bt t).length ≤ 300 := by unfold bt; rw [List.length_take]; omega
theorem thg_len (t : Thg) (h : Pl.U t.n) : (thg t).length ≤ 310 := by
  unfold thg
  have h1 := Pl.sz_le10 (Pl.fold_U (I_wrap t.n)).out
  have h2 := Pl.sz_le10 h.out
  have h3 := bt_len t
  have h4 := Pl.sz_le10 (len_U (n := (bt t).length) (by omega)).out
  have h5 := Pl.sz_le10 (len_U (n := t.n % 2) (by omega)).out
  split
  · rw [Pl.len_enc]; omega
  · split
    · rw [Pl.len_enc]; omega
    · split
      · rw [List.length_append, Pl.len_enc]; omega
      · rw [Pl.len_enc]; omega
theorem recs_snoc (l : List Thg) (j : Nat) (h : j < l.length) : recs (l.take (j + 1)) = recs (l.take j) ++ thg (l.getD j default) := by
  unfold recs
  rw [List.take_succ_eq_append_getElem h, List.map_append, List.flatten_append, List.getD_eq_getElem?_getD, List.getElem?_eq_getElem h]; simp
theorem recs_at (l : List Thg) (j : Nat) (h : j < l.length) : recs (l.drop j) = thg (l.getD j default) ++ recs (l.drop (j + 1)) := by
  unfold recs
  rw [List.drop_eq_getElem_cons h, List.map_cons, List.flatten_cons, List.getD_eq_getElem?_getD, List.getElem?_eq_getElem h]; rfl

/-! ### plain answers -/
theorem rn_enc (n : Nat) (r1 : List Nat) (h : Pl.U n) : Pl.rn (Pl.enc n ++ r1) 0 = (n, r1, 0) := by
  have hg := Pl.get_enc n r1 h.out
  rw [Pl.rn_ok (by rw [hg]), hg]
  simp only
  rw [← Pl.len_enc n, List.drop_left]
theorem rb_enc (n m : Nat) (ab : Int) (r1 : List Nat) (h : Pl.U n) (hm : n ≤ m) : Pl.rb (Pl.enc n ++ r1) 0 m ab = (n, r1, 0) := by
  unfold Pl.rb; rw [rn_enc n r1 h]; simp only; rw [if_neg (by omega)]
theorem rby_enc (b r1 : List Nat) (m : Nat) (hm : b.length ≤ m) (h : Pl.U b.length) : Pl.rby (Pl.enc b.length ++ b ++ r1) 0 m = (b, r1, 0) := by
  unfold Pl.rby
  rw [List.append_assoc, rb_enc _ m 3 _ h hm]
  simp [Pl.rt]
theorem rn_cut (n i : Nat) (h : i < (Pl.enc n).length) (hn : Pl.U n) : Pl.rn ((Pl.enc n).take i) 0 = (0, [], 4) := by
  have hg := Pl.enc_prefix_get n i (by rw [← Pl.len_enc]; exact h) hn.out
  rw [Pl.rn_err (by rw [hg]; simp), hg]; rfl
theorem rb_cut (n i m : Nat) (ab : Int) (h : i < (Pl.enc n).length) (hn : Pl.U n) : Pl.rb ((Pl.enc n).take i) 0 m ab = (0, [], 4) := by
  unfold Pl.rb; rw [rn_cut n i h hn]; simp
theorem rby_cut (b : List Nat) (i m : Nat) (h : i < (Pl.enc b.length ++ b).length) (hm : b.length ≤ m) (hU : Pl.U b.length) : Pl.rby ((Pl.enc b.length ++ b).take i) 0 m = ([], [], 4) := by
  unfold Pl.rby
  by_cases hi : i < (Pl.enc b.length).length
  · rw [List.take_append_of_le_length (by omega), rb_cut _ i m 3 hi hU]
    simp [Pl.rt]
  · rw [List.take_append, List.take_of_length_le (by omega), rb_enc _ m 3 _ hU hm]
    rw [List.length_append] at h
    simp only [Pl.rt, if_true, List.length_take]
    rw [if_neg (by omega)]

section
variable {A : Option Addr} {F : Nat → Prop} {what : Int} {N : Nat} {A' : Option Addr} {m c' : Nat} {ts : List Nat} {w : World}
theorem bt_take (t : Thg) {M : Nat} (hl : t.bs.length = m) (hM : M = m ∧ M ≤ 300 ∨ M = 300) : t.bs.take M = bt t := by
  unfold bt
  rcases hM with ⟨h1, h2⟩ | h1
  · rw [h1, List.take_of_length_le (by omega), List.take_of_length_le (by omega)]
  · rw [h1]
theorem pick_M (m : Nat) : ∃ M, M ≤ m ∧ M ≤ 300 ∧ (M = m ∨ M = 300) := by
  by_cases h : m ≤ 300
  · exact ⟨m, by omega, h, Or.inl rfl⟩
  · exact ⟨300, by omega, by omega, Or.inr rfl⟩
theorem reads_good (r1 : List Nat) (hR : Rd w A F (thg ⟨what, N, ts⟩ ++ r1) 0) (hB : Bys w w.heap.size A' m c' ts) (hU : Pl.U N) (hap : Apart F A' m) (hrl : (thg ⟨what, N, ts⟩ ++ r1).length ≤ 140737488355328) :
    Calls Try.prog 43 #[.pointer A, .agg #[.int .i64 what, .int .u64 (N : Int), .slice A' m c']] w fun en w' => en = .returned (.bool true) ∧ RdTo w A F (r1, 0) w' := by
  obtain ⟨M, hM1, hM2, hM3⟩ := pick_M m
  have hbt : ts.take M = bt ⟨what, N, ts⟩ := bt_take ⟨what, N, ts⟩ hB.len (by rcases hM3 with h | h; exact Or.inl ⟨h, hM2⟩; exact Or.inr h)
  have hbl : (bt ⟨what, N, ts⟩).length = M := by rw [← hbt, List.length_take, hB.len]; omega
  have hbU : Pl.U (bt ⟨what, N, ts⟩).length := len_U (by omega)
  by_cases k1 : what = 1
  · have e : thg ⟨what, N, ts⟩ = Pl.enc (Pl.fold (wrap64 (N : Int))) := by simp [thg, k1]
    rw [e] at hR
    have := reads1 A F _ what N A' m c' M ts w hR hB hM1 hM2 hM3 k1 _ r1 0 (rn_enc _ r1 (Pl.fold_U (I_wrap N)))
    rw [Pl.unfold_fold (I_wrap N), show (wrap64 (N : Int) == IntKind.i64.wrap (N : Int)) = true by rw [beq_iff_eq, IntWalk.i64_left]] at this
    exact this
  by_cases k2 : what = 2
  · have e : thg ⟨what, N, ts⟩ = Pl.enc (N % 2) := by simp [thg, k2]
    rw [e] at hR
    have := reads2 A F _ what N A' m c' M ts w hR hB hM1 hM2 hM3 k2 _ r1 0 (rb_enc (N % 2) 1 5 r1 (len_U (by omega)) (by omega))
    rw [show (decide (N % 2 = 1) == ((N : Int) % 2 == 1)) = true by
      rcases (show N % 2 = 0 ∨ N % 2 = 1 by omega) with h | h
      · rw [h, show ((N : Int) % 2) = 0 by omega]; rfl
      · rw [h, show ((N : Int) % 2) = 1 by omega]; rfl] at this
    exact this
  by_cases k3 : what = 3
  · have e : thg ⟨what, N, ts⟩ = Pl.enc (bt ⟨what, N, ts⟩).length ++ bt ⟨what, N, ts⟩ := by simp [thg, k3]
    rw [e] at hR hrl
    have := reads3 A F _ what N A' m c' M ts w hR hB hM1 hM2 hM3 k3 hrl hap _ r1 0 (rby_enc (bt ⟨what, N, ts⟩) r1 300 (by omega) hbU)
    rw [hbt, decide_eq_true rfl] at this
    exact this
  by_cases k4 : what = 4
  · have e : thg ⟨what, N, ts⟩ = Pl.enc (bt ⟨what, N, ts⟩).length ++ bt ⟨what, N, ts⟩ := by simp [thg, k4]
    rw [e] at hR
    have := reads4 A F _ what N A' m c' M ts w hR hB hM1 hM2 hM3 k4 hap _ r1 0 (rby_enc (bt ⟨what, N, ts⟩) r1 M (by omega) hbU) (Pl.oct_take hB.oct 300)
    rw [hbt, decide_eq_true rfl] at this
    exact this
  · have e : thg ⟨what, N, ts⟩ = Pl.enc N := by simp [thg, k1, k2, k3, k4]
    rw [e] at hR
    have := reads0 A F _ what N A' m c' M ts w hR hB hM1 hM2 hM3 k1 k2 k3 k4 _ r1 0 (rn_enc N r1 hU)
    rw [show (((N : Nat) : Int) == (N : Int)) = true by rw [beq_iff_eq]] at this
    exact this
theorem reads_short (k : Nat) (hk : k < (thg ⟨what, N, ts⟩).length) (hR : Rd w A F ((thg ⟨what, N, ts⟩).take k) 0) (hB : Bys w w.heap.size A' m c' ts) (hU : Pl.U N) (hap : Apart F A' m) :
    Calls Try.prog 43 #[.pointer A, .agg #[.int .i64 what, .int .u64 (N : Int), .slice A' m c']] w fun en w' => ∃ b, en = .returned (.bool b) ∧ RdTo w A F ([], 4) w' := by
  obtain ⟨M, hM1, hM2, hM3⟩ := pick_M m
  have hbt : ts.take M = bt ⟨what, N, ts⟩ := bt_take ⟨what, N, ts⟩ hB.len (by rcases hM3 with h | h; exact Or.inl ⟨h, hM2⟩; exact Or.inr h)
  have hbl : (bt ⟨what, N, ts⟩).length = M := by rw [← hbt, List.length_take, hB.len]; omega
  have hbU : Pl.U (bt ⟨what, N, ts⟩).length := len_U (by omega)
  have hl := thg_len ⟨what, N, ts⟩ hU
  by_cases k1 : what = 1
  · have e : thg ⟨what, N, ts⟩ = Pl.enc (Pl.fold (wrap64 (N : Int))) := by simp [thg, k1]
    rw [e] at hR hk
    exact (reads1 A F _ what N A' m c' M ts w hR hB hM1 hM2 hM3 k1 _ _ _ (rn_cut _ k hk (Pl.fold_U (I_wrap N)))).mono fun _ _ ⟨h1, h2⟩ => ⟨_, h1, h2⟩
  by_cases k2 : what = 2
  · have e : thg ⟨what, N, ts⟩ = Pl.enc (N % 2) := by simp [thg, k2]
    rw [e] at hR hk
    exact (reads2 A F _ what N A' m c' M ts w hR hB hM1 hM2 hM3 k2 _ _ _ (rb_cut (N % 2) k 1 5 hk (len_U (by omega)))).mono fun _ _ ⟨h1, h2⟩ => ⟨_, h1, h2⟩
  by_cases k3 : what = 3
  · have e : thg ⟨what, N, ts⟩ = Pl.enc (bt ⟨what, N, ts⟩).length ++ bt ⟨what, N, ts⟩ := by simp [thg, k3]
    rw [e] at hR hk hl
    exact (reads3 A F _ what N A' m c' M ts w hR hB hM1 hM2 hM3 k3 (by rw [List.length_take]; omega) hap _ _ _ (rby_cut (bt ⟨what, N, ts⟩) k 300 hk (by omega) hbU)).mono fun _ _ ⟨h1, h2⟩ => ⟨_, h1, h2⟩
  by_cases k4 : what = 4
  · have e : thg ⟨what, N, ts⟩ = Pl.enc (bt ⟨what, N, ts⟩).length ++ bt ⟨what, N, ts⟩ := by simp [thg, k4]
    rw [e] at hR hk
    exact (reads4 A F _ what N A' m c' M ts w hR hB hM1 hM2 hM3 k4 hap _ _ _ (rby_cut (bt ⟨what, N, ts⟩) k M hk (by omega) hbU) (fun x hx => by cases hx)).mono fun _ _ ⟨h1, h2⟩ => ⟨_, h1, h2⟩
  · have e : thg ⟨what, N, ts⟩ = Pl.enc N := by simp [thg, k1, k2, k3, k4]
    rw [e] at hR hk
    exact (reads0 A F _ what N A' m c' M ts w hR hB hM1 hM2 hM3 k1 k2 k3 k4 _ _ _ (rn_cut N k hk hU)).mono fun _ _ ⟨h1, h2⟩ => ⟨_, h1, h2⟩
end
end Go.Proofs.Ytpakbpkcacdpbaa.wireBack
