/-
  maps.Keys over leases' map, ranged over: its clients come, each once, in some order. Conditions: the caller's rounds keep the map.
-/
import Derived.Test.YtjplchajopkpcaaLsU
import Derived.Test.YtjplchajopkpcaaBaseG
import Derived.Maps.OwnIn
import Derived.Sort.MapsRangeIn
import Derived.RangeFuncSeq
import Derived.Shelf.Abstract
import Derived.WalkKit
import Derived.OwnWalkIn
import Derived.TacticsInMore
import Derived.LoopNIn
import Derived.LoopIn
namespace Go.Proofs.Ytjplchajopkpcaa
open Go.RowKit Go.Maps
attribute [local go_sem] Oper.semAt_some

theorem collL_start {H : Type} (M : Pl.Mks) (hM : Pl.Rising M) : Pl.Coll M (Maps.has (datL M : DataW H)) [] :=
  ⟨List.Pairwise.nil, fun p => by
    rw [hasL_dat]
    constructor
    · intro h; cases h
    · rintro ⟨h1, h2⟩
      obtain ⟨c, v⟩ := p
      rw [(Pl.get_iff hM).2 h1] at h2
      cases h2⟩
theorem atL_get {M : Pl.Mks} {x c : Int} (h : ∀ zd, (datL M : DataW Unit).atKey (.int .u32 x) zd = .lit (.int .u64 c)) : Pl.getM M x = some c := by
  have h1 := h (.agg [])
  rw [atL_dat] at h1
  cases hg : Pl.getM M x with
  | none => rw [hg] at h1; simp at h1
  | some v =>
    rw [hg] at h1
    simp at h1
    rw [h1]
theorem ranges_tn {T : Nat → Prop} {H : Type} {P : Program} {k : TypeId} {R : Value → Option (DataW H × List MemPlace)} {w w' : World} {b r n : Nat} {D : DataW H} {left : Lit → Bool} {cnt : Nat}
    (h : w.ranges P k R b r n D left cnt) (ht : Tn T w w') (hb : ¬ T b) (hr : ¬ T r) : w'.ranges P k R b r n D left cnt := by
  obtain ⟨es, clock, since, seen, c0, h1, F, hs, hD, h2, rest⟩ := h
  exact ⟨es, clock, since, seen, c0, ht.old h1 hb, F, hs, hD, ht.old h2 hr, rest⟩
/-- which client may come next -/
def KyN (N : Nat) (pre : List Int) (x : Int) : Prop := (0 ≤ x ∧ x < 4294967296) ∧ pre.length < N
/-- when all have come -/
def KyE (M : Pl.Mks) (xs : List Int) : Prop := xs.Perm (M.map Prod.fst)
set_option maxRecDepth 100000 in
set_option maxHeartbeats 1000000 in
theorem keys_runs {W : World} {bx b : Nat} {M : Pl.Mks} {O : Nat → Prop} (hbx : W.heap[bx]? = some (.cells #[.map (some b)] 61 (0, 0))) (hown : W.ownsMap Try.prog 25 (plainElem (H := Unit) Try.prog 26) b M.length (datL M))
    (hup : Pl.Rising M) (hO : ∀ i, O i → i < W.heap.size) (hOb : ¬ O b) :
    Sq.Runs Try.prog 36 (fun l => #[] ++ #[.func (.yield l) #[] #[]] ++ #[.pointer (some ⟨bx, 0, none⟩)]) (fun x : Int => #[.int .u32 x]) (KyN M.length) (KyE M) O W := by
  intro n l J hJ0 hJs hY
  have c0 := cell0 (r := []) hbx
  have hbw := hown.lt
  show CallsIn Fence.wide n Try.prog 36 #[.func (.yield l) #[] #[], .pointer (some ⟨bx, 0, none⟩)] W _
  refine callsIn_of_wp Try.func36 rfl trivial ?_ rfl
  simp only [Try.ntmps36, List.size_toArray, List.length_cons, List.length_nil, Nat.reduceAdd, Nat.reduceSub, Array.replicate_succ, Array.replicate_zero, List.push_toArray, List.append_toArray, List.nil_append, List.cons_append]
  gi_wp2_with (first
    | (gi_at_range; refine wpListIn_range_own _ rfl _ 61 rfl 25 26 keyedC Try.underlying61 _ b _ _ rfl hown ?_; intro w0 hrg0 hg0 hs0)
    | gi_in)
  have HB0 := Lib.hid (show Below W.heap.size W w0 from (Below.refl _ _).grown hg0 (Nat.le_refl _) (fun j e => by cases e))
  have HRG := Lib.hid hrg0
  have HS0 := Lib.hid (show W.heap.size + 1 ≤ w0.heap.size by have := hrg0.lt; omega)
  have HJ0 := Lib.hid (hJ0 w0 HB0.out)
  clear hrg0 hg0 hs0 c0
  obtain ⟨S, hS⟩ : ∃ S, S = w0.heap.size := ⟨_, rfl⟩
  rw [← hS] at HS0 HJ0
  have HSW := Lib.hid hS
  clear hS
  gi_loopw [3] (fun _ wr => ∃ (left : Lit → Bool) (cnt : Nat) (Cs : Pl.Mks), wr.ranges Try.prog 25 (plainElem (H := Unit) Try.prog 26) b W.heap.size M.length (datL M) left cnt ∧ Pl.Coll M left Cs ∧ Cs.length + cnt ≤ M.length ∧ J S (Cs.map Prod.fst) wr ∧ S ≤ wr.heap.size)
    (fun _ wr => wr.rangeLeft b W.heap.size)
  case atStart =>
    exact ⟨_, _, [], HRG.out, collL_start M hup, by rw [sizeL_dat]; simp, HJ0.out, Nat.le_of_eq HSW.out⟩
  case round =>
    obtain ⟨left, cnt, Cs, hrg, hco, hle, hj, hsz⟩ := hrel
    gi_wp2_with (first
      | (gi_at_next; refine wpListIn_next_ranges_ii _ rfl _ rfl 25 26 .u32 .u64 keyedC Try.underlying25 Try.underlying26 b W.heap.size M.length _ _ _ rfl hrg ?_ ?_)
      | gi_in)
    · intro _ hl0
      gi_wp2
      go_end0
      exact ⟨⟨_, rfl⟩, S, Cs.map Prod.fst, by have := HS0.out; omega, (Pl.coll_end hco hup hl0).map _, hj⟩
    · intro x v w1 cnt1 hwx hwc hlx hat hrg1 hlt hg1 hs1 hen
      have hgx := atL_get hat
      have ht1 : Tn (fun i => i = W.heap.size) wr w1 := (Tn.refl _ wr).grown hg1 (fun k e => by cases e; exact .inr rfl)
      have hj1 := hJs S _ _ _ (by have := HS0.out; omega) hj (ht1.more (fun i _ e => by have := HS0.out; omega))
      have hx : 0 ≤ x ∧ x < 4294967296 := by
        have e1 : IntKind.u32.min = 0 := by decide
        have e2 : IntKind.u32.max = 4294967295 := by decide
        simp only [Lit.wf, e1, e2, Bool.and_eq_true, decide_eq_true_eq] at hwx
        omega
      have HC1 := Lib.hid (Pl.coll_step hco hup hlx hgx)
      obtain ⟨fn, tmps, assign, body, hy, hR⟩ := hY S (Cs.map Prod.fst) x w1 (n - 1) (by have := HS0.out; omega) hj1 ⟨hx, by rw [List.length_map]; omega⟩
      clear hs1
      gi_wp2
      refine ⟨(fun h => by cases h), hR.mono ?_⟩
      rintro e W3 ⟨rfl, hj3, ht3⟩
      gi_wp2
      have hrg3 := ranges_tn hrg1 ht3 (fun h => h.elim hOb (fun h => by have := HS0.out; omega)) (fun h => h.elim (fun h => by have := hO _ h; omega) (fun h => by have := HS0.out; omega))
      go_roundw
      case rel => exact ⟨_, cnt1, Cs ++ [(x, v)], hrg3, HC1.out, by simp; omega, by simpa using hj3, Nat.le_trans hsz (Nat.le_trans ht1.size ht3.size)⟩
      case measure => rw [hrg3.left_eq, hrg.left_eq]; exact hlt
end Go.Proofs.Ytjplchajopkpcaa
