/-
  Leases.clients over the landed text: those who are there, or are not, rising. Conditions: none but the leases'.
-/
import Derived.Test.YtjplchajopkpcaaLsA
namespace Go.Proofs.Ytjplchajopkpcaa
open Go.RowKit Go.Maps
attribute [local go_sem] Oper.semAt_some

theorem which_add (live : Bool) (now : Int) (pre : Pl.Mks) (x : Int × Int) : Pl.whichM live now (pre ++ [x]) = Pl.whichM live now pre ++ (if (decide (now < x.2) == live) = true then [x.1] else []) := by
  unfold Pl.whichM
  rw [List.filter_append, List.map_append]
  congr 1
  by_cases h : (decide (now < x.2) == live) = true
  · rw [if_pos h]; simp [h]
  · rw [if_neg h]; simp [h]
theorem which_len (live : Bool) (now : Int) (pre : Pl.Mks) : (Pl.whichM live now pre).length ≤ pre.length := by
  unfold Pl.whichM
  rw [List.length_map]
  exact List.length_filter_le _ _
/-- what clients keeps between two rounds -/
def ClI (w : World) (live : Bool) (now : Int) (S : Nat) (pre : Pl.Mks) (W : World) : Prop := ∃ A c, W.heap[w.heap.size + 2]? = some (.cells #[.slice A (Pl.whichM live now pre).length c] 44 (0, 0)) ∧ OwnCl W S (.slice A (Pl.whichM live now pre).length c) (Pl.whichM live now pre) ∧ Below w.heap.size w W ∧ (Pl.whichM live now pre = [] → A = none ∧ c = 0) ∧
  W.heap[w.heap.size]? = some (.cells #[.int .u64 now] 26 (0, 0)) ∧ W.heap[w.heap.size + 1]? = some (.cells #[.bool live] 4 (0, 0))
theorem ClI.tn {w : World} {live : Bool} {now : Int} {S : Nat} {pre : Pl.Mks} {W1 W2 : World} {T : Nat → Prop} (h : ClI w live now S pre W1) (ht : Tn T W1 W2) (h1 : ∀ i, i < w.heap.size + 3 → ¬ T i) (h2 : ∀ i, S ≤ i → ¬ T i) : ClI w live now S pre W2 := by
  obtain ⟨A, c, g1, g2, g3, g4, g5, g6⟩ := h
  exact ⟨A, c, ht.old g1 (h1 _ (by omega)), g2.tn ht (fun g hg => h2 g (g2.lt g hg).1), ht.below g3 g3.size (fun i hi => Nat.le_of_not_lt (fun hn => h1 i (by omega) hi)), g4, ht.old g5 (h1 _ (by omega)), ht.old g6 (h1 _ (by omega))⟩
/-- one lease in its box -/
def ClX (w : World) (v : Value) (live : Bool) (now : Int) (S : Nat) (pre : Pl.Mks) (x : Int × Int) (a1 : Act) (W : World) : Prop := ClI w live now S pre W ∧ ∃ bx, S ≤ bx ∧ W.heap[bx]? = some (.cells #[.int .u32 x.1, .int .u64 x.2] 28 (0, 0)) ∧
  a1 = { tmps := #[v, .int .u64 now, .bool live, undef, .pointer (some ⟨w.heap.size, 0, none⟩), .pointer (some ⟨w.heap.size + 1, 0, none⟩), .slice none 0 0, .pointer (some ⟨w.heap.size + 2, 0, none⟩), .pointer (some ⟨bx, 0, none⟩), v, .func (.func 30) #[v] #[], .agg #[.int .u32 x.1, .int .u64 x.2], undef, undef, undef, undef, undef, undef, undef, undef, undef, undef, undef, undef], defers := [] }
set_option maxRecDepth 100000 in
set_option maxHeartbeats 4000000 in
theorem clients_runs {w : World} {v : Value} {now : Int} {live : Bool} {M : Pl.Mks} {Nx : Pl.Mks → Int × Int → Prop} (hM : M.length ≤ 1000) (hNx : ∀ pre x, Nx pre x → pre.length < M.length)
    (hr : ∀ (O : Nat → Prop) (W : World), Below w.heap.size w W → (∀ i, O i → w.heap.size ≤ i ∧ i < W.heap.size) → Sq.Runs Try.prog 30 (fun l => #[v] ++ #[.func (.yield l) #[] #[]] ++ #[]) (fun x : Int × Int => #[.agg #[.int .u32 x.1, .int .u64 x.2]]) Nx (fun xs => xs = M) O W) :
    Calls Try.prog 28 #[v, .int .u64 now, .bool live] w fun e w' => ∃ A c, e = .returned (.slice A (Pl.whichM live now M).length c) ∧ OwnCl w' w.heap.size (.slice A (Pl.whichM live now M).length c) (Pl.whichM live now M) ∧ Below w.heap.size w w' ∧ (M = [] → e = .returned (.slice none 0 0)) := by
  refine (callsIn_wide (n := 9)).1 ?_
  refine callsIn_of_wp_marks Try.func28 rfl trivial ?_ rfl
  simp only [Try.ntmps28, List.size_toArray, List.length_cons, List.length_nil, Nat.reduceAdd, Nat.reduceSub, Array.replicate_succ, Array.replicate_zero, List.push_toArray, List.append_toArray, List.nil_append, List.cons_append]
  gi_wp2
  obtain ⟨w1, hw1⟩ : ∃ z, z = ((w.alloc (.cells #[.int .u64 now] 26)).alloc (.cells #[.bool live] 4)).alloc (.cells #[.slice none 0 0] 44) := ⟨_, rfl⟩
  rw [← hw1]
  have hs1 : w1.heap.size = w.heap.size + 3 := by rw [hw1]; simp
  have hba : Below w.heap.size w (w.alloc (.cells #[.int .u64 now] 26)) := (Below.refl _ w).alloc (Nat.le_refl _) _
  have hb1 : Below w.heap.size w w1 := by rw [hw1]; exact (hba.alloc (by simp) _).alloc (by simp; omega) _
  have hbox : w1.heap[w.heap.size + 2]? = some (.cells #[.slice none 0 0] 44 (0, 0)) := by rw [hw1]; exact heap_new (by simp)
  have hbox1 : w1.heap[w.heap.size + 1]? = some (.cells #[.bool live] 4 (0, 0)) := by
    rw [hw1]
    exact below_old ((Below.refl _ _).alloc (Nat.le_refl _) _) (heap_new (by simp)) (by simp)
  have hbox0 : w1.heap[w.heap.size]? = some (.cells #[.int .u64 now] 26 (0, 0)) := by
    rw [hw1]
    exact below_old ((Below.refl _ _).alloc (Nat.le_refl _) _) (below_old ((Below.refl _ _).alloc (Nat.le_refl _) _) (heap_new rfl) (by simp)) (by simp; omega)
  clear hw1 hba
  refine Sq.wp_range (gf := 30) (la := #[v]) (lb := #[]) rfl (enters_of Try.func30 (by kernel_rfl) rfl)
    (O := fun i => i = w.heap.size + 2)
    (fun W0 h0 hsz => hr _ W0 (hb1.trans (h0.mono (by omega))) (fun i hi => by rcases hi with h | h <;> omega))
    (fun i hi => by omega) (fun _ => rfl) (ClI w live now) (ClX w v live now)
    ?start ?keep ?keepA ?assign ?body ?done
  case start =>
    intro W1 h1 hsz
    exact ⟨none, 0, below_old h1 hbox (by omega), OwnR.nil_ _ _ _ _ _, hb1.trans (h1.mono (by omega)), fun _ => ⟨rfl, rfl⟩, below_old h1 hbox0 (by omega), below_old h1 hbox1 (by omega)⟩
  case keep =>
    intro S pre W1 W2 hS h ht
    exact h.tn ht (fun i hi => by omega) (fun i hi => by omega)
  case keepA =>
    rintro S pre x a1 W1 W2 hS ⟨h, bx, h1, h2, e⟩ ht
    exact ⟨h.tn ht (fun i hi => by omega) (fun i hi => by omega), bx, h1, ht.old h2 (by omega), e⟩
  case assign =>
    rintro m l S pre ⟨x, u⟩ W hS hSW hi hx
    have ht : Tn (fun i => i = w.heap.size + 2 ∨ S ≤ i) W (W.alloc (.cells #[.int .u32 x, .int .u64 u] 28)) := (Tn.refl _ W).alloc _
    have hi2 : ClI w live now S pre (W.alloc (.cells #[.int .u32 x, .int .u64 u] 28)) := hi.tn (T := fun _ => False) (Tn.of _ ((Below.refl _ W).alloc (Nat.le_refl _) _)) (fun _ _ h => h) (fun _ _ h => h)
    gi_wp2
    exact ⟨⟨hi2, W.heap.size, hSW, heap_new rfl, rfl⟩, ht⟩
  case body =>
    rintro m l S pre ⟨x, u⟩ a1 W hS hSW ⟨⟨A, c, h1, h2, h3, h9, g5, g6⟩, bx, hbx, hcx, rfl⟩ hx
    have hpl := hNx _ _ hx
    have hwl := which_len live now pre
    have hwa := which_add live now pre (x, u)
    simp only at hwa
    obtain ⟨D, hD⟩ : ∃ D, D = Pl.whichM live now pre := ⟨_, rfl⟩
    rw [← hD] at h1 h2 h9 hwl hwa
    have hc := cell0 (r := []) h1
    have hx0 := cell0 (r := [.int .u64 u]) hcx
    have hx1 := cell1 (r := []) hcx
    have hc5 := cell0 (r := []) g5
    have hc6 := cell0 (r := []) g6
    have hsrc : Rws encC (W.alloc (.cells #[.int .u32 x] 25)) (W.alloc (.cells #[.int .u32 x] 25)).heap.size (some ⟨W.heap.size, 0, none⟩) 1 1 [x] := ((OwnR.lit (e := 25) encC_len W [x] (by simp [maxLen])).rws encC_len).2
    obtain ⟨q, hq⟩ : ∃ q, q = decide (now < u) := ⟨_, rfl⟩
    rw [← hq] at hwa
    have hq2 := hq.symm
    by_cases hql : (q == live) = true
    · rw [if_pos hql] at hwa
      have HWA := Lib.hid hwa
      clear hwa hq hD
      gi_wp2_with (gi_at_builtin; refine wpListIn_append_rws encC_len encC_one Try.underlying44 infoCl rfl (by decide) _ rfl _ _ rfl S A D.length c D rfl (h2.alloc _) _ _ 1 1 [x] rfl hsrc (by unfold maxLen; omega) (by omega) (by simp; omega) ?_; intro A2 c2 w2 h4 hg4 hat4; have ht4 : Tn (fun i => S ≤ i) W w2 := ((Tn.refl (fun i => S ≤ i) W).alloc _).grown hg4 (fun k e => .inr (h2.lt k e).1); have hb4 := ht4.old h1 (by omega); have hc4 := cell0 (r := []) hb4; have hf4 := frozen_of_row w2 (w.heap.size + 2) 0 _ _ hb4)
      have ht5 : Tn (fun i => i = w.heap.size + 2) w2 (w2.setCell ⟨w.heap.size + 2, 0, none⟩ (.slice A2 (D.length + 1) c2)) := (Tn.refl (fun i => i = w.heap.size + 2) w2).set_ (p := ⟨w.heap.size + 2, 0, none⟩) (Or.inr rfl) _
      have hz : (D ++ [x]).length = D.length + 1 := by rw [List.length_append]; rfl
      refine ⟨⟨A2, c2, by rw [HWA.out, hz]; exact blk_set hb4 _, by rw [HWA.out, hz]; exact OwnR.tn h4 ht5 (fun g hg => by have := (h4.lt g hg).1; omega), ?_, fun h => by rw [HWA.out] at h; simp at h, ht5.old (ht4.old g5 (by omega)) (by omega), ht5.old (ht4.old g6 (by omega)) (by omega)⟩, ?_⟩
      · exact ht5.below (ht4.below h3 h3.size (fun i hi => by omega)) (Nat.le_trans h3.size ht4.size) (fun i hi => by omega)
      · exact (ht4.more (fun b _ h => Or.inr h)).trans ht5 (fun b _ h => Or.inl h)
    · rw [if_neg hql, List.append_nil] at hwa
      have hql2 : (q == live) = false := by simpa using hql
      have HWA := Lib.hid hwa
      clear hwa hq hD hql
      gi_wp2
      exact ⟨⟨A, c, by rw [HWA.out]; exact h1, by rw [HWA.out]; exact h2, h3, fun h => h9 (by rw [← HWA.out]; exact h), g5, g6⟩, Tn.refl _ _⟩
  case done =>
    rintro S xs W hS rfl ⟨A, c, h1, h2, h3, h9, g5, g6⟩ hK
    have hc := cell0 (r := []) h1
    gi_wp2
    have ht := Sq.tn_put (T := fun i => i = w1.heap.size) W (.deferred none) rfl
    have h5 := (OwnR.lower h2 (base' := w.heap.size) (by omega)).tn ht (fun g hg => by have := (h2.lt g hg).1; omega)
    refine ⟨by simp, .inl ⟨_, _, rfl, run_takeDeferred hK, ?_⟩⟩
    exact ⟨_, results_tmp rfl _ _ _, A, c, rfl, h5, ht.below h3 h3.size (fun i hi => by omega), fun hm => by
      obtain ⟨rfl, rfl⟩ := h9 (by rw [hm]; rfl)
      rw [hm]; rfl⟩
theorem clients_any {w : World} {p b : Nat} {M : Pl.Mks} (h : LeasesW w p b M) (now : Int) (live : Bool) :
    Calls Try.prog 28 #[.pointer (some ⟨p, 0, none⟩), .int .u64 now, .bool live] w fun e w' => ∃ A c, e = .returned (.slice A (Pl.whichM live now M).length c) ∧ OwnCl w' w.heap.size (.slice A (Pl.whichM live now M).length c) (Pl.whichM live now M) ∧ Below w.heap.size w w' :=
  (clients_runs (by have := h.few; omega) (fun pre x hx => by
    obtain ⟨k, rfl, hk⟩ := hx
    have := (List.getElem?_eq_some_iff.1 hk).1
    rw [List.length_take]; omega) (fun O W hb hO => rising_runs (h.then_ hb) (by have := h.few; omega) (fun i hi => (hO i hi).2) (fun hp => by have := (hO p hp).1; have := h.lt; omega) (fun hp => by have := (hO b hp).1; have := h.own.lt; omega))).mono fun _ _ ⟨A, c, h1, h2, h3, _⟩ => ⟨A, c, h1, h2, h3⟩
theorem clients_non {w : World} {v : Value} (h : NonL w v) (now : Int) (live : Bool) :
    Calls Try.prog 28 #[v, .int .u64 now, .bool live] w fun e w' => e = .returned (.slice none 0 0) ∧ Below w.heap.size w w' :=
  (clients_runs (M := []) (by simp) (fun _ _ h => h.elim) (fun O W hb _ => rising_non (h.imp id (fun ⟨p, h1, h2⟩ => ⟨p, h1, below_old hb h2 (lt_of_block h2)⟩)))).mono fun _ _ ⟨_, _, _, _, h3, h4⟩ => ⟨h4 rfl, h3⟩
set_option maxRecDepth 100000 in
set_option maxHeartbeats 400000 in
theorem there_any {w : World} {p b : Nat} {M : Pl.Mks} (h : LeasesW w p b M) (now : Int) (_ : 0 ≤ now) :
    Calls Try.prog 23 #[.pointer (some ⟨p, 0, none⟩), .int .u64 now] w (RetC w (Pl.whichM true now M)) := by
  have HC := Lib.hid (clients_any h now true)
  clear h
  go_enter Try.func23, Try.ntmps23
  go_wp2_with fail
  refine HC.out.mono ?_
  rintro e w' ⟨A, c, rfl, h1, h2⟩
  have H := Lib.hid (And.intro h1 h2)
  clear h1 h2
  go_wp2_with fail
  go_ret
  exact ⟨A, c, rfl, H.out.1, H.out.2⟩
set_option maxRecDepth 100000 in
set_option maxHeartbeats 400000 in
theorem there_non0 {w : World} {v : Value} (h : NonL w v) (now : Int) :
    Calls Try.prog 23 #[v, .int .u64 now] w fun e w' => e = .returned (.slice none 0 0) ∧ Below w.heap.size w w' := by
  have HC := Lib.hid (clients_non h now true)
  clear h
  go_enter Try.func23, Try.ntmps23
  go_wp2_with fail
  refine HC.out.mono ?_
  rintro e w' ⟨rfl, h2⟩
  have H := Lib.hid h2
  clear h2
  go_wp2_with fail
  go_ret
  exact ⟨rfl, H.out⟩
end Go.Proofs.Ytjplchajopkpcaa
