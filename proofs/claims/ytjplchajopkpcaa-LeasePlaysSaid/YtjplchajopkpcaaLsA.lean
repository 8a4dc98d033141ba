/-
  Leases.All over the landed text (a range over rising). Conditions: none but the leases'.
-/
import Derived.Test.YtjplchajopkpcaaLsN
namespace Go.Proofs.Ytjplchajopkpcaa
open Go.RowKit Go.Maps
attribute [local go_sem] Oper.semAt_some

theorem infoLa : (Try.prog.info? 28).map (fun i => (i.zero, i.size, i.bytes)) = some (some (.agg #[.int .u32 0, .int .u64 0]), 2, 16) := by kernel_rfl
/-- leases told, in new memory -/
def RetLa (w : World) (M : Pl.Mks) (e : Ending) (w' : World) : Prop := ∃ A c, e = .returned (.slice A M.length c) ∧ Rws encLs w' w'.heap.size A M.length c M ∧ ((∀ a, A = some a → w.heap.size ≤ a.block) ∧ OwnR encLs 2 28 w' w.heap.size (.slice A M.length c) M) ∧ Below w.heap.size w w'
/-- what All keeps between two rounds -/
def AlI (w : World) (S : Nat) (pre : Pl.Mks) (W : World) : Prop := ∃ A c, W.heap[w.heap.size]? = some (.cells #[.slice A pre.length c] 24 (0, 0)) ∧ OwnR encLs 2 28 W S (.slice A pre.length c) pre ∧ Below w.heap.size w W ∧ (pre = [] → A = none ∧ c = 0)
theorem AlI.tn {w : World} {S : Nat} {pre : Pl.Mks} {W1 W2 : World} {T : Nat → Prop} (h : AlI w S pre W1) (ht : Tn T W1 W2) (h1 : ¬ T w.heap.size) (h2 : ∀ i, S ≤ i → ¬ T i) (h3 : ∀ i, T i → w.heap.size ≤ i) : AlI w S pre W2 := by
  obtain ⟨A, c, g1, g2, g3, g4⟩ := h
  exact ⟨A, c, ht.old g1 h1, g2.tn ht (fun g hg => h2 g (g2.lt g hg).1), ht.below g3 g3.size h3, g4⟩
/-- one lease in its box -/
def AlX (w : World) (v : Value) (S : Nat) (pre : Pl.Mks) (x : Int × Int) (a1 : Act) (W : World) : Prop := AlI w S pre W ∧ ∃ bx, S ≤ bx ∧ W.heap[bx]? = some (.cells #[.int .u32 x.1, .int .u64 x.2] 28 (0, 0)) ∧
  a1 = { tmps := #[v, undef, .slice none 0 0, .pointer (some ⟨w.heap.size, 0, none⟩), .pointer (some ⟨bx, 0, none⟩), v, .func (.func 30) #[v] #[], .agg #[.int .u32 x.1, .int .u64 x.2], undef, undef, undef, undef, undef], defers := [] }
set_option maxRecDepth 100000 in
set_option maxHeartbeats 2000000 in
theorem all_runs {w : World} {v : Value} {M : Pl.Mks} {Nx : Pl.Mks → Int × Int → Prop} (hM : M.length ≤ 1000) (hNx : ∀ pre x, Nx pre x → pre.length < M.length)
    (hr : ∀ (O : Nat → Prop) (W : World), Below w.heap.size w W → (∀ i, O i → w.heap.size ≤ i ∧ i < W.heap.size) → Sq.Runs Try.prog 30 (fun l => #[v] ++ #[.func (.yield l) #[] #[]] ++ #[]) (fun x : Int × Int => #[.agg #[.int .u32 x.1, .int .u64 x.2]]) Nx (fun xs => xs = M) O W) :
    Calls Try.prog 20 #[v] w (fun e w' => RetLa w M e w' ∧ (M = [] → e = .returned (.slice none 0 0))) := by
  refine (callsIn_wide (n := 9)).1 ?_
  refine callsIn_of_wp_marks Try.func20 rfl trivial ?_ rfl
  simp only [Try.ntmps20, List.size_toArray, List.length_cons, List.length_nil, Nat.reduceAdd, Nat.reduceSub, Array.replicate_succ, Array.replicate_zero, List.push_toArray, List.append_toArray, List.nil_append, List.cons_append]
  gi_wp2
  obtain ⟨w1, hw1⟩ : ∃ z, z = w.alloc (.cells #[.slice none 0 0] 24) := ⟨_, rfl⟩
  rw [← hw1]
  have hs1 : w1.heap.size = w.heap.size + 1 := by rw [hw1]; simp
  have hb1 : Below w.heap.size w w1 := by rw [hw1]; exact (Below.refl _ w).alloc (Nat.le_refl _) _
  have hbox : w1.heap[w.heap.size]? = some (.cells #[.slice none 0 0] 24 (0, 0)) := by rw [hw1]; exact heap_new rfl
  clear hw1
  refine Sq.wp_range (gf := 30) (la := #[v]) (lb := #[]) rfl (enters_of Try.func30 (by kernel_rfl) rfl)
    (O := fun i => i = w.heap.size)
    (fun W0 h0 hsz => hr _ W0 (hb1.trans (h0.mono (by omega))) (fun i hi => by rcases hi with h | h <;> omega))
    (fun i hi => by omega) (fun _ => rfl) (AlI w) (AlX w v)
    ?start ?keep ?keepA ?assign ?body ?done
  case start =>
    intro W1 h1 hsz
    exact ⟨none, 0, below_old h1 hbox (by omega), OwnR.nil_ _ _ _ _ _, hb1.trans (h1.mono (by omega)), fun _ => ⟨rfl, rfl⟩⟩
  case keep =>
    intro S pre W1 W2 hS h ht
    exact h.tn ht (by omega) (fun i hi => by omega) (fun i hi => by omega)
  case keepA =>
    rintro S pre x a1 W1 W2 hS ⟨h, bx, h1, h2, e⟩ ht
    exact ⟨h.tn ht (by omega) (fun i hi => by omega) (fun i hi => by omega), bx, h1, ht.old h2 (by omega), e⟩
  case assign =>
    rintro m l S pre ⟨x, u⟩ W hS hSW hi hx
    have ht : Tn (fun i => i = w.heap.size ∨ S ≤ i) W (W.alloc (.cells #[.int .u32 x, .int .u64 u] 28)) := (Tn.refl _ W).alloc _
    have hi2 : AlI w S pre (W.alloc (.cells #[.int .u32 x, .int .u64 u] 28)) := hi.tn (T := fun _ => False) (Tn.of _ ((Below.refl _ W).alloc (Nat.le_refl _) _)) (fun h => h) (fun _ _ h => h) (fun _ h => h.elim)
    gi_wp2
    exact ⟨⟨hi2, W.heap.size, hSW, heap_new rfl, rfl⟩, ht⟩
  case body =>
    rintro m l S pre ⟨x, u⟩ a1 W hS hSW ⟨⟨A, c, h1, h2, h3, _⟩, bx, hbx, hcx, rfl⟩ hx
    have hpl := hNx _ _ hx
    have hc := cell0 (r := []) h1
    have hx0 := cell0 (r := [.int .u64 u]) hcx
    have hx1 := cell1 (r := []) hcx
    have hsrc : Rws encLs (W.alloc (.cells #[.int .u32 x, .int .u64 u] 28)) (W.alloc (.cells #[.int .u32 x, .int .u64 u] 28)).heap.size (some ⟨W.heap.size, 0, none⟩) 1 1 [(x, u)] := ((OwnR.lit (e := 28) encLs_len W [(x, u)] (by simp [maxLen])).rws encLs_len).2
    gi_wp2_with (gi_at_builtin; refine wpListIn_append_rws encLs_len encLs_one Try.underlying24 infoLa rfl (by decide) _ rfl _ _ rfl S A pre.length c pre rfl (h2.alloc _) _ _ 1 1 [(x, u)] rfl hsrc (by unfold maxLen; omega) (by omega) (by simp; omega) ?_; intro A2 c2 w2 h4 hg4 hat4; have ht4 : Tn (fun i => S ≤ i) W w2 := ((Tn.refl (fun i => S ≤ i) W).alloc _).grown hg4 (fun k e => .inr (h2.lt k e).1); have hb4 := ht4.old h1 (by omega); have hc4 := cell0 (r := []) hb4; have hf4 := frozen_of_row w2 w.heap.size 0 _ _ hb4)
    have ht5 : Tn (fun i => i = w.heap.size) w2 (w2.setCell ⟨w.heap.size, 0, none⟩ (.slice A2 (pre.length + 1) c2)) := (Tn.refl (fun i => i = w.heap.size) w2).set_ (p := ⟨w.heap.size, 0, none⟩) (Or.inr rfl) _
    refine ⟨⟨A2, c2, by rw [List.length_append]; exact blk_set hb4 _, by rw [List.length_append]; exact h4.tn ht5 (fun g hg => by have := (h4.lt g hg).1; omega), ?_, fun h => by simp at h⟩, ?_⟩
    · exact ht5.below (ht4.below h3 h3.size (fun i hi => by omega)) (Nat.le_trans h3.size ht4.size) (fun i hi => by omega)
    · exact (ht4.more (fun b _ h => Or.inr h)).trans ht5 (fun b _ h => Or.inl h)
  case done =>
    rintro S xs W hS rfl ⟨A, c, h1, h2, h3, h9⟩ hK
    have hc := cell0 (r := []) h1
    gi_wp2
    have ht := Sq.tn_put (T := fun i => i = w1.heap.size) W (.deferred none) rfl
    have h5 := (h2.lower (base' := w.heap.size) (by omega)).tn ht (fun g hg => by have := (h2.lt g hg).1; omega)
    refine ⟨by simp, .inl ⟨_, _, rfl, run_takeDeferred hK, ?_⟩⟩
    refine ⟨_, results_tmp rfl _ _ _, ⟨A, c, rfl, (h5.rws encLs_len).2, ⟨fun a e => ?_, h5⟩, ht.below h3 h3.size (fun i hi => by omega)⟩, fun hm => by
      obtain ⟨rfl, rfl⟩ := h9 hm
      rw [hm]; rfl⟩
    obtain ⟨A', c', e1, _, e3⟩ := h5.shape encLs_len
    injection e1 with e2 _ _
    rw [e2] at e
    exact e3 a e
set_option maxRecDepth 100000 in
theorem all_la {w : World} {p b : Nat} {M : Pl.Mks} (h : LeasesW w p b M) : Calls Try.prog 20 #[.pointer (some ⟨p, 0, none⟩)] w (RetLa w M) :=
  (all_runs (by have := h.few; omega) (fun pre x hx => by
    obtain ⟨k, rfl, hk⟩ := hx
    have := (List.getElem?_eq_some_iff.1 hk).1
    rw [List.length_take]; omega) (fun O W hb hO => rising_runs (h.then_ hb) (by have := h.few; omega) (fun i hi => (hO i hi).2) (fun hp => by have := (hO p hp).1; have := h.lt; omega) (fun hp => by have := (hO b hp).1; have := h.own.lt; omega))).mono fun _ _ h => h.1
set_option maxRecDepth 100000 in
theorem all_non0 {w : World} {v : Value} (h : NonL w v) : Calls Try.prog 20 #[v] w fun e w' => e = .returned (.slice none 0 0) ∧ Below w.heap.size w w' :=
  (all_runs (M := []) (by simp) (fun _ _ h => h.elim) (fun O W hb _ => rising_non (h.imp id (fun ⟨p, h1, h2⟩ => ⟨p, h1, below_old hb h2 (lt_of_block h2)⟩)))).mono fun _ _ h => ⟨h.2 rfl, by
    obtain ⟨A, c, _, _, _, hb⟩ := h.1
    exact hb⟩
end Go.Proofs.Ytjplchajopkpcaa
