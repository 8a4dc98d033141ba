/-
  slices.AppendSeq, Collect, Sorted over maps.Keys of leases' map: the clients, rising. Conditions: at most seventeen leases.
-/
import Derived.Test.YtjplchajopkpcaaLsK
import Derived.Test.YtjplchajopkpcaaBaseH
import Derived.Test.YtjplchajopkpcaaSrK
namespace Go.Proofs.Ytjplchajopkpcaa
open Go.RowKit Go.Maps
attribute [local go_sem] Oper.semAt_some

theorem infoU : (Try.prog.info? 25).map (fun i => (i.zero, i.size, i.bytes)) = some (some (.int .u32 0), 1, 4) := by kernel_rfl
/-- what AppendSeq keeps between two rounds -/
def AsI (w : World) (S : Nat) (pre : List Int) (W : World) : Prop := ∃ A c, W.heap[w.heap.size]? = some (.cells #[.slice A pre.length c] 44 (0, 0)) ∧ OwnR encU 1 25 W S (.slice A pre.length c) pre ∧ Below w.heap.size w W
set_option maxRecDepth 100000 in
set_option maxHeartbeats 1000000 in
theorem appendSeq_any {w : World} {bx b : Nat} {M : Pl.Mks} (hbx : w.heap[bx]? = some (.cells #[.map (some b)] 61 (0, 0))) (hown : w.ownsMap Try.prog 25 (plainElem (H := Unit) Try.prog 26) b M.length (datL M))
    (hup : Pl.Rising M) (hM : M.length ≤ 1000) :
    Calls Try.prog 37 #[.slice none 0 0, .func (.func 36) #[] #[.pointer (some ⟨bx, 0, none⟩)]] w fun e w' => ∃ A c xs, e = .returned (.slice A xs.length c) ∧ KyE M xs ∧ OwnR encU 1 25 w' w.heap.size (.slice A xs.length c) xs ∧ Below w.heap.size w w' := by
  have hbw := hown.lt
  have hbxl := lt_of_block hbx
  refine (callsIn_wide (n := 9)).1 ?_
  refine callsIn_of_wp_marks Try.func37 rfl trivial ?_ rfl
  simp only [Try.ntmps37, List.size_toArray, List.length_cons, List.length_nil, Nat.reduceAdd, Nat.reduceSub, Array.replicate_succ, Array.replicate_zero, List.push_toArray, List.append_toArray, List.nil_append, List.cons_append]
  gi_wp2
  obtain ⟨w1, hw1⟩ : ∃ z, z = w.alloc (.cells #[.slice none 0 0] 44) := ⟨_, rfl⟩
  rw [← hw1]
  have hs1 : w1.heap.size = w.heap.size + 1 := by rw [hw1]; simp
  have hb1 : Below w.heap.size w w1 := by rw [hw1]; exact (Below.refl _ w).alloc (Nat.le_refl _) _
  have hbox : w1.heap[w.heap.size]? = some (.cells #[.slice none 0 0] 44 (0, 0)) := by rw [hw1]; exact heap_new rfl
  clear hw1
  refine Sq.wp_range (gf := 36) (la := #[]) (lb := #[.pointer (some ⟨bx, 0, none⟩)]) rfl (enters_of Try.func36 (by kernel_rfl) rfl)
    (O := fun i => i = w.heap.size)
    (fun W0 h0 hsz => keys_runs (below_old h0 (below_old hb1 hbx hbxl) (by omega)) (own_tn hown (Tn.of (fun _ => False) (hb1.trans (h0.mono (by omega)))) (fun h => h)) hup (fun i hi => by rcases hi with h | h <;> omega) (fun hi => by rcases hi with h | h <;> omega))
    (fun i hi => by omega) (fun _ => rfl) (AsI w) (fun S pre x a1 W => AsI w S pre W ∧ a1 = { tmps := #[.slice none 0 0, .func (.func 36) #[] #[.pointer (some ⟨bx, 0, none⟩)], .pointer (some ⟨w.heap.size, 0, none⟩), undef, .slice none 0 0, .int .u32 x, .func (.func 36) #[] #[.pointer (some ⟨bx, 0, none⟩)], .int .u32 x, undef, undef, undef, undef, undef], defers := [] })
    ?start ?keep ?keepA ?assign ?body ?done
  case start =>
    intro W1 h1 hsz
    exact ⟨none, 0, below_old h1 hbox (by omega), OwnR.nil_ _ _ _ _ _, hb1.trans (h1.mono (by omega))⟩
  case keep =>
    rintro S pre W1 W2 hS ⟨A, c, h1, h2, h3⟩ ht
    exact ⟨A, c, ht.old h1 (by omega), h2.tn ht (fun g hg => by have := (h2.lt g hg).1; omega), ht.below h3 h3.size (fun i hi => by omega)⟩
  case keepA =>
    rintro S pre x a1 W1 W2 hS ⟨⟨A, c, h1, h2, h3⟩, e⟩ ht
    exact ⟨⟨A, c, ht.old h1 (by omega), h2.tn ht (fun g hg => by have := (h2.lt g hg).1; omega), ht.below h3 h3.size (fun i hi => by omega)⟩, e⟩
  case assign =>
    intro m l S pre x W hS hSW hi hx
    gi_wp2
    exact ⟨⟨hi, trivial⟩, Tn.refl _ _⟩
  case body =>
    rintro m l S pre x a1 W hS hSW ⟨⟨A, c, h1, h2, h3⟩, rfl⟩ hx
    have hpl : pre.length < M.length := hx.2
    have hc := cell0 (r := []) h1
    have hf := frozen_of_row W w.heap.size 0 _ _ h1
    have hsrc : Rws encU (W.alloc (.cells #[.int .u32 x] 25)) (W.alloc (.cells #[.int .u32 x] 25)).heap.size (some ⟨W.heap.size, 0, none⟩) 1 1 [x] := ((OwnR.lit (e := 25) encU_len W [x] (by simp [maxLen])).rws encU_len).2
    gi_wp2_with (gi_at_builtin; refine wpListIn_append_rws encU_len encU_one Try.underlying44 infoU rfl (by decide) _ rfl _ _ rfl S A pre.length c pre rfl (h2.alloc _) _ _ 1 1 [x] rfl hsrc (by unfold maxLen; omega) (by omega) (by simp; omega) ?_; intro A2 c2 w2 h4 hg4 hat4; have ht4 : Tn (fun i => S ≤ i) W w2 := ((Tn.refl (fun i => S ≤ i) W).alloc _).grown hg4 (fun k e => .inr (h2.lt k e).1); have hb4 := ht4.old h1 (by omega); have hc4 := cell0 (r := []) hb4; have hf4 := frozen_of_row w2 w.heap.size 0 _ _ hb4)
    have ht5 : Tn (fun i => i = w.heap.size) w2 (w2.setCell ⟨w.heap.size, 0, none⟩ (.slice A2 (pre.length + 1) c2)) := (Tn.refl (fun i => i = w.heap.size) w2).set_ (p := ⟨w.heap.size, 0, none⟩) (Or.inr rfl) _
    refine ⟨⟨A2, c2, by rw [List.length_append]; exact blk_set hb4 _, by rw [List.length_append]; exact h4.tn ht5 (fun g hg => by have := (h4.lt g hg).1; omega), ?_⟩, ?_⟩
    · exact ht5.below (ht4.below h3 h3.size (fun i hi => by omega)) (Nat.le_trans h3.size ht4.size) (fun i hi => by omega)
    · exact (ht4.more (fun b _ h => Or.inr h)).trans ht5 (fun b _ h => Or.inl h)
  case done =>
    rintro S xs W hS hE ⟨A, c, h1, h2, h3⟩ hK
    have hc := cell0 (r := []) h1
    gi_wp2
    have ht := Sq.tn_put (T := fun i => i = w1.heap.size) W (.deferred none) rfl
    refine ⟨by simp, .inl ⟨_, _, rfl, run_takeDeferred hK, ?_⟩⟩
    exact ⟨_, results_tmp rfl _ _ _, A, c, xs, rfl, hE, (h2.lower (by omega)).tn ht (fun g hg => by have := (h2.lt g hg).1; omega), ht.below h3 h3.size (fun i hi => by omega)⟩
/-- the clients, rising, in new memory -/
def RetKy (w : World) (M : Pl.Mks) (e : Ending) (w' : World) : Prop := ∃ A c, e = .returned (.slice A M.length c) ∧ OwnR encU 1 25 w' w.heap.size (.slice A M.length c) (M.map Prod.fst) ∧ Below w.heap.size w w'
theorem keys_sorted {M : Pl.Mks} (hup : Pl.Rising M) {xs ys : List Int} (hE : KyE M xs) (hp : ys.Perm xs) (hs : ys.Pairwise (· ≤ ·)) : ys = M.map Prod.fst := by
  refine List.Perm.eq_of_pairwise (le := fun a b : Int => a ≤ b) (fun a b _ _ h1 h2 => Int.le_antisymm h1 h2) hs ?_ (hp.trans hE)
  rw [List.pairwise_map]
  exact hup.imp (fun h => Int.le_of_lt h)
set_option maxRecDepth 100000 in
set_option maxHeartbeats 1000000 in
theorem keys_call (w : World) (b : Nat) :
    Calls Try.prog 33 #[.map (some b)] w fun e w' => e = .returned (.func (.func 36) #[] #[.pointer (some ⟨w.heap.size, 0, none⟩)]) ∧ w' = w.alloc (.cells #[.map (some b)] 61) := by
  go_enter Try.func33, Try.ntmps33
  go_wp2_with fail
  go_ret
  exact ⟨rfl, rfl⟩
set_option maxRecDepth 100000 in
set_option maxHeartbeats 1000000 in
theorem collect_any {w : World} {bx b : Nat} {M : Pl.Mks} (hbx : w.heap[bx]? = some (.cells #[.map (some b)] 61 (0, 0))) (hown : w.ownsMap Try.prog 25 (plainElem (H := Unit) Try.prog 26) b M.length (datL M))
    (hup : Pl.Rising M) (hM : M.length ≤ 1000) :
    Calls Try.prog 34 #[.func (.func 36) #[] #[.pointer (some ⟨bx, 0, none⟩)]] w fun e w' => ∃ A c xs, e = .returned (.slice A xs.length c) ∧ KyE M xs ∧ OwnR encU 1 25 w' w.heap.size (.slice A xs.length c) xs ∧ Below w.heap.size w w' := by
  have HC := Lib.hid (appendSeq_any hbx hown hup hM)
  clear hbx hown
  go_enter Try.func34, Try.ntmps34
  go_wp2_with fail
  refine HC.out.mono ?_
  rintro e w' ⟨A, c, xs, rfl, h1, h2, h3⟩
  have H1 := Lib.hid (And.intro h1 (And.intro h2 h3))
  clear h1 h2 h3
  go_wp2_with fail
  go_ret
  exact ⟨A, c, xs, rfl, H1.out.1, H1.out.2.1, H1.out.2.2⟩
set_option maxRecDepth 100000 in
set_option maxHeartbeats 1000000 in
theorem sorted_any {w : World} {bx b : Nat} {M : Pl.Mks} (hbx : w.heap[bx]? = some (.cells #[.map (some b)] 61 (0, 0))) (hown : w.ownsMap Try.prog 25 (plainElem (H := Unit) Try.prog 26) b M.length (datL M))
    (hup : Pl.Rising M) (hM : M.length ≤ 17) :
    Calls Try.prog 32 #[.func (.func 36) #[] #[.pointer (some ⟨bx, 0, none⟩)]] w (RetKy w M) := by
  have HC := Lib.hid (collect_any hbx hown hup (by omega))
  have HM := Lib.hid hM
  have HU := Lib.hid hup
  clear hbx hown hup hM
  go_enter Try.func32, Try.ntmps32
  go_wp2_with fail
  refine HC.out.mono ?_
  rintro e w1 ⟨A, c, xs, rfl, h1, h2, h3⟩
  have hlen : xs.length = M.length := by have := h1.length_eq; simpa using this
  have HS := Lib.hid (sort_u h2 (by rw [hlen]; exact HM.out))
  have H1 := Lib.hid (And.intro h1 (And.intro h2 (And.intro h3 hlen)))
  clear h1 h2 h3 hlen HC
  go_wp2_with fail
  refine HS.out.mono ?_
  rintro e w2 ⟨rfl, ys, hp, hs, ho, ht⟩
  have H2 := Lib.hid (And.intro hp (And.intro hs (And.intro ho ht)))
  clear hp hs ho ht HS
  go_wp2_with fail
  go_ret
  obtain ⟨h1, h2, h3, hl⟩ := H1.out
  obtain ⟨hp, hs, ho, ht⟩ := H2.out
  have e1 := keys_sorted HU.out h1 hp hs
  rw [e1, hl] at ho
  refine ⟨A, c, by rw [hl]; rfl, ho, ht.below h3 h3.size (fun i hi => ?_)⟩
  obtain ⟨a, rfl, rfl⟩ := hi
  exact (h2.lt a.block rfl).1
end Go.Proofs.Ytjplchajopkpcaa
