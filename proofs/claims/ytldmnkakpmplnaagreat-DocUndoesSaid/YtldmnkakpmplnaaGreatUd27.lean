/-
  slices.Sort at uint32. Conditions: at most seventeen.
  slices.AppendSeq, Collect, Sorted over maps.Keys of leases' map: the clients, rising. Conditions: at most seventeen leases.
  Leases.rising, ranged over: the leases come, by rising clients. Conditions: at most seventeen leases.
  Leases.All over the landed text (a range over rising). Conditions: none but the leases'.
  Leases.clients over the landed text: those who are there, or are not, rising. Conditions: none but the leases'.
-/
import Derived.Test.YtldmnkakpmplnaaGreatUd26
import Derived.Test.YtldmnkakpmplnaaGreatUd22
set_option maxRecDepth 100000
namespace Go.Proofs.YtldmnkakpmplnaaGreat.Ls
open Go.RowKit Go.Sort
set_option maxHeartbeats 1000000 in
theorem ins_0 (A : Option Addr) (c : Nat) (w : World) : Calls Tryz.prog 264 #[.slice A 0 c, .int .i64 0, .int .i64 0] w fun e w' => e = .returned (.tuple #[]) ∧ w' = w := by
  go_enter Tryz.func264, Tryz.ntmps264
  go_wp2_with fail
  go_loopw [6] (fun v wr => v = .int .i64 1 ∧ wr = w) (fun v _ => 0)
  case atStart => exact ⟨rfl, rfl⟩
  case round =>
    obtain ⟨rfl, rfl⟩ := hrel
    go_wp2_with fail
    exact ⟨rfl, _, results_none (by kernel_rfl) _ _ _, rfl, rfl⟩
set_option maxHeartbeats 1000000 in
theorem pdq_0 (A : Option Addr) (c : Nat) (lim : Int) (w : World) : Calls Tryz.prog 262 #[.slice A 0 c, .int .i64 0, .int .i64 0, .int .i64 lim] w fun e w' => e = .returned (.tuple #[]) ∧ w' = w := by
  have HI := fun w => Lib.hid (ins_0 A c w)
  go_enter Tryz.func262, Tryz.ntmps262
  go_wp2_with fail
  go_loopw [1, 2, 3, 8, 9] (fun va vb vl v8 v9 wr => va = .int .i64 0 ∧ vb = .int .i64 0 ∧ wr = w) (fun va vb _ _ _ _ => 0)
  case atStart => exact ⟨rfl, rfl, rfl⟩
  case round =>
    obtain ⟨rfl, rfl, rfl⟩ := hrel
    go_wp2_with fail
    refine (HI _).out.mono ?_
    rintro e w2 ⟨rfl, rfl⟩
    go_wp2_with fail
    exact ⟨rfl, _, results_none (by kernel_rfl) _ _ _, rfl, rfl⟩
theorem bitLen_17 : ∀ n, n < 18 → n ≤ Lib.bitLen n + 12 ∧ Lib.bitLen n < 100 := by decide
def RetSo (w : World) (base : Nat) (A : Option Addr) (n c : Nat) (l : List Int) (e : Ending) (w' : World) : Prop :=
  e = .returned (.tuple #[]) ∧ ∃ l', l'.Perm l ∧ l'.Pairwise (· ≤ ·) ∧ OwnR encU 1 28 w' base (.slice A n c) l' ∧ Tn (fun i => ∃ a, A = some a ∧ i = a.block) w w'
theorem sorted_list {d d' : Array Int} (hP : PermIn 0 d.size d d') (hS : SortedIn ltInt 0 d.size d') : d'.toList.Perm d.toList ∧ d'.toList.Pairwise (· ≤ ·) := by
  refine ⟨?_, ?_⟩
  · have := hP.2.2
    simp at this
    rwa [List.take_of_length_le (by simp [hP.1])] at this
  · rw [List.pairwise_iff_getElem]
    intro i j hi hj hij
    have hj' : j < d.size := by rw [← hP.1]; simpa using hj
    have := hS i j (Nat.zero_le _) hij hj'
    have e1 : d'[i]! = d'[i]'(by simpa using hi) := by rw [getElem!_pos d' i (by simpa using hi)]
    have e2 : d'[j]! = d'[j]'(by simpa using hj) := by rw [getElem!_pos d' j (by simpa using hj)]
    rw [e1, e2] at this
    unfold ltInt at this
    simpa using this
set_option maxHeartbeats 1000000 in
theorem sort_u {w : World} {base n c : Nat} {A : Option Addr} {l : List Int} (h : OwnR encU 1 28 w base (.slice A n c) l) (hn : n ≤ 17) :
    Calls Tryz.prog 259 #[.slice A n c] w (RetSo w base A n c l) := by
  have hl := (h.rws encU_len).1
  have HBL : ∀ w, Hid (Calls Tryz.prog 263 #[.int .u64 (n : Int)] w fun e w' => e = .returned (.int .i64 (Lib.bitLen n)) ∧ w' = w) := fun w => Lib.hid (by
    have := Tryz.bits_Len (n : Int) w (by omega) (by omega)
    simpa using this)
  have hbn := bitLen_17 n (by omega)
  obtain ⟨lim, hlim⟩ : ∃ q, q = Lib.bitLen n := ⟨_, rfl⟩
  rw [← hlim] at HBL hbn
  have HW := Lib.hid (show IntKind.u64.wrap (n : Int) = (n : Int) by rw [IntKind.wrap_u64]; omega)
  rcases Nat.eq_zero_or_pos n with h0 | h0
  · subst h0
    have HP := fun w => Lib.hid (pdq_0 A c (lim : Int) w)
    have HH := Lib.hid h
    have hnil : l = [] := List.eq_nil_of_length_eq_zero hl.symm
    have HNI := Lib.hid hnil
    clear h hn hl hbn hlim hnil
    go_enter Tryz.func259, Tryz.ntmps259
    have hw := HW.out
    go_wp2_with fail
    refine (HBL _).out.mono ?_
    rintro e w2 ⟨rfl, rfl⟩
    go_wp2_with fail
    refine (HP _).out.mono ?_
    rintro e w3 ⟨rfl, rfl⟩
    go_wp2_with fail
    exact ⟨rfl, _, results_none (by kernel_rfl) _ _ _, rfl, l, List.Perm.refl _, by rw [HNI.out]; exact List.Pairwise.nil, HH.out, Tn.refl _ _⟩
  · obtain ⟨g, rfl, hb, hg⟩ := h.pos_ h0
    have hs : Sr w base g n c l.toArray w := ⟨by simpa using h, Tn.refl _ _⟩
    have hsz : l.toArray.size = n := hs.size
    have HP := Lib.hid (pdq_u (show n < 50 by omega) (n + 1) w 0 n lim l.toArray hs (Nat.le_refl _) (by omega) (by omega) (Nat.le_refl _) (by omega) hbn.2 (Or.inl rfl))
    have hq := pdq_sorts ltInt swo_ltInt l.toArray 0 n lim true true (Nat.zero_le _) (by rw [hsz]; exact Nat.le_refl _) (Or.inl rfl)
    rw [← hsz] at hq
    have HL := Lib.hid (sorted_list hq.1 hq.2)
    rw [hsz] at HL
    clear h hn hl hbn hlim hs hsz hq h0 hb hg
    go_enter Tryz.func259, Tryz.ntmps259
    have hw := HW.out
    go_wp2_with fail
    refine (HBL _).out.mono ?_
    rintro e w2 ⟨rfl, rfl⟩
    go_wp2_with fail
    refine HP.out.mono ?_
    rintro e w3 ⟨rfl, hs3⟩
    have HS3 := Lib.hid hs3
    clear hs3
    go_wp2_with fail
    exact ⟨rfl, _, results_none (by kernel_rfl) _ _ _, rfl, _, HL.out.1, HL.out.2, HS3.out.own, HS3.out.tn.more (fun b _ e => ⟨_, rfl, e⟩)⟩
end Go.Proofs.YtldmnkakpmplnaaGreat.Ls
namespace Go.Proofs.YtldmnkakpmplnaaGreat.Ls
open Go.RowKit Go.Maps
attribute [local go_sem] Oper.semAt_some
theorem infoU : (Tryz.prog.info? 28).map (fun i => (i.zero, i.size, i.bytes)) = some (some (.int .u32 0), 1, 4) := by kernel_rfl
def AsI (w : World) (S : Nat) (pre : List Int) (W : World) : Prop := ∃ A c, W.heap[w.heap.size]? = some (.cells #[.slice A pre.length c] 86 (0, 0)) ∧ OwnR encU 1 28 W S (.slice A pre.length c) pre ∧ Below w.heap.size w W
set_option maxHeartbeats 1000000 in
theorem appendSeq_any {w : World} {bx b : Nat} {M : Pl.Mks} (hbx : w.heap[bx]? = some (.cells #[.map (some b)] 178 (0, 0))) (hown : w.ownsMap Tryz.prog 28 (plainElem (H := Unit) Tryz.prog 27) b M.length (datL M))
    (hup : Pl.Rising M) (hM : M.length ≤ 1000) :
    Calls Tryz.prog 261 #[.slice none 0 0, .func (.func 260) #[] #[.pointer (some ⟨bx, 0, none⟩)]] w fun e w' => ∃ A c xs, e = .returned (.slice A xs.length c) ∧ KyE M xs ∧ OwnR encU 1 28 w' w.heap.size (.slice A xs.length c) xs ∧ Below w.heap.size w w' := by
  have hbw := hown.lt
  have hbxl := lt_of_block hbx
  refine (callsIn_wide (n := 9)).1 ?_
  refine callsIn_of_wp_marks Tryz.func261 rfl trivial ?_ rfl
  simp only [Tryz.ntmps261, List.size_toArray, List.length_cons, List.length_nil, Nat.reduceAdd, Nat.reduceSub, Array.replicate_succ, Array.replicate_zero, List.push_toArray, List.append_toArray, List.nil_append, List.cons_append]
  gi_wp2
  obtain ⟨w1, hw1⟩ : ∃ z, z = w.alloc (.cells #[.slice none 0 0] 86) := ⟨_, rfl⟩
  rw [← hw1]
  have hs1 : w1.heap.size = w.heap.size + 1 := by rw [hw1]; simp
  have hb1 : Below w.heap.size w w1 := by rw [hw1]; exact (Below.refl _ w).alloc (Nat.le_refl _) _
  have hbox : w1.heap[w.heap.size]? = some (.cells #[.slice none 0 0] 86 (0, 0)) := by rw [hw1]; exact heap_new rfl
  clear hw1
  refine Sq.wp_range (gf := 260) (la := #[]) (lb := #[.pointer (some ⟨bx, 0, none⟩)]) rfl (enters_of Tryz.func260 (by kernel_rfl) rfl)
    (O := fun i => i = w.heap.size)
    (fun W0 h0 hsz => keys_runs (below_old h0 (below_old hb1 hbx hbxl) (by omega)) (own_tn hown (Tn.of (fun _ => False) (hb1.trans (h0.mono (by omega)))) (fun h => h)) hup (fun i hi => by rcases hi with h | h <;> omega) (fun hi => by rcases hi with h | h <;> omega))
    (fun i hi => by omega) (fun _ => rfl) (AsI w) (fun S pre x a1 W => AsI w S pre W ∧ a1 = { tmps := #[.slice none 0 0, .func (.func 260) #[] #[.pointer (some ⟨bx, 0, none⟩)], .pointer (some ⟨w.heap.size, 0, none⟩), undef, .slice none 0 0, .int .u32 x, .func (.func 260) #[] #[.pointer (some ⟨bx, 0, none⟩)], .int .u32 x, undef, undef, undef, undef, undef], defers := [] })
    ?start ?keep ?keepA ?assign ?body ?done
  case start =>
    intro W1 h1 hsz
    exact ⟨none, 0, below_old h1 hbox (by omega), OwnR.nil_ _ _ _ _ _, hb1.trans (h1.mono (by omega))⟩
  case keep =>
    rintro S pre W1 W2 hS ⟨A, c, h1, h2, h3⟩ ht
    exact ⟨A, c, ht.old h1 (by omega), h2.tn ht (fun g hg => by have := (h2.lt g hg).1; omega), ht.below h3 h3.size (fun i hi => by omega)⟩
  case keepA =>
    rintro S pre x a1 W1 W2 hS ⟨⟨A, c, h1, h2, h3⟩, e⟩ ht
    exact ⟨⟨A, c, ht.old h1 (by omega), h2.tn ht (fun g hg => by have := (h2.lt g hg).1; omega), ht.below h3 h3.size (fun i hi => by omega)⟩, e⟩
  case assign =>
    intro m l S pre x W hS hSW hi hx
    gi_wp2
    exact ⟨⟨hi, trivial⟩, Tn.refl _ _⟩
  case body =>
    rintro m l S pre x a1 W hS hSW ⟨⟨A, c, h1, h2, h3⟩, rfl⟩ hx
    have hpl : pre.length < M.length := hx.2
    have hc := cell0 (r := []) h1
    have hf := frozen_of_row W w.heap.size 0 _ _ h1
    have hsrc : Rws encU (W.alloc (.cells #[.int .u32 x] 28)) (W.alloc (.cells #[.int .u32 x] 28)).heap.size (some ⟨W.heap.size, 0, none⟩) 1 1 [x] := ((OwnR.lit (e := 28) encU_len W [x] (by simp [maxLen])).rws encU_len).2
    gi_wp2_with (gi_at_builtin; refine wpListIn_append_rws encU_len encU_one Tryz.underlying86 infoU rfl (by decide) _ rfl _ _ rfl S A pre.length c pre rfl (h2.alloc _) _ _ 1 1 [x] rfl hsrc (by unfold maxLen; omega) (by omega) (by simp; omega) ?_; intro A2 c2 w2 h4 hg4 hat4; have ht4 : Tn (fun i => S ≤ i) W w2 := ((Tn.refl (fun i => S ≤ i) W).alloc _).grown hg4 (fun k e => .inr (h2.lt k e).1); have hb4 := ht4.old h1 (by omega); have hc4 := cell0 (r := []) hb4; have hf4 := frozen_of_row w2 w.heap.size 0 _ _ hb4)
    have ht5 : Tn (fun i => i = w.heap.size) w2 (w2.setCell ⟨w.heap.size, 0, none⟩ (.slice A2 (pre.length + 1) c2)) := (Tn.refl (fun i => i = w.heap.size) w2).set_ (p := ⟨w.heap.size, 0, none⟩) (Or.inr rfl) _
    refine ⟨⟨A2, c2, by rw [List.length_append]; exact blk_set hb4 _, by rw [List.length_append]; exact h4.tn ht5 (fun g hg => by have := (h4.lt g hg).1; omega), ?_⟩, ?_⟩
    · exact ht5.below (ht4.below h3 h3.size (fun i hi => by omega)) (Nat.le_trans h3.size ht4.size) (fun i hi => by omega)
    · exact (ht4.more (fun b _ h => Or.inr h)).trans ht5 (fun b _ h => Or.inl h)
  case done =>
    rintro S xs W hS hE ⟨A, c, h1, h2, h3⟩ hK
    have hc := cell0 (r := []) h1
    gi_wp2
    have ht := Sq.tn_put (T := fun i => i = w1.heap.size) W (.deferred none) rfl
    refine ⟨by simp, .inl ⟨_, _, rfl, run_takeDeferred hK, ?_⟩⟩
    exact ⟨_, results_tmp rfl _ _ _, A, c, xs, rfl, hE, (h2.lower (by omega)).tn ht (fun g hg => by have := (h2.lt g hg).1; omega), ht.below h3 h3.size (fun i hi => by omega)⟩
def RetKy (w : World) (M : Pl.Mks) (e : Ending) (w' : World) : Prop := ∃ A c, e = .returned (.slice A M.length c) ∧ OwnR encU 1 28 w' w.heap.size (.slice A M.length c) (M.map Prod.fst) ∧ Below w.heap.size w w'
theorem keys_sorted {M : Pl.Mks} (hup : Pl.Rising M) {xs ys : List Int} (hE : KyE M xs) (hp : ys.Perm xs) (hs : ys.Pairwise (· ≤ ·)) : ys = M.map Prod.fst := by
  refine List.Perm.eq_of_pairwise (le := fun a b : Int => a ≤ b) (fun a b _ _ h1 h2 => Int.le_antisymm h1 h2) hs ?_ (hp.trans hE)
  rw [List.pairwise_map]
  exact hup.imp (fun h => Int.le_of_lt h)
set_option maxHeartbeats 1000000 in
theorem keys_call (w : World) (b : Nat) :
    Calls Tryz.prog 248 #[.map (some b)] w fun e w' => e = .returned (.func (.func 260) #[] #[.pointer (some ⟨w.heap.size, 0, none⟩)]) ∧ w' = w.alloc (.cells #[.map (some b)] 178) := by
  go_enter Tryz.func248, Tryz.ntmps248
  go_wp2_with fail
  go_ret
  exact ⟨rfl, rfl⟩
set_option maxHeartbeats 1000000 in
theorem collect_any {w : World} {bx b : Nat} {M : Pl.Mks} (hbx : w.heap[bx]? = some (.cells #[.map (some b)] 178 (0, 0))) (hown : w.ownsMap Tryz.prog 28 (plainElem (H := Unit) Tryz.prog 27) b M.length (datL M))
    (hup : Pl.Rising M) (hM : M.length ≤ 1000) :
    Calls Tryz.prog 258 #[.func (.func 260) #[] #[.pointer (some ⟨bx, 0, none⟩)]] w fun e w' => ∃ A c xs, e = .returned (.slice A xs.length c) ∧ KyE M xs ∧ OwnR encU 1 28 w' w.heap.size (.slice A xs.length c) xs ∧ Below w.heap.size w w' := by
  have HC := Lib.hid (appendSeq_any hbx hown hup hM)
  clear hbx hown
  go_enter Tryz.func258, Tryz.ntmps258
  go_wp2_with fail
  refine HC.out.mono ?_
  rintro e w' ⟨A, c, xs, rfl, h1, h2, h3⟩
  have H1 := Lib.hid (And.intro h1 (And.intro h2 h3))
  clear h1 h2 h3
  go_wp2_with fail
  go_ret
  exact ⟨A, c, xs, rfl, H1.out.1, H1.out.2.1, H1.out.2.2⟩
set_option maxHeartbeats 1000000 in
theorem sorted_any {w : World} {bx b : Nat} {M : Pl.Mks} (hbx : w.heap[bx]? = some (.cells #[.map (some b)] 178 (0, 0))) (hown : w.ownsMap Tryz.prog 28 (plainElem (H := Unit) Tryz.prog 27) b M.length (datL M))
    (hup : Pl.Rising M) (hM : M.length ≤ 17) :
    Calls Tryz.prog 247 #[.func (.func 260) #[] #[.pointer (some ⟨bx, 0, none⟩)]] w (RetKy w M) := by
  have HC := Lib.hid (collect_any hbx hown hup (by omega))
  have HM := Lib.hid hM
  have HU := Lib.hid hup
  clear hbx hown hup hM
  go_enter Tryz.func247, Tryz.ntmps247
  go_wp2_with fail
  refine HC.out.mono ?_
  rintro e w1 ⟨A, c, xs, rfl, h1, h2, h3⟩
  have hlen : xs.length = M.length := by have := h1.length_eq; simpa using this
  have HS := Lib.hid (sort_u h2 (by rw [hlen]; exact HM.out))
  have H1 := Lib.hid (And.intro h1 (And.intro h2 (And.intro h3 hlen)))
  clear h1 h2 h3 hlen HC
  go_wp2_with fail
  refine HS.out.mono ?_
  rintro e w2 ⟨rfl, ys, hp, hs, ho, ht⟩
  have H2 := Lib.hid (And.intro hp (And.intro hs (And.intro ho ht)))
  clear hp hs ho ht HS
  go_wp2_with fail
  go_ret
  obtain ⟨h1, h2, h3, hl⟩ := H1.out
  obtain ⟨hp, hs, ho, ht⟩ := H2.out
  have e1 := keys_sorted HU.out h1 hp hs
  rw [e1, hl] at ho
  refine ⟨A, c, by rw [hl]; rfl, ho, ht.below h3 h3.size (fun i hi => ?_)⟩
  obtain ⟨a, rfl, rfl⟩ := hi
  exact (h2.lt a.block rfl).1
end Go.Proofs.YtldmnkakpmplnaaGreat.Ls
namespace Go.Proofs.YtldmnkakpmplnaaGreat.Ls
open Go.RowKit Go.Maps
attribute [local go_sem] Oper.semAt_some
def RsN (M : Pl.Mks) (pre : Pl.Mks) (x : Int × Int) : Prop := ∃ k, pre = M.take k ∧ M[k]? = some x
set_option maxHeartbeats 2000000 in
theorem rising_runs {W : World} {p b : Nat} {M : Pl.Mks} {O : Nat → Prop} (h : LeasesW W p b M) (hM : M.length ≤ 17) (hO : ∀ i, O i → i < W.heap.size) (hOp : ¬ O p) (hOb : ¬ O b) :
    Sq.Runs Tryz.prog 227 (fun l => #[.pointer (some ⟨p, 0, none⟩)] ++ #[.func (.yield l) #[] #[]] ++ #[]) (fun x : Int × Int => #[.agg #[.int .u32 x.1, .int .u64 x.2]]) (RsN M) (fun xs => xs = M) O W := by
  intro n l J hJ0 hJs hY
  have HN := Lib.hid (none_leases h)
  have HH := Lib.hid h
  have c0 := h.cell
  have HJ0 := Lib.hid hJ0
  have HY := Lib.hid hY
  clear h hJ0 hJs hY
  show CallsIn Fence.wide n Tryz.prog 227 #[.pointer (some ⟨p, 0, none⟩), .func (.yield l) #[] #[]] W _
  refine callsIn_of_wp Tryz.func227 rfl trivial ?_ rfl
  simp only [Tryz.ntmps227, List.size_toArray, List.length_cons, List.length_nil, Nat.reduceAdd, Nat.reduceSub, Array.replicate_succ, Array.replicate_zero, List.push_toArray, List.append_toArray, List.nil_append, List.cons_append]
  gi_wp2_with fail
  refine ⟨trivial, (fun h => by cases h), (callsIn_wide.2 HN.out).mono ?_⟩
  rintro e w1 ⟨rfl, hw⟩
  rw [hw]
  clear hw w1
  gi_wp2_with fail
  refine ⟨trivial, (fun h => by cases h), (callsIn_wide.2 (keys_call W b)).mono ?_⟩
  rintro e w2 ⟨rfl, hw2⟩
  have hb2 : Below W.heap.size W w2 := by rw [hw2]; exact (Below.refl _ W).alloc (Nat.le_refl _) _
  have hbx2 : w2.heap[W.heap.size]? = some (.cells #[.map (some b)] 178 (0, 0)) := by rw [hw2]; exact heap_new rfl
  have HSO := Lib.hid (sorted_any hbx2 (HH.out.then_ hb2).own HH.out.ok.up hM)
  have HB2 := Lib.hid hb2
  clear hw2 hb2 hbx2 HN c0
  gi_wp2_with fail
  refine ⟨trivial, (fun h => by cases h), (callsIn_wide.2 HSO.out).mono ?_⟩
  rintro e w3 ⟨A, c, rfl, ho3, hb3⟩
  have HO3 := Lib.hid (ho3.lower HB2.out.size)
  have HB3 := Lib.hid (HB2.out.trans (hb3.mono HB2.out.size))
  have HL3 := Lib.hid (HH.out.then_ HB3.out)
  have hgS : ∀ g, Value.ownBlock (.slice A M.length c) = some g → W.heap.size ≤ g ∧ g < w3.heap.size := fun g hg => by
    have := ho3.lt g hg
    have := HB2.out.size
    omega
  have HGS := Lib.hid hgS
  have HJ := Lib.hid (HJ0.out w3 HB3.out)
  obtain ⟨n0, hn0⟩ : ∃ q, q = M.length := ⟨_, rfl⟩
  have HNN := Lib.hid hn0
  obtain ⟨S, hS⟩ : ∃ S, S = w3.heap.size := ⟨_, rfl⟩
  rw [← hS] at HJ HGS
  have HS := Lib.hid (show W.heap.size ≤ S ∧ S = w3.heap.size from ⟨by rw [hS]; exact HB3.out.size, hS⟩)
  rw [← hn0]
  have hn9 : n0 < 1000000 := by omega
  clear ho3 hb3 hgS hn0 hS HSO HB2 HJ0
  gi_wp2_with fail
  gi_loopw [15] (fun v wr => ∃ k : Nat, v = .int .i64 (k : Int) ∧ k ≤ n0 ∧ LeasesW wr p b M ∧ OwnR encU 1 28 wr W.heap.size (.slice A n0 c) (M.map Prod.fst) ∧ J S (M.take k) wr ∧ S ≤ wr.heap.size) (fun v _ => n0 - (intOf v).toNat)
  case atStart => exact ⟨0, rfl, Nat.zero_le _, HL3.out, by rw [HNN.out]; exact HO3.out, by rw [List.take_zero]; exact HJ.out, Nat.le_of_eq HS.out.2⟩
  case round =>
    obtain ⟨k, rfl, hk, hl, ho, hj, hsz⟩ := hrel
    have HLW := Lib.hid hl
    have HO := Lib.hid ho
    have HJK := Lib.hid hj
    have HSZ := Lib.hid hsz
    clear hl ho hj hsz
    by_cases hlt : k < n0
    · have z1 : decide ((k : Int) < (n0 : Int)) = true := decide_eq_true (by omega)
      have z2 : decide (k < n0) = true := decide_eq_true hlt
      have l1 : (k : Int) < (n0 : Int) := Int.ofNat_lt.2 hlt
      have l0 : (0 : Int) ≤ (k : Int) := Int.natCast_nonneg _
      have hkM : k < M.length := by rw [← HNN.out]; exact hlt
      obtain ⟨⟨x, v⟩, hx⟩ : ∃ q, q = M[k] := ⟨_, rfl⟩
      have hx1 : M[k]? = some (x, v) := by rw [List.getElem?_eq_getElem hkM, hx]
      have hmem : (x, v) ∈ M := by rw [hx]; exact List.getElem_mem hkM
      have hxw := HLW.out.ok.key _ hmem
      simp only at hxw
      obtain ⟨g, o, hA, _, hc⟩ := Rws.at_ encU_len (HO.out.rws encU_len).2 hlt
      have a0 := hc k hlt 0 _ (by decide) rfl
      rw [show (M.map Prod.fst).getD k default = x by rw [List.getD_eq_getElem?_getD, List.getElem?_map, hx1]; rfl] at a0
      subst hA
      simp only [Nat.mul_one, Nat.add_zero] at a0
      have HL := look_one HLW.out.own hxw
      rw [(Pl.get_iff HLW.out.ok.up).2 hmem] at HL
      simp only [Option.getD_some] at HL
      have c0 := HLW.out.cell
      have HX1 := Lib.hid hx1
      have HMS := Lib.hid (show k + 1 ≤ n0 ∧ n0 - (k + 1) < n0 - k by omega)
      have hgo : ∀ i, Value.ownBlock (.slice (some ⟨g, o, none⟩) n0 c) = some i → ¬ (O i ∨ S ≤ i) := fun i hi h => by
        have := HGS.out i (by rw [← HNN.out]; exact hi)
        rcases h with h | h
        · have := hO i h; omega
        · omega
      have HGO := Lib.hid hgo
      obtain ⟨fn, tmps, assign, body, hy, hR⟩ := HY.out S (M.take k) (x, v) wr (n - 1) HS.out.1 HJK.out ⟨k, rfl, hx1⟩
      simp only at hy
      clear hx hx1 hmem hxw hc hgo hkM
      gi_wp2_with fail
      refine ⟨(fun h => by cases h), hR.mono ?_⟩
      rintro e W3 ⟨rfl, hj3, ht3⟩
      have HJ3 := Lib.hid hj3
      have HT3 := Lib.hid ht3
      clear hj3 ht3 hR hy HL c0 a0
      gi_wp2_with fail
      go_roundw
      case rel => exact ⟨k + 1, by go_num, HMS.out.1, HLW.out.tn HT3.out (fun h => h.elim hOp (fun h => by have := HH.out.lt; have := HS.out.1; omega)) (fun h => h.elim hOb (fun h => by have := HH.out.own.lt; have := HS.out.1; omega)), HO.out.tn HT3.out HGO.out, by rw [List.take_add_one, HX1.out]; exact HJ3.out, Nat.le_trans HSZ.out HT3.out.size⟩
      case measure => simp [intOf]; (have := HMS.out; omega)
    · have z1 : decide ((k : Int) < (n0 : Int)) = false := decide_eq_false (by omega)
      have z2 : decide (k < n0) = false := decide_eq_false hlt
      have HKM := Lib.hid (show M.take k = M from List.take_of_length_le (by have := HNN.out; omega))
      gi_wp2_with fail
      go_end0
      exact ⟨⟨_, rfl⟩, S, M, HS.out.1, rfl, by have := HJK.out; rwa [HKM.out] at this⟩
end Go.Proofs.YtldmnkakpmplnaaGreat.Ls
namespace Go.Proofs.YtldmnkakpmplnaaGreat.Ls
open Go.RowKit Go.Maps
attribute [local go_sem] Oper.semAt_some
def AlI (w : World) (S : Nat) (pre : Pl.Mks) (W : World) : Prop := ∃ A c, W.heap[w.heap.size]? = some (.cells #[.slice A pre.length c] 177 (0, 0)) ∧ OwnR encLs 2 179 W S (.slice A pre.length c) pre ∧ Below w.heap.size w W ∧ (pre = [] → A = none ∧ c = 0)
theorem AlI.tn {w : World} {S : Nat} {pre : Pl.Mks} {W1 W2 : World} {T : Nat → Prop} (h : AlI w S pre W1) (ht : Tn T W1 W2) (h1 : ¬ T w.heap.size) (h2 : ∀ i, S ≤ i → ¬ T i) (h3 : ∀ i, T i → w.heap.size ≤ i) : AlI w S pre W2 := by
  obtain ⟨A, c, g1, g2, g3, g4⟩ := h
  exact ⟨A, c, ht.old g1 h1, g2.tn ht (fun g hg => h2 g (g2.lt g hg).1), ht.below g3 g3.size h3, g4⟩
end Go.Proofs.YtldmnkakpmplnaaGreat.Ls
namespace Go.Proofs.YtldmnkakpmplnaaGreat.Ls
open Go.RowKit Go.Maps
attribute [local go_sem] Oper.semAt_some
theorem which_add (live : Bool) (now : Int) (pre : Pl.Mks) (x : Int × Int) : Pl.whichM live now (pre ++ [x]) = Pl.whichM live now pre ++ (if (decide (now < x.2) == live) = true then [x.1] else []) := by
  unfold Pl.whichM
  rw [List.filter_append, List.map_append]
  congr 1
  by_cases h : (decide (now < x.2) == live) = true
  · rw [if_pos h]; simp [h]
  · rw [if_neg h]; simp [h]
theorem which_len (live : Bool) (now : Int) (pre : Pl.Mks) : (Pl.whichM live now pre).length ≤ pre.length := by
  unfold Pl.whichM
  rw [List.length_map]
  exact List.length_filter_le _ _
def ClI (w : World) (live : Bool) (now : Int) (S : Nat) (pre : Pl.Mks) (W : World) : Prop := ∃ A c, W.heap[w.heap.size + 2]? = some (.cells #[.slice A (Pl.whichM live now pre).length c] 86 (0, 0)) ∧ OwnCl W S (.slice A (Pl.whichM live now pre).length c) (Pl.whichM live now pre) ∧ Below w.heap.size w W ∧ (Pl.whichM live now pre = [] → A = none ∧ c = 0) ∧
  W.heap[w.heap.size]? = some (.cells #[.int .u64 now] 27 (0, 0)) ∧ W.heap[w.heap.size + 1]? = some (.cells #[.bool live] 4 (0, 0))
theorem ClI.tn {w : World} {live : Bool} {now : Int} {S : Nat} {pre : Pl.Mks} {W1 W2 : World} {T : Nat → Prop} (h : ClI w live now S pre W1) (ht : Tn T W1 W2) (h1 : ∀ i, i < w.heap.size + 3 → ¬ T i) (h2 : ∀ i, S ≤ i → ¬ T i) : ClI w live now S pre W2 := by
  obtain ⟨A, c, g1, g2, g3, g4, g5, g6⟩ := h
  exact ⟨A, c, ht.old g1 (h1 _ (by omega)), g2.tn ht (fun g hg => h2 g (g2.lt g hg).1), ht.below g3 g3.size (fun i hi => Nat.le_of_not_lt (fun hn => h1 i (by omega) hi)), g4, ht.old g5 (h1 _ (by omega)), ht.old g6 (h1 _ (by omega))⟩
def ClX (w : World) (v : Value) (live : Bool) (now : Int) (S : Nat) (pre : Pl.Mks) (x : Int × Int) (a1 : Act) (W : World) : Prop := ClI w live now S pre W ∧ ∃ bx, S ≤ bx ∧ W.heap[bx]? = some (.cells #[.int .u32 x.1, .int .u64 x.2] 179 (0, 0)) ∧
  a1 = { tmps := #[v, .int .u64 now, .bool live, undef, .pointer (some ⟨w.heap.size, 0, none⟩), .pointer (some ⟨w.heap.size + 1, 0, none⟩), .slice none 0 0, .pointer (some ⟨w.heap.size + 2, 0, none⟩), .pointer (some ⟨bx, 0, none⟩), v, .func (.func 227) #[v] #[], .agg #[.int .u32 x.1, .int .u64 x.2], undef, undef, undef, undef, undef, undef, undef, undef, undef, undef, undef, undef], defers := [] }
set_option maxHeartbeats 4000000 in
theorem clients_runs {w : World} {v : Value} {now : Int} {live : Bool} {M : Pl.Mks} {Nx : Pl.Mks → Int × Int → Prop} (hM : M.length ≤ 1000) (hNx : ∀ pre x, Nx pre x → pre.length < M.length)
    (hr : ∀ (O : Nat → Prop) (W : World), Below w.heap.size w W → (∀ i, O i → w.heap.size ≤ i ∧ i < W.heap.size) → Sq.Runs Tryz.prog 227 (fun l => #[v] ++ #[.func (.yield l) #[] #[]] ++ #[]) (fun x : Int × Int => #[.agg #[.int .u32 x.1, .int .u64 x.2]]) Nx (fun xs => xs = M) O W) :
    Calls Tryz.prog 197 #[v, .int .u64 now, .bool live] w fun e w' => ∃ A c, e = .returned (.slice A (Pl.whichM live now M).length c) ∧ OwnCl w' w.heap.size (.slice A (Pl.whichM live now M).length c) (Pl.whichM live now M) ∧ Below w.heap.size w w' ∧ (M = [] → e = .returned (.slice none 0 0)) := by
  refine (callsIn_wide (n := 9)).1 ?_
  refine callsIn_of_wp_marks Tryz.func197 rfl trivial ?_ rfl
  simp only [Tryz.ntmps197, List.size_toArray, List.length_cons, List.length_nil, Nat.reduceAdd, Nat.reduceSub, Array.replicate_succ, Array.replicate_zero, List.push_toArray, List.append_toArray, List.nil_append, List.cons_append]
  gi_wp2
  obtain ⟨w1, hw1⟩ : ∃ z, z = ((w.alloc (.cells #[.int .u64 now] 27)).alloc (.cells #[.bool live] 4)).alloc (.cells #[.slice none 0 0] 86) := ⟨_, rfl⟩
  rw [← hw1]
  have hs1 : w1.heap.size = w.heap.size + 3 := by rw [hw1]; simp
  have hba : Below w.heap.size w (w.alloc (.cells #[.int .u64 now] 27)) := (Below.refl _ w).alloc (Nat.le_refl _) _
  have hb1 : Below w.heap.size w w1 := by rw [hw1]; exact (hba.alloc (by simp) _).alloc (by simp; omega) _
  have hbox : w1.heap[w.heap.size + 2]? = some (.cells #[.slice none 0 0] 86 (0, 0)) := by rw [hw1]; exact heap_new (by simp)
  have hbox1 : w1.heap[w.heap.size + 1]? = some (.cells #[.bool live] 4 (0, 0)) := by
    rw [hw1]
    exact below_old ((Below.refl _ _).alloc (Nat.le_refl _) _) (heap_new (by simp)) (by simp)
  have hbox0 : w1.heap[w.heap.size]? = some (.cells #[.int .u64 now] 27 (0, 0)) := by
    rw [hw1]
    exact below_old ((Below.refl _ _).alloc (Nat.le_refl _) _) (below_old ((Below.refl _ _).alloc (Nat.le_refl _) _) (heap_new rfl) (by simp)) (by simp; omega)
  clear hw1 hba
  refine Sq.wp_range (gf := 227) (la := #[v]) (lb := #[]) rfl (enters_of Tryz.func227 (by kernel_rfl) rfl)
    (O := fun i => i = w.heap.size + 2)
    (fun W0 h0 hsz => hr _ W0 (hb1.trans (h0.mono (by omega))) (fun i hi => by rcases hi with h | h <;> omega))
    (fun i hi => by omega) (fun _ => rfl) (ClI w live now) (ClX w v live now)
    ?start ?keep ?keepA ?assign ?body ?done
  case start =>
    intro W1 h1 hsz
    exact ⟨none, 0, below_old h1 hbox (by omega), OwnR.nil_ _ _ _ _ _, hb1.trans (h1.mono (by omega)), fun _ => ⟨rfl, rfl⟩, below_old h1 hbox0 (by omega), below_old h1 hbox1 (by omega)⟩
  case keep =>
    intro S pre W1 W2 hS h ht
    exact h.tn ht (fun i hi => by omega) (fun i hi => by omega)
  case keepA =>
    rintro S pre x a1 W1 W2 hS ⟨h, bx, h1, h2, e⟩ ht
    exact ⟨h.tn ht (fun i hi => by omega) (fun i hi => by omega), bx, h1, ht.old h2 (by omega), e⟩
  case assign =>
    rintro m l S pre ⟨x, u⟩ W hS hSW hi hx
    have ht : Tn (fun i => i = w.heap.size + 2 ∨ S ≤ i) W (W.alloc (.cells #[.int .u32 x, .int .u64 u] 179)) := (Tn.refl _ W).alloc _
    have hi2 : ClI w live now S pre (W.alloc (.cells #[.int .u32 x, .int .u64 u] 179)) := hi.tn (T := fun _ => False) (Tn.of _ ((Below.refl _ W).alloc (Nat.le_refl _) _)) (fun _ _ h => h) (fun _ _ h => h)
    gi_wp2
    exact ⟨⟨hi2, W.heap.size, hSW, heap_new rfl, rfl⟩, ht⟩
  case body =>
    rintro m l S pre ⟨x, u⟩ a1 W hS hSW ⟨⟨A, c, h1, h2, h3, h9, g5, g6⟩, bx, hbx, hcx, rfl⟩ hx
    have hpl := hNx _ _ hx
    have hwl := which_len live now pre
    have hwa := which_add live now pre (x, u)
    simp only at hwa
    obtain ⟨D, hD⟩ : ∃ D, D = Pl.whichM live now pre := ⟨_, rfl⟩
    rw [← hD] at h1 h2 h9 hwl hwa
    have hc := cell0 (r := []) h1
    have hx0 := cell0 (r := [.int .u64 u]) hcx
    have hx1 := cell1 (r := []) hcx
    have hc5 := cell0 (r := []) g5
    have hc6 := cell0 (r := []) g6
    have hsrc : Rws encC (W.alloc (.cells #[.int .u32 x] 28)) (W.alloc (.cells #[.int .u32 x] 28)).heap.size (some ⟨W.heap.size, 0, none⟩) 1 1 [x] := ((OwnR.lit (e := 28) encC_len W [x] (by simp [maxLen])).rws encC_len).2
    obtain ⟨q, hq⟩ : ∃ q, q = decide (now < u) := ⟨_, rfl⟩
    rw [← hq] at hwa
    have hq2 := hq.symm
    by_cases hql : (q == live) = true
    · rw [if_pos hql] at hwa
      have HWA := Lib.hid hwa
      clear hwa hq hD
      gi_wp2_with (gi_at_builtin; refine wpListIn_append_rws encC_len encC_one Tryz.underlying86 infoCl rfl (by decide) _ rfl _ _ rfl S A D.length c D rfl (h2.alloc _) _ _ 1 1 [x] rfl hsrc (by unfold maxLen; omega) (by omega) (by simp; omega) ?_; intro A2 c2 w2 h4 hg4 hat4; have ht4 : Tn (fun i => S ≤ i) W w2 := ((Tn.refl (fun i => S ≤ i) W).alloc _).grown hg4 (fun k e => .inr (h2.lt k e).1); have hb4 := ht4.old h1 (by omega); have hc4 := cell0 (r := []) hb4; have hf4 := frozen_of_row w2 (w.heap.size + 2) 0 _ _ hb4)
      have ht5 : Tn (fun i => i = w.heap.size + 2) w2 (w2.setCell ⟨w.heap.size + 2, 0, none⟩ (.slice A2 (D.length + 1) c2)) := (Tn.refl (fun i => i = w.heap.size + 2) w2).set_ (p := ⟨w.heap.size + 2, 0, none⟩) (Or.inr rfl) _
      have hz : (D ++ [x]).length = D.length + 1 := by rw [List.length_append]; rfl
      refine ⟨⟨A2, c2, by rw [HWA.out, hz]; exact blk_set hb4 _, by rw [HWA.out, hz]; exact OwnR.tn h4 ht5 (fun g hg => by have := (h4.lt g hg).1; omega), ?_, fun h => by rw [HWA.out] at h; simp at h, ht5.old (ht4.old g5 (by omega)) (by omega), ht5.old (ht4.old g6 (by omega)) (by omega)⟩, ?_⟩
      · exact ht5.below (ht4.below h3 h3.size (fun i hi => by omega)) (Nat.le_trans h3.size ht4.size) (fun i hi => by omega)
      · exact (ht4.more (fun b _ h => Or.inr h)).trans ht5 (fun b _ h => Or.inl h)
    · rw [if_neg hql, List.append_nil] at hwa
      have hql2 : (q == live) = false := by simpa using hql
      have HWA := Lib.hid hwa
      clear hwa hq hD hql
      gi_wp2
      exact ⟨⟨A, c, by rw [HWA.out]; exact h1, by rw [HWA.out]; exact h2, h3, fun h => h9 (by rw [← HWA.out]; exact h), g5, g6⟩, Tn.refl _ _⟩
  case done =>
    rintro S xs W hS rfl ⟨A, c, h1, h2, h3, h9, g5, g6⟩ hK
    have hc := cell0 (r := []) h1
    gi_wp2
    have ht := Sq.tn_put (T := fun i => i = w1.heap.size) W (.deferred none) rfl
    have h5 := (OwnR.lower h2 (base' := w.heap.size) (by omega)).tn ht (fun g hg => by have := (h2.lt g hg).1; omega)
    refine ⟨by simp, .inl ⟨_, _, rfl, run_takeDeferred hK, ?_⟩⟩
    exact ⟨_, results_tmp rfl _ _ _, A, c, rfl, h5, ht.below h3 h3.size (fun i hi => by omega), fun hm => by
      obtain ⟨rfl, rfl⟩ := h9 (by rw [hm]; rfl)
      rw [hm]; rfl⟩
theorem clients_any {w : World} {p b : Nat} {M : Pl.Mks} (h : LeasesW w p b M) (now : Int) (live : Bool) :
    Calls Tryz.prog 197 #[.pointer (some ⟨p, 0, none⟩), .int .u64 now, .bool live] w fun e w' => ∃ A c, e = .returned (.slice A (Pl.whichM live now M).length c) ∧ OwnCl w' w.heap.size (.slice A (Pl.whichM live now M).length c) (Pl.whichM live now M) ∧ Below w.heap.size w w' :=
  (clients_runs (by have := h.few; omega) (fun pre x hx => by
    obtain ⟨k, rfl, hk⟩ := hx
    have := (List.getElem?_eq_some_iff.1 hk).1
    rw [List.length_take]; omega) (fun O W hb hO => rising_runs (h.then_ hb) (by have := h.few; omega) (fun i hi => (hO i hi).2) (fun hp => by have := (hO p hp).1; have := h.lt; omega) (fun hp => by have := (hO b hp).1; have := h.own.lt; omega))).mono fun _ _ ⟨A, c, h1, h2, h3, _⟩ => ⟨A, c, h1, h2, h3⟩
end Go.Proofs.YtldmnkakpmplnaaGreat.Ls
