/-
  Two leases beside each other, both turned; leases set in whatever order, in plain words: what is left hangs on who was set alone; a row of leases turned round and made again. Conditions: those that each states.
-/
import Derived.Test.YtjplchajopkpcaaLsW
import Derived.Test.YtjplchajopkpcaaBaseQ
import Derived.Laws.OwnMore
namespace Go.Proofs.Ytjplchajopkpcaa
open Go.RowKit

namespace Pl
/-- what some, set one after another, leave -/
def BkP (xs M : Mks) : Prop := Rising M ∧ M.length ≤ xs.length ∧ (∀ x ∈ xs, ∃ v, getM M x.1 = some v ∧ x.2 + 64 ≤ v) ∧ ∀ c v, getM M c = some v → (c, v - 64) ∈ xs
theorem bk_nil : BkP [] [] := ⟨rising_nil, Nat.le_refl _, (fun _ h => by cases h), fun _ _ h => by simp [getM] at h⟩
theorem bk_half {xs ys M N : Mks} (h : BkP xs M) (h' : BkP ys N) (hm : ∀ p, p ∈ xs ↔ p ∈ ys) {c v : Int} (hg : getM M c = some v) : ∃ u, getM N c = some u ∧ v ≤ u := by
  obtain ⟨u, h1, h2⟩ := h'.2.2.1 _ ((hm _).1 (h.2.2.2 c v hg))
  exact ⟨u, h1, by simp only at h2; omega⟩
theorem bk_same {xs ys M N : Mks} (h : BkP xs M) (h' : BkP ys N) (hm : ∀ p, p ∈ xs ↔ p ∈ ys) : M = N := by
  have key : ∀ {xs ys M N : Mks}, BkP xs M → BkP ys N → (∀ p, p ∈ xs ↔ p ∈ ys) → ∀ c v, getM M c = some v → getM N c = some v := fun {_ _ _ _} h h' hm c v hg => by
    obtain ⟨u, h1, h2⟩ := bk_half h h' hm hg
    obtain ⟨v', h3, h4⟩ := bk_half h' h (fun p => (hm p).symm) h1
    rw [hg] at h3
    have := Option.some.inj h3
    rw [h1, show u = v by omega]
  exact mks_ext h.1 h'.1 fun c => opt_ext fun v => ⟨key h h' hm c v, key h' h (fun p => (hm p).symm) c v⟩
theorem bk_step {xs M : Mks} (h : BkP xs M) (hl : xs.length < 16) (x : Int × Int) (hx : x.2 < 1000) : ∃ M', setL M x.1 x.2 = (0, M') ∧ BkP (xs ++ [x]) M' := by
  obtain ⟨h1, h2, h3, h4⟩ := h
  refine ⟨putM M x.1 (tickM M x.1 x.2), by unfold setL; rw [if_neg (by omega), if_neg (fun hh => by omega)], rising_put h1 _ _, ?_, fun y hy => ?_, fun c v hg => ?_⟩
  · have := len_put_le M x.1 (tickM M x.1 x.2)
    rw [List.length_append, List.length_singleton]; omega
  · rw [get_put h1]
    split
    · rename_i e
      refine ⟨_, rfl, ?_⟩
      rcases List.mem_append.1 hy with hy | hy
      · obtain ⟨v, g1, g2⟩ := h3 y hy
        rw [e] at g1
        unfold tickM
        rw [g1]
        simp only
        split <;> omega
      · rw [List.mem_singleton.1 hy]
        unfold tickM
        split
        · split <;> omega
        · omega
    · rename_i e
      rcases List.mem_append.1 hy with hy | hy
      · exact h3 y hy
      · exact absurd (congrArg Prod.fst (List.mem_singleton.1 hy)) e
  · rw [get_put h1] at hg
    split at hg
    · rename_i e
      have hv := Option.some.inj hg
      unfold tickM at hv
      cases hq : getM M x.1 with
      | none =>
        rw [hq] at hv
        simp only at hv
        exact List.mem_append.2 (.inr (List.mem_singleton.2 (Prod.ext e (by simp only; omega))))
      | some u =>
        rw [hq] at hv
        simp only at hv
        split at hv
        · have := h4 _ _ hq
          rw [e, ← hv]
          exact List.mem_append.2 (.inl this)
        · exact List.mem_append.2 (.inr (List.mem_singleton.2 (Prod.ext e (by simp only; omega))))
    · exact List.mem_append.2 (.inl (h4 _ _ hg))
/-- made of a row of clients, none twice -/
theorem make_all : ∀ (l N : Mks), Rising N → l.Pairwise (fun a b => a.1 ≠ b.1) → (∀ p ∈ l, getM N p.1 = none) → (∀ p ∈ l, p.2 ≤ 1099511627840) → (makeM l N).1 = 0 ∧ Rising (makeM l N).2 ∧ ∀ p, p ∈ (makeM l N).2 ↔ p ∈ N ∨ p ∈ l
  | [], N, h, _, _, _ => ⟨rfl, h, fun p => by simp [makeM]⟩
  | y :: r, N, h, hp, hn, ht => by
    obtain ⟨hp1, hp2⟩ := List.pairwise_cons.1 hp
    have hy := hn y (List.mem_cons_self ..)
    have hd : delM N y.1 = N := List.filter_eq_self.2 fun p hpN => by
      have := get_none.1 hy p hpN
      have e : (p.1 == y.1) = false := by simpa using this
      rw [e]; rfl
    unfold makeM
    rw [if_neg (by rw [hy]; have := ht y (List.mem_cons_self ..); rintro (h | h); · cases h
                   · omega)]
    obtain ⟨g1, g2, g3⟩ := make_all r (putM N y.1 y.2) (rising_put h _ _) hp2 (fun p hpr => by
      rw [get_put h, if_neg (fun e => hp1 p hpr e.symm)]
      exact hn p (List.mem_cons_of_mem _ hpr)) (fun p hpr => ht p (List.mem_cons_of_mem _ hpr))
    refine ⟨g1, g2, fun p => ?_⟩
    rw [g3, List.mem_cons]
    unfold putM
    rw [mem_ins, hd]
    constructor
    · rintro ((h | h) | h)
      · exact .inr (.inl h)
      · exact .inl h
      · exact .inr (.inr h)
    · rintro (h | h | h)
      · exact .inl (.inr h)
      · exact .inl (.inl h)
      · exact .inr h
theorem make_back {M : Mks} (h : Rising M) (hl : M.length ≤ 16) (ht : ∀ p ∈ M, p.2 ≤ 1099511627840) : newL M.reverse = 0 ∧ (makeM M.reverse []).2 = M := by
  obtain ⟨h1, h2, h3⟩ := make_all M.reverse [] rising_nil (List.pairwise_reverse.2 (h.imp fun hab => by omega)) (fun _ _ => rfl) (fun p hp => ht p (List.mem_reverse.1 hp))
  refine ⟨?_, rising_mem_ext h2 h fun p => ?_⟩
  · unfold newL
    rw [if_neg (by rw [h1]; simp), if_neg (by rw [List.length_reverse]; omega)]
  · rw [h3]; simp
theorem take_rev {M : Mks} {j : Nat} (hj : j < M.length) : M.reverse.take (j + 1) = M.reverse.take j ++ [M.getD (M.length - 1 - j) default] := by
  rw [List.take_succ_eq_append_getElem (by simpa using hj), List.getElem_reverse, List.getD_eq_getElem?_getD, List.getElem?_eq_getElem (by omega)]
  rfl
theorem del_take {M : Mks} {j : Nat} (hj : j < M.length) (g : Int) : (delM (M.take (j + 1)) g).length = (delM (M.take j) g).length + if (M.getD j default).1 = g then 0 else 1 := by
  rw [List.take_succ_eq_append_getElem hj]
  unfold delM
  rw [List.filter_append, List.length_append, List.getD_eq_getElem?_getD, List.getElem?_eq_getElem hj]
  congr 1
  simp only [Option.getD_some]
  by_cases e : M[j].1 = g
  · rw [if_pos e]; simp [e]
  · rw [if_neg e]; simp [e]
theorem drop_had {M : Mks} (g : Int) : dropL M g = (if (delM M g).length < M.length then 0 else 6, delM M g) := by
  unfold dropL
  by_cases h : getM M g = none
  · have hd : delM M g = M := List.filter_eq_self.2 fun p hp => by
      have e : (p.1 == g) = false := by simpa using get_none.1 h p hp
      rw [e]; rfl
    rw [if_pos h, hd, if_neg (by omega)]
  · rw [if_neg h, if_pos]
    obtain ⟨v, hv⟩ := Option.ne_none_iff_exists'.1 h
    refine Nat.lt_of_le_of_ne (List.length_filter_le _ _) fun e => ?_
    have := List.filter_eq_self.1 (List.filter_sublist.eq_of_length e)
    unfold getM at hv
    obtain ⟨q, hq, hq2⟩ := Option.map_eq_some_iff.1 hv
    have h1 := List.find?_some hq
    have h2 := this q (List.mem_of_find?_eq_some hq)
    rw [h1] at h2
    cases h2
theorem live_left {M : Mks} (h : Rising M) {g : Int} {p : Int × Int} (hp : p ∈ M) (hne : p.1 ≠ g) (t : Int) : liveM (delM M g) p.1 t = decide (t < p.2) :=
  live_some (by rw [get_del h, if_neg hne]; exact (get_iff h).2 hp) t
theorem live_gone {M : Mks} (h : Rising M) (g t : Int) : liveM (delM M g) g t = false := live_none (by rw [get_del h, if_pos rfl]) t
end Pl
/-- two leases of the call's own, apart -/
structure LbS (W w : World) (p b q d : Nat) (M N : Pl.Mks) : Prop where
  x : LeasesO w W.heap.size p b M
  y : LeasesO w W.heap.size q d N
  ap : p ≠ d ∧ b ≠ d ∧ q ≠ b
  below : Below W.heap.size W w
section
variable {W w w' : World} {p b q d c1 c2 i : Nat} {M M' N N' : Pl.Mks} {L : Nat → Bool}
theorem LbS.then_ (h : LbS W w p b q d M N) (hb : Below w.heap.size w w') : LbS W w' p b q d M N := ⟨h.x.then_ hb, h.y.then_ hb, h.ap, below_then h.below hb⟩
theorem LbS.turny (h : LbS W w p b q d M N) (hy : LeasesW w' q d N') (ht : Tn (fun i => i = d) w w') : LbS W w' p b q d M N' :=
  ⟨⟨h.x.p_, h.x.b_, h.x.at_.tn ht h.ap.1 h.ap.2.1⟩, ⟨h.y.p_, h.y.b_, hy⟩, h.ap, h.y.below h.below ht⟩
theorem LbS.turnx (h : LbS W w p b q d M N) (hx : LeasesW w' p b M') (ht : Tn (fun i => i = b) w w') : LbS W w' p b q d M' N :=
  ⟨⟨h.x.p_, h.x.b_, hx⟩, ⟨h.y.p_, h.y.b_, h.y.at_.tn ht h.ap.2.2 (fun e => h.ap.2.1 e.symm)⟩, h.ap, h.x.below h.below ht⟩
/-- in a region that turns the first (operation c1; e1 and e2 come behind it), then the second (c2) -/
def BkI (W : World) (e1 e2 c1 c2 p b q d : Nat) (M M' N N' : Pl.Mks) (L : Nat → Bool) (w : World) : Prop :=
  Below W.heap.size W w ∧ (L c1 = false → L c2 = false) ∧ (L c1 = false → LbS W w p b q d M N) ∧ (L c1 = true → L c2 = false → LbS W w p b q d M' N) ∧ (L c1 = true → L c2 = true → LbS W w p b q d M' N') ∧ ∀ i, (i = e1 ∨ i = e2) → L i = true → L c1 = true
theorem up_nel {i j : Nat} (h : i ≠ j) : Rq.up L i j = L j := by simp [Rq.up, h]
theorem up_eql : Rq.up L i i = true := by simp [Rq.up]
theorem BkI.stay {e1 e2 : Nat} (h : BkI W e1 e2 c1 c2 p b q d M M' N N' L w) (h1 : i ≠ c1) (h2 : i ≠ c2) (hi : (i = e1 ∨ i = e2) → L c1 = true) : BkI W e1 e2 c1 c2 p b q d M M' N N' (Rq.up L i) w := by
  unfold BkI at *
  rw [up_nel h1, up_nel h2]
  refine ⟨h.1, h.2.1, h.2.2.1, h.2.2.2.1, h.2.2.2.2.1, fun k hk hL => ?_⟩
  by_cases e : i = k
  · exact hi (e ▸ hk)
  · rw [up_nel e] at hL
    exact h.2.2.2.2.2 k hk hL
theorem BkI.first {e1 e2 : Nat} (h : BkI W e1 e2 c1 c2 p b q d M M' N N' L w) (h12 : c1 ≠ c2) (hL : L c1 = false) (hS : LbS W w' p b q d M' N) : BkI W e1 e2 c1 c2 p b q d M M' N N' (Rq.up L c1) w' := by
  unfold BkI at *
  have h2 := h.2.1 hL
  rw [up_eql, up_nel h12, h2]
  exact ⟨hS.below, (fun e => by cases e), (fun e => by cases e), fun _ _ => hS, (fun _ e => by cases e), fun _ _ _ => rfl⟩
theorem BkI.second {e1 e2 : Nat} (h12 : c2 ≠ c1) (hL : L c1 = true) (hS : LbS W w' p b q d M' N') : BkI W e1 e2 c1 c2 p b q d M M' N N' (Rq.up L c2) w' := by
  unfold BkI at *
  rw [up_eql, up_nel h12, hL]
  exact ⟨hS.below, (fun e => by cases e), (fun e => by cases e), (fun _ e => by cases e), fun _ _ => hS, fun _ _ _ => rfl⟩
theorem BkI.begin {e1 e2 : Nat} (h : LbS W w p b q d M N) : BkI W e1 e2 c1 c2 p b q d M M' N N' (fun _ => false) w.drew :=
  ⟨below_then h.below (below_drawn (Below.refl _ _)), fun _ => rfl, fun _ => h.then_ (below_drawn (Below.refl _ _)), (fun e => by cases e), (fun e => by cases e), fun _ _ e => by cases e⟩
end
/-- along any operation -/
def PR0 (_ : Nat) (_ _ : World) : Prop := True
/-- append onto structs of one's own: what was there reads through the old slice as it did -/
theorem run_append_keeps {α : Type} {enc : α → List Value} {k : Nat} {e : TypeId} (hk : ∀ x, (enc x).length = k) (h1 : ∀ x, ∀ u ∈ enc x, u.oneCell' = true) {t : TypeId} {z : Value} {bytes : Nat} (hu : Try.prog.underlying t = some (.slice e)) (hinfo : (Try.prog.info? e).map (fun i => (i.zero, i.size, i.bytes)) = some (some z, k, bytes)) (hzs : z.cells.size = k) (hsz : 0 < k)
    (w : World) (ty : TypeId) (base : Nat) (A : Option Addr) (n c : Nat) (l : List α) (hown : OwnR enc k e w base (.slice A n c) l)
    (B : Nat) (A' : Option Addr) (m c' : Nat) (d : List α) (hsrc : Rws enc w B A' m c' d) (hm : 0 < m) (hmax : n + m ≤ maxLen) (hfit : (n + m) * bytes ≤ 140737488355328) (hbase : base ≤ w.heap.size) :
    ∃ A2 c2 w', (Builtin.append_ #[t, t] ty #[.slice A n c, .slice A' m c']).run Try.prog w = .ok (.slice A2 (n + m) c2) w' ∧ OwnR enc k e w' base (.slice A2 (n + m) c2) (l ++ d) ∧ w.grownBy w' (Value.ownBlock (.slice A n c)) ∧ Rws enc w' w'.heap.size A n c l := by
  obtain ⟨A2, c2, w', hr, h2, hg, _⟩ := run_append_rws hk h1 hu hinfo hzs hsz w ty base A n c l hown B A' m c' d hsrc hmax hfit hbase
  refine ⟨A2, c2, w', hr, h2, hg, ?_⟩
  have hro := (hown.rws hk).2
  have hln := hro.len
  by_cases hn : n = 0
  · exact ⟨hro.1, hro.2.1, hro.2.2.1, hro.2.2.2.1, fun h => absurd h (by omega)⟩
  obtain ⟨g, rfl, _, _⟩ := hown.pos_ (by omega)
  obtain ⟨g', o', rfl, _, hc⟩ := hsrc.2.2.2.2 hm
  obtain ⟨i0, hi, hz0, hz1, hz2⟩ := info_parts hinfo
  have ho : w.ownsRow base e k (.slice (some ⟨g, 0, none⟩) n c) n (cellsR enc l) := by unfold OwnR at hown; rwa [hln] at hown
  have hnews : ∀ j u, (cellsR enc d)[j]? = some u → w.cell? ((⟨g', o', none⟩ : Addr).add j) = some u := fun j u hj => by rw [Addr.add_lit]; exact hc j u hj
  have hdl : (cellsR enc d).length = m * k := by rw [len_cellsR hk, hsrc.len]
  by_cases hroom : n + m ≤ c
  · obtain ⟨w2, hr2, _, _⟩ := run_append_fits (P := Try.prog) w base t ty e i0 k hu hi hz1 g n c (cellsR enc l) ho ⟨g', o', none⟩ m c' (cellsR enc d) hdl hnews (fun u hu' => by
      obtain ⟨x, _, hx⟩ := List.mem_flatMap.1 hu'
      exact h1 x u hx) hroom
    rw [hr] at hr2
    injection hr2 with e1 e2
    injection e1 with e3 _ e5
    subst e3 e5
    have h3 := Rws.upto hk (h2.rws hk).2 (Nat.le_add_right n m)
    rwa [List.take_append_of_le_length (by omega), List.take_of_length_le (by omega)] at h3
  · have hr2 := run_append_grow (P := Try.prog) w t ty e i0 z hu hi hz0 ⟨g, 0, none⟩ n c (cellsR enc l) (by rw [hz1, len_cellsR hk, hln]) (fun j u hj => by
      obtain ⟨g1, o1, e1, _, hc1⟩ := hro.2.2.2.2 (by omega)
      cases e1
      rw [Addr.add_lit]
      exact hc1 j u hj) ⟨g', o', none⟩ m c' (cellsR enc d) (by rw [hz1, hdl]) hnews (by omega) (by unfold maxLen at hmax; omega) (growslice_fits (by omega) (by rw [hz2]; exact hfit))
    rw [hr] at hr2
    injection hr2 with _ e2
    rw [e2]
    exact Rws.then_ hro (below_then (below_drawn (Below.refl _ _)) (below_alloc (Below.refl _ _) _))
/-- the same as a law for the walk -/
theorem wpList_append_keeps {α : Type} {enc : α → List Value} {k : Nat} {e : TypeId} {ops : Array Oper} {rest : List Oper} {o : Oper} {a : Act} {Q : Exit → Act → World → Prop} (hk : ∀ x, (enc x).length = k) (h1 : ∀ x, ∀ u ∈ enc x, u.oneCell' = true) {t : TypeId} {z : Value} {bytes : Nat} (hu : Try.prog.underlying t = some (.slice e)) (hinfo : (Try.prog.info? e).map (fun i => (i.zero, i.size, i.bytes)) = some (some z, k, bytes)) (hzs : z.cells.size = k) (hsz : 0 < k)
    (w : World) (hgd : o.guard = none) (s x : Operand) (ho : o.op = .call { callee := .builtin .append, args := #[s, x], argTypes := #[t, t] })
    (base : Nat) (A : Option Addr) (n c : Nat) (l : List α) (hs : a.eval s = .slice A n c) (hown : OwnR enc k e w base (.slice A n c) l)
    (B : Nat) (A' : Option Addr) (m c' : Nat) (d : List α) (hx : a.eval x = .slice A' m c') (hsrc : Rws enc w B A' m c' d) (hm : 0 < m) (hmax : n + m ≤ maxLen) (hfit : (n + m) * bytes ≤ 140737488355328) (hbase : base ≤ w.heap.size)
    (h : ∀ A2 c2 w', OwnR enc k e w' base (.slice A2 (n + m) c2) (l ++ d) → w.grownBy w' (Value.ownBlock (.slice A n c)) → Rws enc w' w'.heap.size A n c l →
      wpList Try.prog ops Q rest (a.put o.dst (.slice A2 (n + m) c2)) w') : wpList Try.prog ops Q (o :: rest) a w := by
  obtain ⟨A2, c2, w1, hr, h2, h3, h4⟩ := run_append_keeps hk h1 hu hinfo hzs hsz w o.type base A n c l hown B A' m c' d hsrc hm hmax hfit hbase
  refine wpList_plain hgd fun K hK => ?_
  unfold Oper.wp execOp
  simp only [ho, resolve, invoke, builtin, Sem.run_bind, Sem.run_pure, Result.andThen_ok, List.map_toArray, List.map_cons, List.map_nil, hs, hx, hr]
  exact hK _ _ (h A2 c2 w1 h2 h3 h4)
/-! ### leases of the program -/
theorem infoLn : (Try.prog.info? 28).map (fun i => (i.zero, i.size, i.bytes)) = some (some (.agg #[.int .u32 0, .int .u64 0]), 2, 16) := by kernel_rfl
theorem equalIn_ln (x v x' v' : Int) (w : World) : (Op.equalIn 10000 28 (.agg #[.int .u32 x, .int .u64 v]) (.agg #[.int .u32 x', .int .u64 v'])).run Try.prog w = .ok (decide (x = x' ∧ v = v')) w := by
  have hS : Try.prog.underlying 28 = some (.struct (Try.prog.fieldsOf 28)) := by kernel_rfl
  have hp : Try.prog.stoodInHeld 28 = false := by kernel_rfl
  have u3 := Try.underlying25
  have u4 := Try.underlying26
  rw [show (10000 : Nat) = 9999 + 1 from rfl, run_equalIn_agg w 9999 28 _ _ hS hp]
  simp only [Program.fieldsOf, Try.underlying28]
  go_simp
  by_cases h1 : x = x' <;> by_cases h2 : v = v' <;> simp [h1, h2]
theorem neq_ln (x v : Int) (w : World) : (binOp .neq 28 (.agg #[.int .u32 x, .int .u64 v]) (.agg #[.int .u32 x, .int .u64 v])).run Try.prog w = .ok (.bool false) w := by
  rw [run_neq_struct, equalIn_ln]; simp
theorem guard_ln (op : BinOp) (x y : Operand) (xs ys : Array Value) (w : World) : (eqGuard op 28 x y (.agg xs) (.agg ys)).run Try.prog w = .ok () w := run_eqGuard_agg w op _ x y xs ys (by kernel_rfl)
end Go.Proofs.Ytjplchajopkpcaa
