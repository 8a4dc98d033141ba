/-
  Leases.rising, ranged over: the leases come, by rising clients. Conditions: at most seventeen leases.
-/
import Derived.Test.YtjplchajopkpcaaLsL
namespace Go.Proofs.Ytjplchajopkpcaa
open Go.RowKit Go.Maps
attribute [local go_sem] Oper.semAt_some

/-- which lease comes next -/
def RsN (M : Pl.Mks) (pre : Pl.Mks) (x : Int × Int) : Prop := ∃ k, pre = M.take k ∧ M[k]? = some x
set_option maxRecDepth 100000 in
set_option maxHeartbeats 2000000 in
theorem rising_runs {W : World} {p b : Nat} {M : Pl.Mks} {O : Nat → Prop} (h : LeasesW W p b M) (hM : M.length ≤ 17) (hO : ∀ i, O i → i < W.heap.size) (hOp : ¬ O p) (hOb : ¬ O b) :
    Sq.Runs Try.prog 30 (fun l => #[.pointer (some ⟨p, 0, none⟩)] ++ #[.func (.yield l) #[] #[]] ++ #[]) (fun x : Int × Int => #[.agg #[.int .u32 x.1, .int .u64 x.2]]) (RsN M) (fun xs => xs = M) O W := by
  intro n l J hJ0 hJs hY
  have HN := Lib.hid (none_leases h)
  have HH := Lib.hid h
  have c0 := h.cell
  have HJ0 := Lib.hid hJ0
  have HY := Lib.hid hY
  clear h hJ0 hJs hY
  show CallsIn Fence.wide n Try.prog 30 #[.pointer (some ⟨p, 0, none⟩), .func (.yield l) #[] #[]] W _
  refine callsIn_of_wp Try.func30 rfl trivial ?_ rfl
  simp only [Try.ntmps30, List.size_toArray, List.length_cons, List.length_nil, Nat.reduceAdd, Nat.reduceSub, Array.replicate_succ, Array.replicate_zero, List.push_toArray, List.append_toArray, List.nil_append, List.cons_append]
  gi_wp2_with fail
  refine ⟨trivial, (fun h => by cases h), (callsIn_wide.2 HN.out).mono ?_⟩
  rintro e w1 ⟨rfl, hw⟩
  rw [hw]
  clear hw w1
  gi_wp2_with fail
  refine ⟨trivial, (fun h => by cases h), (callsIn_wide.2 (keys_call W b)).mono ?_⟩
  rintro e w2 ⟨rfl, hw2⟩
  have hb2 : Below W.heap.size W w2 := by rw [hw2]; exact (Below.refl _ W).alloc (Nat.le_refl _) _
  have hbx2 : w2.heap[W.heap.size]? = some (.cells #[.map (some b)] 61 (0, 0)) := by rw [hw2]; exact heap_new rfl
  have HSO := Lib.hid (sorted_any hbx2 (HH.out.then_ hb2).own HH.out.ok.up hM)
  have HB2 := Lib.hid hb2
  clear hw2 hb2 hbx2 HN c0
  gi_wp2_with fail
  refine ⟨trivial, (fun h => by cases h), (callsIn_wide.2 HSO.out).mono ?_⟩
  rintro e w3 ⟨A, c, rfl, ho3, hb3⟩
  have HO3 := Lib.hid (ho3.lower HB2.out.size)
  have HB3 := Lib.hid (HB2.out.trans (hb3.mono HB2.out.size))
  have HL3 := Lib.hid (HH.out.then_ HB3.out)
  have hgS : ∀ g, Value.ownBlock (.slice A M.length c) = some g → W.heap.size ≤ g ∧ g < w3.heap.size := fun g hg => by
    have := ho3.lt g hg
    have := HB2.out.size
    omega
  have HGS := Lib.hid hgS
  have HJ := Lib.hid (HJ0.out w3 HB3.out)
  obtain ⟨n0, hn0⟩ : ∃ q, q = M.length := ⟨_, rfl⟩
  have HNN := Lib.hid hn0
  obtain ⟨S, hS⟩ : ∃ S, S = w3.heap.size := ⟨_, rfl⟩
  rw [← hS] at HJ HGS
  have HS := Lib.hid (show W.heap.size ≤ S ∧ S = w3.heap.size from ⟨by rw [hS]; exact HB3.out.size, hS⟩)
  rw [← hn0]
  have hn9 : n0 < 1000000 := by omega
  clear ho3 hb3 hgS hn0 hS HSO HB2 HJ0
  gi_wp2_with fail
  gi_loopw [15] (fun v wr => ∃ k : Nat, v = .int .i64 (k : Int) ∧ k ≤ n0 ∧ LeasesW wr p b M ∧ OwnR encU 1 25 wr W.heap.size (.slice A n0 c) (M.map Prod.fst) ∧ J S (M.take k) wr ∧ S ≤ wr.heap.size) (fun v _ => n0 - (intOf v).toNat)
  case atStart => exact ⟨0, rfl, Nat.zero_le _, HL3.out, by rw [HNN.out]; exact HO3.out, by rw [List.take_zero]; exact HJ.out, Nat.le_of_eq HS.out.2⟩
  case round =>
    obtain ⟨k, rfl, hk, hl, ho, hj, hsz⟩ := hrel
    have HLW := Lib.hid hl
    have HO := Lib.hid ho
    have HJK := Lib.hid hj
    have HSZ := Lib.hid hsz
    clear hl ho hj hsz
    by_cases hlt : k < n0
    · have z1 : decide ((k : Int) < (n0 : Int)) = true := decide_eq_true (by omega)
      have z2 : decide (k < n0) = true := decide_eq_true hlt
      have l1 : (k : Int) < (n0 : Int) := Int.ofNat_lt.2 hlt
      have l0 : (0 : Int) ≤ (k : Int) := Int.natCast_nonneg _
      have hkM : k < M.length := by rw [← HNN.out]; exact hlt
      obtain ⟨⟨x, v⟩, hx⟩ : ∃ q, q = M[k] := ⟨_, rfl⟩
      have hx1 : M[k]? = some (x, v) := by rw [List.getElem?_eq_getElem hkM, hx]
      have hmem : (x, v) ∈ M := by rw [hx]; exact List.getElem_mem hkM
      have hxw := HLW.out.ok.key _ hmem
      simp only at hxw
      obtain ⟨g, o, hA, _, hc⟩ := Rws.at_ encU_len (HO.out.rws encU_len).2 hlt
      have a0 := hc k hlt 0 _ (by decide) rfl
      rw [show (M.map Prod.fst).getD k default = x by rw [List.getD_eq_getElem?_getD, List.getElem?_map, hx1]; rfl] at a0
      subst hA
      simp only [Nat.mul_one, Nat.add_zero] at a0
      have HL := look_one HLW.out.own hxw
      rw [(Pl.get_iff HLW.out.ok.up).2 hmem] at HL
      simp only [Option.getD_some] at HL
      have c0 := HLW.out.cell
      have HX1 := Lib.hid hx1
      have HMS := Lib.hid (show k + 1 ≤ n0 ∧ n0 - (k + 1) < n0 - k by omega)
      have hgo : ∀ i, Value.ownBlock (.slice (some ⟨g, o, none⟩) n0 c) = some i → ¬ (O i ∨ S ≤ i) := fun i hi h => by
        have := HGS.out i (by rw [← HNN.out]; exact hi)
        rcases h with h | h
        · have := hO i h; omega
        · omega
      have HGO := Lib.hid hgo
      obtain ⟨fn, tmps, assign, body, hy, hR⟩ := HY.out S (M.take k) (x, v) wr (n - 1) HS.out.1 HJK.out ⟨k, rfl, hx1⟩
      simp only at hy
      clear hx hx1 hmem hxw hc hgo hkM
      gi_wp2_with fail
      refine ⟨(fun h => by cases h), hR.mono ?_⟩
      rintro e W3 ⟨rfl, hj3, ht3⟩
      have HJ3 := Lib.hid hj3
      have HT3 := Lib.hid ht3
      clear hj3 ht3 hR hy HL c0 a0
      gi_wp2_with fail
      go_roundw
      case rel => exact ⟨k + 1, by go_num, HMS.out.1, HLW.out.tn HT3.out (fun h => h.elim hOp (fun h => by have := HH.out.lt; have := HS.out.1; omega)) (fun h => h.elim hOb (fun h => by have := HH.out.own.lt; have := HS.out.1; omega)), HO.out.tn HT3.out HGO.out, by rw [List.take_add_one, HX1.out]; exact HJ3.out, Nat.le_trans HSZ.out HT3.out.size⟩
      case measure => simp [intOf]; (have := HMS.out; omega)
    · have z1 : decide ((k : Int) < (n0 : Int)) = false := decide_eq_false (by omega)
      have z2 : decide (k < n0) = false := decide_eq_false hlt
      have HKM := Lib.hid (show M.take k = M from List.take_of_length_le (by have := HNN.out; omega))
      gi_wp2_with fail
      go_end0
      exact ⟨⟨_, rfl⟩, S, M, HS.out.1, rfl, by have := HJK.out; rwa [HKM.out] at this⟩
set_option maxRecDepth 100000 in
set_option maxHeartbeats 1000000 in
/-- none come of none -/
theorem rising_non {W : World} {v : Value} {O : Nat → Prop} (h : NonL W v) :
    Sq.Runs Try.prog 30 (fun l => #[v] ++ #[.func (.yield l) #[] #[]] ++ #[]) (fun x : Int × Int => #[.agg #[.int .u32 x.1, .int .u64 x.2]]) (fun _ _ => False) (fun xs => xs = []) O W := by
  intro n l J hJ0 hJs hY
  have HN := Lib.hid (none_nonL h)
  have HJ := Lib.hid (hJ0 W (Below.refl _ _))
  clear h hJ0 hJs hY
  show CallsIn Fence.wide n Try.prog 30 #[v, .func (.yield l) #[] #[]] W _
  refine callsIn_of_wp Try.func30 rfl trivial ?_ rfl
  simp only [Try.ntmps30, List.size_toArray, List.length_cons, List.length_nil, Nat.reduceAdd, Nat.reduceSub, Array.replicate_succ, Array.replicate_zero, List.push_toArray, List.append_toArray, List.nil_append, List.cons_append]
  gi_wp2_with fail
  refine ⟨trivial, (fun h => by cases h), (callsIn_wide.2 HN.out).mono ?_⟩
  rintro e w1 ⟨rfl, rfl⟩
  gi_wp2_with fail
  refine bodyPost_ret (results_none rfl _ _ _) rfl ?_
  exact ⟨⟨_, rfl⟩, w1.heap.size, [], Nat.le_refl _, rfl, HJ.out⟩
end Go.Proofs.Ytjplchajopkpcaa
