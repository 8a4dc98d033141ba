/-
  The document's own leases: lay (one laid in its place). Conditions: a million leases at most.
-/
import Derived.Test.YtjplchajopkpcaaLsR
namespace Go.Proofs.Ytjplchajopkpcaa
open Go.RowKit

theorem run_append_ls (w : World) (ty : TypeId) (base : Nat) (A : Option Addr) (n c : Nat) (l : Pl.Mks) (hown : OwnLr w base (.slice A n c) l) (B : Nat) (A' : Option Addr) (m c' : Nat) (d : Pl.Mks) (hsrc : Rws encLs w B A' m c' d) (hmax : n + m ≤ 5000000000000) (hbase : base ≤ w.heap.size) :
    ∃ A2 c2 w', (Builtin.append_ #[22, 22] ty #[.slice A n c, .slice A' m c']).run Try.prog w = .ok (.slice A2 (n + m) c2) w' ∧ OwnLr w' base (.slice A2 (n + m) c2) (l ++ d) ∧ w.grownBy w' (Value.ownBlock (.slice A n c)) ∧
      (Value.ownBlock (.slice A2 (n + m) c2) = Value.ownBlock (.slice A n c) ∨ Value.ownBlock (.slice A2 (n + m) c2) = some w.heap.size) :=
  run_append_rws encLs_len encLs_one Try.underlying22 infoLr (by decide) (by decide) w ty base A n c l hown B A' m c' d hsrc (by unfold maxLen; omega) (by omega) hbase
theorem wpList_append_ls {ops : Array Oper} {rest : List Oper} {o : Oper} {a : Act} {Q : Exit → Act → World → Prop} (w : World) (hg : o.guard = none) (s x : Operand) (ho : o.op = .call { callee := .builtin .append, args := #[s, x], argTypes := #[22, 22] })
    (base : Nat) (A : Option Addr) (n c : Nat) (l : Pl.Mks) (hs : a.eval s = .slice A n c) (hown : OwnLr w base (.slice A n c) l)
    (B : Nat) (A' : Option Addr) (m c' : Nat) (d : Pl.Mks) (hx : a.eval x = .slice A' m c') (hsrc : Rws encLs w B A' m c' d) (hmax : n + m ≤ 5000000000000) (hbase : base ≤ w.heap.size)
    (h : ∀ A2 c2 w', OwnLr w' base (.slice A2 (n + m) c2) (l ++ d) → w.grownBy w' (Value.ownBlock (.slice A n c)) → wpList Try.prog ops Q rest (a.put o.dst (.slice A2 (n + m) c2)) w') : wpList Try.prog ops Q (o :: rest) a w := by
  obtain ⟨A2, c2, w1, hr, h2, h3, _⟩ := run_append_ls w o.type base A n c l hown B A' m c' d hsrc hmax hbase
  refine wpList_plain hg fun K hK => ?_
  unfold Oper.wp execOp
  simp only [ho, resolve, invoke, builtin, Sem.run_bind, Sem.run_pure, Result.andThen_ok, List.map_toArray, List.map_cons, List.map_nil, hs, hx, hr]
  exact hK _ _ (h A2 c2 w1 h2 h3)
theorem lit_ls (w : World) (x v : Int) : Rws encLs (w.alloc (.cells #[.int .u32 x, .int .u64 v] 29)) (w.alloc (.cells #[.int .u32 x, .int .u64 v] 29)).heap.size (some ⟨w.heap.size, 0, none⟩) 1 1 [(x, v)] := ((OwnR.lit (e := 29) encLs_len w [(x, v)] (by simp [maxLen])).rws encLs_len).2
/-- between one and the next of lay -/
def LyI (W1 : World) (L : Pl.Mks) (n : Nat) (x v : Int) (l d i : Value) (wr : World) : Prop := ∃ (j : Nat) (A : Option Addr) (c : Nat) (X : Pl.Mks) (xn : Nat) (b : Bool), i = .int .i64 (j : Int) ∧ d = .bool b ∧ l = .slice A xn c ∧ xn = X.length ∧ j ≤ n ∧ xn ≤ 2 * j ∧ X ++ Pl.layL (x, v) (L.drop j) b = Pl.layL (x, v) L false ∧ OwnLr wr W1.heap.size (.slice A xn c) X ∧ Below W1.heap.size W1 wr
theorem lay_at {L : Pl.Mks} {j : Nat} (hj : j < L.length) (x : Int × Int) (d : Bool) : Pl.layL x (L.drop j) d = if (L.getD j default).1 = x.1 then Pl.layL x (L.drop (j + 1)) d else if d = false ∧ x.1 < (L.getD j default).1 then x :: L.getD j default :: Pl.layL x (L.drop (j + 1)) true else L.getD j default :: Pl.layL x (L.drop (j + 1)) d := by
  have e : L.drop j = L.getD j default :: L.drop (j + 1) := by
    rw [List.drop_eq_getElem_cons hj, List.getD_eq_getElem?_getD, List.getElem?_eq_getElem hj]
    rfl
  rw [e]
  rfl



set_option maxRecDepth 100000 in
set_option maxHeartbeats 2000000 in
theorem lay_any {w : World} {B q c : Nat} {A : Option Addr} {L : Pl.Mks} (h : RefL w B q A c L) (hs : L.length ≤ 1000000) (hB : B ≤ w.heap.size) (x v : Int) :
    Calls Try.prog 26 #[.pointer (some ⟨q, 0, none⟩), .agg #[.int .u32 x, .int .u64 v]] w fun e w' => ∃ A' c', e = .returned (.tuple #[]) ∧ RefL w' B q A' c' (Pl.putM L x v) ∧ Tn (fun i => i = q) w w' := by
  obtain ⟨n, hn⟩ : ∃ n, n = L.length := ⟨_, rfl⟩
  rw [← hn] at hs
  have HN := Lib.hid hn
  obtain ⟨W1, hW1⟩ : ∃ W1, W1 = w.alloc (.cells #[.int .u32 x, .int .u64 v] 29) := ⟨_, rfl⟩
  have hb1 : Below w.heap.size w W1 := by rw [hW1]; exact below_alloc (Below.refl _ _) _
  have hP : W1.heap[w.heap.size]? = some (.cells #[.int .u32 x, .int .u64 v] 29 (0, 0)) := by rw [hW1]; exact heap_new rfl
  have HP := Lib.hid hP
  have HW1 := Lib.hid hW1
  have HB1w := Lib.hid hb1
  have HL := Lib.hid (h.then_ hb1)
  have HQ := Lib.hid (And.intro h.lt hB)
  have HCQ := Lib.hid (show ∀ wr, Below W1.heap.size W1 wr → wr.cell? ⟨q, 0, none⟩ = some (.slice A n c) ∧ wr.cell? ⟨w.heap.size, 0, none⟩ = some (.int .u32 x) ∧ wr.cell? ⟨w.heap.size, 1, none⟩ = some (.int .u64 v) from fun wr hb => by
    have hq := below_old hb HP.out (lt_of_block HP.out)
    refine ⟨?_, cell0 (r := [.int .u64 v]) hq, cell1 (r := []) hq⟩
    have := (HL.out.then_ hb).cell
    rwa [← HN.out] at this)
  obtain ⟨c0, d0, d1⟩ := HCQ.out W1 (Below.refl _ _)
  clear h hn hW1 hb1 hP hB
  go_enter Try.func26, Try.ntmps26
  rw [HW1.out] at c0 d0 d1
  go_wp2_with fail
  rw [← HW1.out]
  clear c0 d0 d1
  go_loopw [4, 5, 6] (fun l d i wr => LyI W1 L n x v l d i wr) (fun _ _ i _ => n - (intOf i).toNat)
  case atStart => exact ⟨0, none, 0, [], 0, false, rfl, rfl, rfl, rfl, Nat.zero_le _, Nat.zero_le _, rfl, OwnR.nil_ _ _ _ _ _, Below.refl _ _⟩
  case round =>
    obtain ⟨j, A2, c2, X, xn, b, rfl, rfl, rfl, hxn, hj, hx2, hlay, ho, hb⟩ := hrel
    have HO := Lib.hid ho
    have HB := Lib.hid hb
    have HXN := Lib.hid hxn
    obtain ⟨c0, d0, d1⟩ := HCQ.out wr hb
    by_cases hlt : j < n
    · have hjL : j < L.length := by rw [← HN.out]; exact hlt
      have hcells := fun wr (hb : Below W1.heap.size W1 wr) => (HL.out.then_ hb).at_ hjL
      obtain ⟨g, o, rfl, hc⟩ := hcells wr hb
      have hrow := lay_at hjL (x, v) b
      obtain ⟨⟨y, u⟩, hy⟩ : ∃ p, p = L.getD j default := ⟨_, rfl⟩
      have HCR := Lib.hid (show ∀ wr, Below W1.heap.size W1 wr → wr.cell? ⟨g, o + j * 2, none⟩ = some (.int .u32 y) ∧ wr.cell? ⟨g, o + j * 2 + 1, none⟩ = some (.int .u64 u) from fun wr hb => by
        obtain ⟨g', o', e, hc⟩ := hcells wr hb
        cases e
        have := hc j hjL
        rw [← hy] at this
        exact this)
      rw [← hy] at hrow
      simp only at hrow
      obtain ⟨a0, a1⟩ := HCR.out wr hb
      have z0 : (0 : Int) ≤ (j : Int) := Int.natCast_nonneg _
      have z1 : (j : Int) < (n : Int) := Int.ofNat_lt.2 hlt
      have HMS := Lib.hid (show n - (j + 1) < n - j by omega)
      have HLAY := Lib.hid hlay
      clear hcells hc hy ho hb hxn hlay hjL
      by_cases e : y = x
      · have z2 : (y == x) = true := by simpa using e
        rw [if_pos e] at hrow
        have HROW := Lib.hid hrow
        clear hrow e
        go_wp2_with fail
        go_quiet (fail)
        go_wp2_with fail
        go_roundw
        case rel => exact ⟨j + 1, A2, c2, X, xn, b, by go_num, rfl, rfl, HXN.out, hlt, by omega, by rw [← HROW.out]; exact HLAY.out, OwnR.then_ HO.out (below_drewN (Below.refl _ _) _), below_drewN HB.out _⟩
        case measure => simp [intOf]; (have := HMS.out; omega)
      · have z2 : (y == x) = false := by simpa using e
        rw [if_neg e] at hrow
        by_cases hd : b = false ∧ x < y
        · rw [if_pos hd] at hrow
          have HROW := Lib.hid hrow
          obtain ⟨rfl, hxy⟩ := hd
          have z3 : decide (y > x) = true := decide_eq_true hxy
          have z4 : decide (x < y) = true := decide_eq_true hxy
          clear hrow e hxy
          go_wp2_with fail
          go_quiet (fail)
          obtain ⟨wq, hwq⟩ : ∃ z, z = wr.drewN nq := ⟨_, rfl⟩
          rw [← hwq]
          have HBQ := Lib.hid (show Below W1.heap.size W1 wq by rw [hwq]; exact below_drewN HB.out _)
          have HOQ := Lib.hid (show OwnLr wq W1.heap.size (.slice A2 xn c2) X by rw [hwq]; exact OwnR.then_ HO.out (below_drewN (Below.refl _ _) _))
          clear hwq c0 d0 d1 a0 a1
          obtain ⟨c0, d0, d1⟩ := HCQ.out wq HBQ.out
          obtain ⟨a0, a1⟩ := HCR.out wq HBQ.out
          go_wp2_with fail
          go_quiet (fail)
          obtain ⟨wp, hwp⟩ : ∃ z, z = wq.drewN nq := ⟨_, rfl⟩
          rw [← hwp]
          have HBP := Lib.hid (show Below W1.heap.size W1 wp by rw [hwp]; exact below_drewN HBQ.out _)
          have HOP := Lib.hid (show OwnLr wp W1.heap.size (.slice A2 xn c2) X by rw [hwp]; exact OwnR.then_ HOQ.out (below_drewN (Below.refl _ _) _))
          clear hwp c0 d0 d1 a0 a1
          obtain ⟨c0, d0, d1⟩ := HCQ.out wp HBP.out
          obtain ⟨a0, a1⟩ := HCR.out wp HBP.out
          have HS1 := Lib.hid (lit_ls wp x v)
          have HO1 := Lib.hid (OwnR.alloc HOP.out (.cells #[.int .u32 x, .int .u64 v] 29))
          have HB1 := Lib.hid (below_alloc HBP.out (.cells #[.int .u32 x, .int .u64 v] 29))
          go_wp2_with (first | (at_builtin; refine wpList_append_ls _ rfl _ _ rfl W1.heap.size _ _ _ X rfl HO1.out _ _ _ _ [(x, v)] rfl HS1.out (by omega) HB1.out.size ?_; intro A3 c3 w3 ho3 hg3; have hb3 := HB1.out.grown hg3 HB1.out.size (fun k e => (OwnR.lt HO1.out k e).1); have HB3 := Lib.hid (below_alloc hb3 (.cells #[.int .u32 y, .int .u64 u] 29)); have HO3 := Lib.hid (OwnR.alloc ho3 (.cells #[.int .u32 y, .int .u64 u] 29)); obtain ⟨c0, d0, d1⟩ := HCQ.out w3 hb3; obtain ⟨a0, a1⟩ := HCR.out w3 hb3; clear hg3 hb3 ho3) | (at_builtin; refine wpList_append_ls _ rfl _ _ rfl W1.heap.size _ _ _ (X ++ [(x, v)]) rfl HO3.out _ _ _ _ [(y, u)] rfl (lit_ls w3 y u) (by omega) HB3.out.size ?_; intro A4 c4 w4 ho4 hg4) | fail)
          go_roundw
          case rel => exact ⟨j + 1, A4, c4, X ++ [(x, v)] ++ [(y, u)], xn + 1 + 1, true, by go_num, rfl, rfl, by rw [HXN.out]; simp, hlt, by omega, by rw [← HLAY.out, HROW.out]; simp, ho4, HB3.out.grown hg4 HB3.out.size (fun k e => (OwnR.lt HO3.out k e).1)⟩
          case measure => simp [intOf]; (have := HMS.out; omega)
        · rw [if_neg hd] at hrow
          have HROW := Lib.hid hrow
          have hcase : b = true ∨ (b = false ∧ decide (y > x) = false) := by
            cases b with
            | true => exact .inl rfl
            | false => exact .inr ⟨rfl, decide_eq_false fun h => hd ⟨rfl, h⟩⟩
          clear hrow e hd
          rcases hcase with rfl | ⟨rfl, z3⟩
          · skip
            go_wp2_with fail
            go_quiet (fail)
            obtain ⟨wq, hwq⟩ : ∃ z, z = wr.drewN nq := ⟨_, rfl⟩
            rw [← hwq]
            have HBQ := Lib.hid (show Below W1.heap.size W1 wq by rw [hwq]; exact below_drewN HB.out _)
            have HOQ := Lib.hid (show OwnLr wq W1.heap.size (.slice A2 xn c2) X by rw [hwq]; exact OwnR.then_ HO.out (below_drewN (Below.refl _ _) _))
            clear hwq c0 d0 d1 a0 a1
            obtain ⟨c0, d0, d1⟩ := HCQ.out wq HBQ.out
            obtain ⟨a0, a1⟩ := HCR.out wq HBQ.out
            go_wp2_with fail
            go_quiet (fail)
            obtain ⟨wp, hwp⟩ : ∃ z, z = wq.drewN nq := ⟨_, rfl⟩
            rw [← hwp]
            have HBP := Lib.hid (show Below W1.heap.size W1 wp by rw [hwp]; exact below_drewN HBQ.out _)
            have HOP := Lib.hid (show OwnLr wp W1.heap.size (.slice A2 xn c2) X by rw [hwp]; exact OwnR.then_ HOQ.out (below_drewN (Below.refl _ _) _))
            clear hwp c0 d0 d1 a0 a1
            obtain ⟨c0, d0, d1⟩ := HCQ.out wp HBP.out
            obtain ⟨a0, a1⟩ := HCR.out wp HBP.out
            have HS1 := Lib.hid (lit_ls wp y u)
            have HO1 := Lib.hid (OwnR.alloc HOP.out (.cells #[.int .u32 y, .int .u64 u] 29))
            have HB1 := Lib.hid (below_alloc HBP.out (.cells #[.int .u32 y, .int .u64 u] 29))
            go_wp2_with (first | (at_builtin; refine wpList_append_ls _ rfl _ _ rfl W1.heap.size _ _ _ X rfl HO1.out _ _ _ _ [(y, u)] rfl HS1.out (by omega) HB1.out.size ?_; intro A3 c3 w3 ho3 hg3) | fail)
            go_roundw
            case rel => exact ⟨j + 1, A3, c3, X ++ [(y, u)], xn + 1, _, by go_num, rfl, rfl, by rw [HXN.out]; simp, hlt, by omega, by rw [← HLAY.out, HROW.out]; simp, ho3, HB1.out.grown hg3 HB1.out.size (fun k e => (OwnR.lt HO1.out k e).1)⟩
            case measure => simp [intOf]; (have := HMS.out; omega)
          · have z4 : decide (x < y) = false := z3
            go_wp2_with fail
            go_quiet (fail)
            obtain ⟨wq, hwq⟩ : ∃ z, z = wr.drewN nq := ⟨_, rfl⟩
            rw [← hwq]
            have HBQ := Lib.hid (show Below W1.heap.size W1 wq by rw [hwq]; exact below_drewN HB.out _)
            have HOQ := Lib.hid (show OwnLr wq W1.heap.size (.slice A2 xn c2) X by rw [hwq]; exact OwnR.then_ HO.out (below_drewN (Below.refl _ _) _))
            clear hwq c0 d0 d1 a0 a1
            obtain ⟨c0, d0, d1⟩ := HCQ.out wq HBQ.out
            obtain ⟨a0, a1⟩ := HCR.out wq HBQ.out
            go_wp2_with fail
            go_quiet (fail)
            obtain ⟨wp, hwp⟩ : ∃ z, z = wq.drewN nq := ⟨_, rfl⟩
            rw [← hwp]
            have HBP := Lib.hid (show Below W1.heap.size W1 wp by rw [hwp]; exact below_drewN HBQ.out _)
            have HOP := Lib.hid (show OwnLr wp W1.heap.size (.slice A2 xn c2) X by rw [hwp]; exact OwnR.then_ HOQ.out (below_drewN (Below.refl _ _) _))
            clear hwp c0 d0 d1 a0 a1
            obtain ⟨c0, d0, d1⟩ := HCQ.out wp HBP.out
            obtain ⟨a0, a1⟩ := HCR.out wp HBP.out
            have HS1 := Lib.hid (lit_ls wp y u)
            have HO1 := Lib.hid (OwnR.alloc HOP.out (.cells #[.int .u32 y, .int .u64 u] 29))
            have HB1 := Lib.hid (below_alloc HBP.out (.cells #[.int .u32 y, .int .u64 u] 29))
            go_wp2_with (first | (at_builtin; refine wpList_append_ls _ rfl _ _ rfl W1.heap.size _ _ _ X rfl HO1.out _ _ _ _ [(y, u)] rfl HS1.out (by omega) HB1.out.size ?_; intro A3 c3 w3 ho3 hg3) | fail)
            go_roundw
            case rel => exact ⟨j + 1, A3, c3, X ++ [(y, u)], xn + 1, _, by go_num, rfl, rfl, by rw [HXN.out]; simp, hlt, by omega, by rw [← HLAY.out, HROW.out]; simp, ho3, HB1.out.grown hg3 HB1.out.size (fun k e => (OwnR.lt HO1.out k e).1)⟩
            case measure => simp [intOf]; (have := HMS.out; omega)
    · skip
      have hjn : j = n := by omega
      have hdn : L.drop j = [] := by rw [hjn, HN.out, List.drop_length]
      rw [hdn] at hlay
      have hput := Pl.lay_put (x, v) L
      simp only at hput
      rw [hput] at hlay
      cases b with
      | true =>
        have HXE := Lib.hid (show X = Pl.putM L x v by rw [← hlay]; simp [Pl.layL])
        have HOE := HO
        have HBE := HB
        have HME := HXN
        have HF := Lib.hid (show RefL (World.setCell wr ⟨q, 0, none⟩ (.slice A2 xn c2)) B q A2 c2 (Pl.putM L x v) ∧ Tn (fun i => i = q) w (World.setCell wr ⟨q, 0, none⟩ (.slice A2 xn c2)) from by
          have hq : ∀ g, Value.ownBlock (.slice A2 xn c2) = some g → g ≠ q := fun g hg => by have := (OwnR.lt HOE.out g hg).1; have := HQ.out.1; have := HB1w.out.size; omega
          have hlen : xn = (Pl.putM L x v).length := by rw [← HXE.out]; exact HME.out
          have hblk := blk_set (i := 0) (HL.out.then_ HBE.out).blk (.slice A2 xn c2)
          have hrow : OwnLr (World.setCell wr ⟨q, 0, none⟩ (.slice A2 xn c2)) B (.slice A2 xn c2) (Pl.putM L x v) := by
            have h1 := OwnR.tn HOE.out ((Tn.refl (fun i => i = q) wr).set_ (p := ⟨q, 0, none⟩) (Or.inr rfl) (.slice A2 xn c2)) (fun g hg e => hq g hg e)
            rw [HXE.out] at h1
            exact OwnR.lower h1 (by have := HQ.out.2; have := HB1w.out.size; omega)
          refine ⟨⟨HL.out.q_, ?_, ?_, ?_⟩, ?_⟩
          · rw [← hlen]; exact hblk
          · rw [← hlen]; exact hrow
          · rw [← hlen]; exact hq
          · exact ((Tn.of (fun i => i = q) HB1w.out).trans (T' := fun i => i = q) (Tn.of _ HBE.out) (fun _ _ x => x)).set_ (p := ⟨q, 0, none⟩) (Or.inr rfl) _)
        have f2 := frozen_of_row wr q 0 _ _ (HL.out.then_ HBE.out).blk
        clear hdn hput hlay hxn ho hb
        go_wp2_with fail
        exact ⟨rfl, _, results_none (by kernel_rfl) _ _ _, _, _, rfl, HF.out.1, HF.out.2⟩
      | false =>
        have HXE := Lib.hid (show X ++ [(x, v)] = Pl.putM L x v by rw [← hlay]; rfl)
        have HS1 := Lib.hid (lit_ls wr x v)
        have HO1 := Lib.hid (OwnR.alloc HO.out (.cells #[.int .u32 x, .int .u64 v] 29))
        have HB1 := Lib.hid (below_alloc HB.out (.cells #[.int .u32 x, .int .u64 v] 29))
        clear hdn hput hlay hxn ho hb
        go_wp2_with (first | (at_builtin; refine wpList_append_ls _ rfl _ _ rfl W1.heap.size _ _ _ X rfl HO1.out _ _ _ _ [(x, v)] rfl HS1.out (by omega) HB1.out.size ?_; intro A3 c3 w3 ho3 hg3; have HOE := Lib.hid ho3; have HBE := Lib.hid (HB1.out.grown hg3 HB1.out.size (fun k e => (OwnR.lt HO1.out k e).1)); have HME := Lib.hid (show xn + 1 = (X ++ [(x, v)]).length by rw [HXN.out]; simp); obtain ⟨c0, d0, d1⟩ := HCQ.out w3 HBE.out; have f2 := frozen_of_row w3 q 0 _ _ (HL.out.then_ HBE.out).blk; clear ho3 hg3) | fail)
        have HF := Lib.hid (show RefL (World.setCell w3 ⟨q, 0, none⟩ (.slice A3 (xn+1) c3)) B q A3 c3 (Pl.putM L x v) ∧ Tn (fun i => i = q) w (World.setCell w3 ⟨q, 0, none⟩ (.slice A3 (xn+1) c3)) from by
          have hq : ∀ g, Value.ownBlock (.slice A3 (xn+1) c3) = some g → g ≠ q := fun g hg => by have := (OwnR.lt HOE.out g hg).1; have := HQ.out.1; have := HB1w.out.size; omega
          have hlen : (xn+1) = (Pl.putM L x v).length := by rw [← HXE.out]; exact HME.out
          have hblk := blk_set (i := 0) (HL.out.then_ HBE.out).blk (.slice A3 (xn+1) c3)
          have hrow : OwnLr (World.setCell w3 ⟨q, 0, none⟩ (.slice A3 (xn+1) c3)) B (.slice A3 (xn+1) c3) (Pl.putM L x v) := by
            have h1 := OwnR.tn HOE.out ((Tn.refl (fun i => i = q) w3).set_ (p := ⟨q, 0, none⟩) (Or.inr rfl) (.slice A3 (xn+1) c3)) (fun g hg e => hq g hg e)
            rw [HXE.out] at h1
            exact OwnR.lower h1 (by have := HQ.out.2; have := HB1w.out.size; omega)
          refine ⟨⟨HL.out.q_, ?_, ?_, ?_⟩, ?_⟩
          · rw [← hlen]; exact hblk
          · rw [← hlen]; exact hrow
          · rw [← hlen]; exact hq
          · exact ((Tn.of (fun i => i = q) HB1w.out).trans (T' := fun i => i = q) (Tn.of _ HBE.out) (fun _ _ x => x)).set_ (p := ⟨q, 0, none⟩) (Or.inr rfl) _)
        have f2 := frozen_of_row w3 q 0 _ _ (HL.out.then_ HBE.out).blk
        exact ⟨rfl, _, results_none (by kernel_rfl) _ _ _, _, _, rfl, HF.out.1, HF.out.2⟩
end Go.Proofs.Ytjplchajopkpcaa
