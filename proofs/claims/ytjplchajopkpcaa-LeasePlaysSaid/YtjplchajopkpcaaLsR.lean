/-
  The document's own leases in memory: at, Live, Which, Same, lay. Conditions: those that each states.
-/
import Derived.Test.YtjplchajopkpcaaLsP
import Derived.Test.YtjplchajopkpcaaPceU
import Derived.Lib.Hide
import Derived.BigQuiet
namespace Go.Proofs.Ytjplchajopkpcaa
open Go.RowKit

/-- a lease's two cells -/
def encLs (q : Int × Int) : List Value := [.int .u32 q.1, .int .u64 q.2]
theorem encLs_len (q : Int × Int) : (encLs q).length = 2 := rfl
theorem encLs_one (q : Int × Int) : ∀ u ∈ encLs q, u.oneCell' = true := fun u hu => by
  simp only [encLs, List.mem_cons, List.not_mem_nil, or_false] at hu
  rcases hu with rfl | rfl <;> rfl
/-- a client, as a cell -/
def encC (x : Int) : List Value := [.int .u32 x]
theorem encC_len (x : Int) : (encC x).length = 1 := rfl
theorem encC_one (x : Int) : ∀ u ∈ encC x, u.oneCell' = true := fun u hu => by
  simp only [encC, List.mem_cons, List.not_mem_nil, or_false] at hu
  rw [hu]; rfl
theorem infoLr : (Try.prog.info? 29).map (fun i => (i.zero, i.size, i.bytes)) = some (some (.agg #[.int .u32 0, .int .u64 0]), 2, 16) := by kernel_rfl
theorem infoCl : (Try.prog.info? 25).map (fun i => (i.zero, i.size, i.bytes)) = some (some (.int .u32 0), 1, 4) := by kernel_rfl
abbrev OwnLr (w : World) (B : Nat) (v : Value) (L : Pl.Mks) : Prop := OwnR encLs 2 29 w B v L
abbrev OwnCl (w : World) (B : Nat) (v : Value) (L : List Int) : Prop := OwnR encC 1 25 w B v L
/-- the document's leases at q, their row beyond B -/
structure RefL (w : World) (B q : Nat) (A : Option Addr) (c : Nat) (L : Pl.Mks) : Prop where
  q_ : B ≤ q
  blk : w.heap[q]? = some (.cells #[.slice A L.length c] 51 (0, 0))
  row : OwnLr w B (.slice A L.length c) L
  ne : ∀ g, Value.ownBlock (.slice A L.length c) = some g → g ≠ q
section
variable {w w' w0 : World} {B q n c : Nat} {A : Option Addr} {L : Pl.Mks} {T : Nat → Prop}
theorem RefL.lt (h : RefL w B q A c L) : q < w.heap.size := lt_of_block h.blk
theorem RefL.cell (h : RefL w B q A c L) : w.cell? ⟨q, 0, none⟩ = some (.slice A L.length c) := cell0 (r := []) h.blk
theorem RefL.rws (h : RefL w B q A c L) : Rws encLs w w.heap.size A L.length c L := (OwnR.rws encLs_len h.row).2
theorem RefL.tn (h : RefL w B q A c L) (ht : Tn T w w') (hT : ∀ i, B ≤ i → ¬ T i) : RefL w' B q A c L :=
  ⟨h.q_, ht.old h.blk (hT q h.q_), OwnR.tn h.row ht (fun g hg => hT g (h.row.lt g hg).1), h.ne⟩
theorem RefL.then_ (h : RefL w B q A c L) (hb : Below w.heap.size w w') : RefL w' B q A c L := ⟨h.q_, below_old hb h.blk h.lt, OwnR.then_ h.row hb, h.ne⟩
theorem RefL.len (h : RefL w B q A c L) : L.length ≤ maxLen := Nat.le_trans h.rws.le h.rws.cap
/-- two cells of one of them -/
theorem RefL.at_ (h : RefL w B q A c L) {i : Nat} (hi : i < L.length) :
    ∃ g o, A = some ⟨g, o, none⟩ ∧ ∀ j, j < L.length → w.cell? ⟨g, o + j * 2, none⟩ = some (.int .u32 (L.getD j default).1) ∧ w.cell? ⟨g, o + j * 2 + 1, none⟩ = some (.int .u64 (L.getD j default).2) := by
  obtain ⟨g, o, e, _, hc⟩ := Rws.at_ encLs_len h.rws hi
  exact ⟨g, o, e, fun j hj => ⟨by have := hc j hj 0 _ (by decide) rfl; simpa using this, by have := hc j hj 1 _ (by decide) rfl; simpa [Nat.add_assoc] using this⟩⟩
end
/-- what a look for a client tells -/
def AtR (L : Pl.Mks) (c : Int) (k : Int) : Prop := (k = -1 ∧ ∀ p ∈ L, p.1 ≠ c) ∨ ∃ i : Nat, k = (i : Int) ∧ i < L.length ∧ (L.getD i default).1 = c
/-- between one and the next -/
def AtI (w : World) (L : Pl.Mks) (n : Nat) (x : Int) (i : Value) (wr : World) : Prop := ∃ j : Nat, i = .int .i64 (j : Int) ∧ j ≤ n ∧ (∀ k, k < j → (L.getD k default).1 ≠ x) ∧ wr = w
set_option maxRecDepth 100000 in
set_option maxHeartbeats 1000000 in
theorem at_any {w : World} {B q c : Nat} {A : Option Addr} {L : Pl.Mks} (h : RefL w B q A c L) (x : Int) :
    Calls Try.prog 25 #[.pointer (some ⟨q, 0, none⟩), .int .u32 x] w fun e w' => ∃ k, e = .returned (.int .i64 k) ∧ AtR L x k ∧ w' = w := by
  have HL := Lib.hid h
  have c0 := h.cell
  obtain ⟨n, hn⟩ : ∃ n, n = L.length := ⟨_, rfl⟩
  have hmax := h.len
  unfold maxLen at hmax
  rw [← hn] at c0 hmax
  have HN := Lib.hid hn
  clear h hn
  go_enter Try.func25, Try.ntmps25
  go_wp2_with fail
  go_loopw [5] (fun i wr => AtI w L n x i wr) (fun i _ => n - (intOf i).toNat)
  case atStart => exact ⟨0, rfl, Nat.zero_le _, fun k hk => absurd hk (Nat.not_lt_zero _), rfl⟩
  case round =>
    obtain ⟨j, rfl, hj, hno, rfl⟩ := hrel
    have HNO := Lib.hid hno
    by_cases hlt : j < n
    · obtain ⟨g, o, rfl, hc⟩ := HL.out.at_ (show j < L.length by rw [← HN.out]; exact hlt)
      obtain ⟨a0, a1⟩ := hc j (by rw [← HN.out]; exact hlt)
      obtain ⟨⟨y, v⟩, hy⟩ : ∃ p, p = L.getD j default := ⟨_, rfl⟩
      rw [← hy] at a0 a1
      simp only at a0 a1
      have z0 : (0 : Int) ≤ (j : Int) := Int.natCast_nonneg _
      have z1 : (j : Int) < (n : Int) := Int.ofNat_lt.2 hlt
      have HMS := Lib.hid (show n - (j + 1) < n - j by omega)
      by_cases e : y = x
      · have z2 : (y == x) = true := by simpa using e
        have HE := Lib.hid (show AtR L x (j : Int) from .inr ⟨j, rfl, by rw [← HN.out]; exact hlt, by rw [← hy]; exact e⟩)
        clear hc hy hno e
        go_wp2_with fail
        go_ret
        exact ⟨_, rfl, HE.out, rfl⟩
      · have z2 : (y == x) = false := by simpa using e
        have HE := Lib.hid (show ∀ k, k < j + 1 → (L.getD k default).1 ≠ x from fun k hk => by
          rcases Nat.lt_succ_iff_lt_or_eq.1 hk with hk | rfl
          · exact HNO.out k hk
          · rw [← hy]; exact e)
        clear hc hy hno e
        go_wp2_with fail
        go_roundw
        case rel => exact ⟨j + 1, by go_num, hlt, HE.out, rfl⟩
        case measure => simp [intOf]; (have := HMS.out; omega)
    · have HE := Lib.hid (show AtR L x (-1) from .inl ⟨rfl, fun p hp => by
        obtain ⟨k, hk, rfl⟩ := List.getElem_of_mem hp
        have := HNO.out k (by have := HN.out; omega)
        rwa [List.getD_eq_getElem?_getD, List.getElem?_eq_getElem hk] at this⟩)
      clear hno
      go_wp2_with fail
      go_ret
      exact ⟨_, rfl, HE.out, rfl⟩
set_option maxRecDepth 100000 in
set_option maxHeartbeats 1000000 in
theorem rlive_any {w : World} {B q c : Nat} {A : Option Addr} {L : Pl.Mks} (h : RefL w B q A c L) (hr : Pl.Rising L) (x now : Int) :
    Calls Try.prog 22 #[.pointer (some ⟨q, 0, none⟩), .int .u32 x, .int .u64 now] w fun e w' => e = .returned (.bool (Pl.liveM L x now)) ∧ Below w.heap.size w w' := by
  have HA := Lib.hid (at_any h x)
  have HL := Lib.hid h
  have HR := Lib.hid hr
  have c0 := h.cell
  obtain ⟨n, hn⟩ : ∃ n, n = L.length := ⟨_, rfl⟩
  have hmax := h.len
  unfold maxLen at hmax
  rw [← hn] at c0 hmax
  have HN := Lib.hid hn
  clear h hn hr
  go_enter Try.func22, Try.ntmps22
  go_wp2_with fail
  refine HA.out.mono ?_
  rintro e w' ⟨k, rfl, hk, hw⟩
  rw [hw]
  clear hw w'
  rcases hk with ⟨rfl, hk⟩ | ⟨i, rfl, hi, hk⟩
  · have HE := Lib.hid (Pl.live_none (Pl.get_none.2 hk) now)
    clear hk
    go_wp2_with fail
    go_ret
    exact ⟨by rw [HE.out]; rfl, Below.refl _ _⟩
  · obtain ⟨g, o, rfl, hc⟩ := HL.out.at_ hi
    obtain ⟨a0, a1⟩ := hc i hi
    have hget := Pl.idx_get HR.out hi
    rw [hk] at hget
    obtain ⟨⟨y, v⟩, hy⟩ : ∃ p, p = L.getD i default := ⟨_, rfl⟩
    rw [← hy] at a0 a1 hget
    simp only at a0 a1 hget
    have HE := Lib.hid (Pl.live_some hget now)
    have z0 : (0 : Int) ≤ (i : Int) := Int.natCast_nonneg _
    have z1 : (i : Int) < (n : Int) := Int.ofNat_lt.2 (by have := HN.out; omega)
    have z2 : decide ((i : Int) ≥ 0) = true := decide_eq_true z0
    have z3 : decide ((0 : Int) ≤ (i : Int)) = true := decide_eq_true z0
    clear hc hget hy hk hi
    go_wp2_with fail
    go_ret
    exact ⟨by rw [HE.out]; rfl, Below.refl _ _⟩
/-- between one and the next of Which -/
def WhI (w : World) (L : Pl.Mks) (n : Nat) (live : Bool) (now : Int) (l i : Value) (wr : World) : Prop := ∃ (j : Nat) (A : Option Addr) (c : Nat), i = .int .i64 (j : Int) ∧ j ≤ n ∧ l = .slice A (Pl.whichM live now (L.take j)).length c ∧ OwnCl wr w.heap.size (.slice A (Pl.whichM live now (L.take j)).length c) (Pl.whichM live now (L.take j)) ∧ Below w.heap.size w wr
/-- clients in new memory -/
def RetC (w : World) (cs : List Int) (e : Ending) (w' : World) : Prop := ∃ A c, e = .returned (.slice A cs.length c) ∧ OwnCl w' w.heap.size (.slice A cs.length c) cs ∧ Below w.heap.size w w'
theorem which_snoc {L : Pl.Mks} {j : Nat} (hj : j < L.length) (live : Bool) (now : Int) : Pl.whichM live now (L.take (j + 1)) = Pl.whichM live now (L.take j) ++ (if (decide (now < (L.getD j default).2) == live) = true then [(L.getD j default).1] else []) := by
  unfold Pl.whichM
  rw [List.take_succ_eq_append_getElem hj, List.filter_append, List.map_append]
  congr 1
  rw [List.getD_eq_getElem?_getD, List.getElem?_eq_getElem hj]
  simp only [Option.getD_some, List.filter_cons, List.filter_nil]
  split <;> rfl
theorem wpList_append_cl {ops : Array Oper} {rest : List Oper} {o : Oper} {a : Act} {Q : Exit → Act → World → Prop} (w : World) (hg : o.guard = none) (s x : Operand) (ho : o.op = .call { callee := .builtin .append, args := #[s, x], argTypes := #[44, 44] })
    (base : Nat) (A : Option Addr) (n c : Nat) (l : List Int) (hs : a.eval s = .slice A n c) (hown : OwnCl w base (.slice A n c) l)
    (B : Nat) (A' : Option Addr) (m c' : Nat) (d : List Int) (hx : a.eval x = .slice A' m c') (hsrc : Rws encC w B A' m c' d) (hmax : n + m ≤ 30000000000000) (hbase : base ≤ w.heap.size)
    (h : ∀ A2 c2 w', OwnCl w' base (.slice A2 (n + m) c2) (l ++ d) → w.grownBy w' (Value.ownBlock (.slice A n c)) → wpList Try.prog ops Q rest (a.put o.dst (.slice A2 (n + m) c2)) w') : wpList Try.prog ops Q (o :: rest) a w := by
  obtain ⟨A2, c2, w1, hr, h2, h3, _⟩ := run_append_rws encC_len encC_one Try.underlying44 infoCl (by decide) (by decide) w o.type base A n c l hown B A' m c' d hsrc (by unfold maxLen; omega) (by omega) hbase
  refine wpList_plain hg fun K hK => ?_
  unfold Oper.wp execOp
  simp only [ho, resolve, invoke, builtin, Sem.run_bind, Sem.run_pure, Result.andThen_ok, List.map_toArray, List.map_cons, List.map_nil, hs, hx, hr]
  exact hK _ _ (h A2 c2 w1 h2 h3)
set_option maxRecDepth 100000 in
set_option maxHeartbeats 1000000 in
theorem which_any {w : World} {B q c : Nat} {A : Option Addr} {L : Pl.Mks} (h : RefL w B q A c L) (hs : L.length ≤ 1000000) (live : Bool) (now : Int) :
    Calls Try.prog 24 #[.pointer (some ⟨q, 0, none⟩), .bool live, .int .u64 now] w (RetC w (Pl.whichM live now L)) := by
  have HL := Lib.hid h
  obtain ⟨n, hn⟩ : ∃ n, n = L.length := ⟨_, rfl⟩
  rw [← hn] at hs
  have HN := Lib.hid hn
  have c0 := h.cell
  rw [← hn] at c0
  clear h hn
  go_enter Try.func24, Try.ntmps24
  go_wp2_with fail
  clear c0
  go_loopw [7, 8] (fun l i wr => WhI w L n live now l i wr) (fun _ i _ => n - (intOf i).toNat)
  case atStart => exact ⟨0, none, 0, rfl, Nat.zero_le _, rfl, OwnR.nil_ _ _ _ _ _, Below.refl _ _⟩
  case round =>
    obtain ⟨j, A2, c2, rfl, hj, rfl, ho, hb⟩ := hrel
    have HO := Lib.hid ho
    have HB := Lib.hid hb
    have c0 := (HL.out.then_ hb).cell
    rw [← HN.out] at c0
    by_cases hlt : j < n
    · have hjL : j < L.length := by rw [← HN.out]; exact hlt
      obtain ⟨g, o, rfl, hc⟩ := (HL.out.then_ hb).at_ hjL
      obtain ⟨a0, a1⟩ := hc j hjL
      have hsn := which_snoc hjL live now
      obtain ⟨⟨y, v⟩, hy⟩ : ∃ p, p = L.getD j default := ⟨_, rfl⟩
      rw [← hy] at a0 a1 hsn
      simp only at a0 a1 hsn
      have z0 : (0 : Int) ≤ (j : Int) := Int.natCast_nonneg _
      have z1 : (j : Int) < (n : Int) := Int.ofNat_lt.2 hlt
      have HMS := Lib.hid (show n - (j + 1) < n - j by omega)
      obtain ⟨X, hX⟩ : ∃ X, X = Pl.whichM live now (L.take j) := ⟨_, rfl⟩
      have hXn : X.length ≤ j := by
        rw [hX]; unfold Pl.whichM
        rw [List.length_map]
        exact Nat.le_trans (List.length_filter_le _ _) (by rw [List.length_take]; omega)
      rw [← hX] at HO hsn ⊢
      obtain ⟨xn, hxn⟩ : ∃ k, k = X.length := ⟨_, rfl⟩
      rw [← hxn] at HO hXn ⊢
      have HXN := Lib.hid hxn
      by_cases hd : (decide (now < v) == live) = true
      · rw [if_pos hd] at hsn
        have HSN := Lib.hid hsn
        clear hc hy ho hb hsn hX hxn hjL
        have HO1 := Lib.hid (OwnR.alloc HO.out (.cells #[.int .u32 y] 25))
        have HSRC := Lib.hid (show Rws encC (wr.alloc (.cells #[.int .u32 y] 25)) (wr.alloc (.cells #[.int .u32 y] 25)).heap.size (some ⟨wr.heap.size, 0, none⟩) 1 1 [y] from ((OwnR.lit (e := 25) encC_len wr [y] (by simp [maxLen])).rws encC_len).2)
        have HB1 := Lib.hid (below_alloc HB.out (.cells #[.int .u32 y] 25))
        go_wp2_with (first | (at_builtin; refine wpList_append_cl _ rfl _ _ rfl w.heap.size _ _ _ X rfl HO1.out _ _ _ _ [y] rfl HSRC.out (by omega) HB1.out.size ?_; intro A3 c3 w3 ho3 hg3) | fail)
        go_roundw
        case rel => exact ⟨j + 1, A3, c3, by go_num, hlt, by rw [HSN.out, List.length_append, ← HXN.out]; rfl, by rw [HSN.out, List.length_append, ← HXN.out]; exact ho3, HB1.out.grown hg3 HB1.out.size (fun k e => (OwnR.lt HO1.out k e).1)⟩
        case measure => simp [intOf]; (have := HMS.out; omega)
      · have hd2 : (decide (now < v) == live) = false := by simpa using hd
        rw [if_neg hd, List.append_nil] at hsn
        have HSN := Lib.hid hsn
        clear hc hy ho hb hsn hX hxn hjL hd
        go_wp2_with fail
        go_roundw
        case rel => exact ⟨j + 1, A2, c2, by go_num, hlt, by rw [HSN.out, ← HXN.out], by rw [HSN.out, ← HXN.out]; exact HO.out, HB.out⟩
        case measure => simp [intOf]; (have := HMS.out; omega)
    · have hjn : j = n := by omega
      have he : L.take j = L := by rw [hjn, HN.out, List.take_length]
      rw [he] at HO ⊢
      clear ho hb he
      go_wp2_with fail
      go_ret
      exact ⟨A2, c2, rfl, HO.out, HB.out⟩
/-- between one and the next of Same -/
def SmI (w : World) (n : Nat) (xs ys : List Int) (i : Value) (wr : World) : Prop := ∃ j : Nat, i = .int .i64 (j : Int) ∧ j ≤ n ∧ (∀ k, k < j → xs.getD k 0 = ys.getD k 0) ∧ Below w.heap.size w wr
theorem below_drewN {B : Nat} {w w' : World} (h : Below B w w') (n : Nat) : Below B w (w'.drewN n) := ⟨h.os, h.tape, h.output, h.size, h.block⟩
set_option maxRecDepth 100000 in
set_option maxHeartbeats 1000000 in
theorem rsame_any {w : World} {A A' : Option Addr} {n n' c c' : Nat} {xs ys : List Int} (h : Rws encC w w.heap.size A n c xs) (h' : Rws encC w w.heap.size A' n' c' ys) :
    Calls Try.prog 16 #[.slice A n c, .slice A' n' c'] w fun e w' => e = .returned (.bool (decide (xs = ys))) ∧ Below w.heap.size w w' := by
  have HA := Lib.hid h
  have HB := Lib.hid h'
  have hle := h.le
  have hcap := h.cap
  unfold maxLen at hcap
  have HLN := Lib.hid (And.intro h.len h'.len)
  clear h h'
  by_cases hn : n = n'
  · subst hn
    have z : ((n : Int) != (n : Int)) = false := by simp
    go_enter Try.func16, Try.ntmps16
    go_wp2_with fail
    go_loopw [5] (fun i wr => SmI w n xs ys i wr) (fun i _ => n - (intOf i).toNat)
    case atStart => exact ⟨0, rfl, Nat.zero_le _, fun k hk => absurd hk (Nat.not_lt_zero _), Below.refl _ _⟩
    case round =>
      obtain ⟨j, rfl, hj, hsm, hb⟩ := hrel
      have HBL := Lib.hid hb
      have HSM := Lib.hid hsm
      by_cases hlt : j < n
      · obtain ⟨g, o, rfl, _, hc⟩ := Rws.at_ encC_len (Rws.then_ HA.out hb) hlt
        obtain ⟨g', o', rfl, _, hc'⟩ := Rws.at_ encC_len (Rws.then_ HB.out hb) hlt
        have a0 := hc j hlt 0 _ (by decide) rfl
        have b0 := hc' j hlt 0 _ (by decide) rfl
        simp only [Nat.mul_one, Nat.add_zero] at a0 b0
        obtain ⟨x, hx⟩ : ∃ x, x = xs.getD j 0 := ⟨_, rfl⟩
        obtain ⟨y, hy⟩ : ∃ x, x = ys.getD j 0 := ⟨_, rfl⟩
        rw [show xs.getD j default = xs.getD j 0 from rfl, ← hx] at a0
        rw [show ys.getD j default = ys.getD j 0 from rfl, ← hy] at b0
        have z0 : (0 : Int) ≤ (j : Int) := Int.natCast_nonneg _
        have z1 : (j : Int) < (n : Int) := Int.ofNat_lt.2 hlt
        have HMS := Lib.hid (show n - (j + 1) < n - j by omega)
        by_cases e : x = y
        · have z2 : (x != y) = false := by rw [e]; simp
          have HE := Lib.hid (show ∀ k, k < j + 1 → xs.getD k 0 = ys.getD k 0 from fun k hk => by
            rcases Nat.lt_succ_iff_lt_or_eq.1 hk with hk | rfl
            · exact HSM.out k hk
            · rw [← hx, ← hy]; exact e)
          subst e
          clear hc hc' hx hy hb hsm
          go_wp2_with fail
          go_quiet (fail)
          go_wp2_with fail
          go_roundw
          case rel => exact ⟨j + 1, by go_num, hlt, HE.out, below_drewN HBL.out _⟩
          case measure => simp [intOf]; (have := HMS.out; omega)
        · have z2 : (x != y) = true := by simpa using e
          have HE := Lib.hid (show decide (xs = ys) = false from decide_eq_false fun h => e (by rw [hx, hy, h]))
          clear hc hc' hx hy hb hsm e
          go_wp2_with fail
          go_quiet (fail)
          go_wp2_with fail
          go_ret
          exact ⟨by rw [HE.out]; rfl, below_drewN HBL.out _⟩
      · have HE := Lib.hid (show decide (xs = ys) = true from decide_eq_true (List.ext_getElem? fun k => by
          by_cases hk : k < n
          · have := HSM.out k (by omega)
            rw [List.getD_eq_getElem?_getD, List.getD_eq_getElem?_getD, List.getElem?_eq_getElem (by have := HLN.out.1; omega), List.getElem?_eq_getElem (by have := HLN.out.2; omega)] at this
            rw [List.getElem?_eq_getElem (by have := HLN.out.1; omega), List.getElem?_eq_getElem (by have := HLN.out.2; omega)]
            exact congrArg some this
          · rw [List.getElem?_eq_none (by have := HLN.out.1; omega), List.getElem?_eq_none (by have := HLN.out.2; omega)]))
        clear hb hsm
        go_wp2_with fail
        go_ret
        exact ⟨by rw [HE.out]; rfl, HBL.out⟩
  · have z : ((n : Int) != (n' : Int)) = true := by rw [bne_iff_ne]; omega
    have HE := Lib.hid (show decide (xs = ys) = false from decide_eq_false fun h => hn (by rw [← HLN.out.1, ← HLN.out.2, h]))
    go_enter Try.func16, Try.ntmps16
    go_wp2_with fail
    go_ret
    exact ⟨by rw [HE.out]; rfl, Below.refl _ _⟩
end Go.Proofs.Ytjplchajopkpcaa
