/-
  slices.Clone, slices.Equal at rows of units; parts of them; 'append' as a law at one step. Conditions: rows of at most a thousand units where each says so.
-/
import Derived.Test.YthnenmglmebljaaEdM
namespace Go.Proofs.Ythnenmglmebljaa
open Go.RowKit
open Pl (Un)

theorem run_append_crs2 (w : World) (ty : TypeId) (base : Nat) (A : Option Addr) (n c : Nat) (cs : List Int) (hown : OwnC w base (.slice A n c) cs)
    (B : Nat) (A' : Option Addr) (m c' : Nat) (ds : List Int) (hsrc : Crs w B A' m c' ds) (hfit : (n + m) * 4 ≤ 140737488355328) (hbase : base ≤ w.heap.size) :
    ∃ A2 c2 w', (Builtin.append_ #[22, 22] ty #[.slice A n c, .slice A' m c']).run Try.prog w = .ok (.slice A2 (n + m) c2) w' ∧ OwnC w' base (.slice A2 (n + m) c2) (cs ++ ds) ∧ w.grownBy w' (Value.ownBlock (.slice A n c)) ∧
      (Value.ownBlock (.slice A2 (n + m) c2) = Value.ownBlock (.slice A n c) ∨ Value.ownBlock (.slice A2 (n + m) c2) = some w.heap.size) := by
  obtain ⟨i0, hi, hz0, hz1, hz2⟩ := info_parts infoChar
  obtain ⟨hn, _⟩ := hown.crs
  have hm := hsrc.len
  have ho : w.ownsRow base 42 1 (.slice A n c) n (cellsC cs) := by rw [hn]; rw [hn] at hown; exact hown.1
  cases A' with
  | none =>
    have hc0 := hsrc.nil_ rfl
    have hle := hsrc.le
    obtain rfl : c' = 0 := hc0
    obtain rfl : m = 0 := by omega
    obtain rfl : ds = [] := List.eq_nil_of_length_eq_zero hm
    exact ⟨A, c, w, run_append_owned_none w base 22 ty 42 i0 1 Try.underlying22 hi (.slice A n c) n (cellsC cs) ho, by rw [List.append_nil]; exact hown, World.grownBy.refl w _, Or.inl rfl⟩
  | some ad =>
    obtain ⟨v', w1, hr, hv, hg, _, hat⟩ := run_append_own_at (P := Try.prog) w base 22 ty 42 i0 (.int .i32 0) 1 4 Try.underlying22 hi hz0 hz1 hz2 rfl (by decide) (.slice A n c) n (cellsC cs) ho ad m c' (cellsC ds)
      (by rw [len_cellsC, hm, Nat.mul_one]) (hsrc.src.2 ad rfl) (cellsC_one ds) (by unfold maxLen; omega) hfit hbase
    have hV : OwnC w1 base v' (cs ++ ds) := by
      refine ⟨?_, fun x hx => (List.mem_append.1 hx).elim (hown.2 x) (hsrc.js x)⟩
      rw [List.length_append, ← hn, hm, cellsC_append]
      exact hv
    obtain ⟨A2, c2, e, hb2, _⟩ := hV.shape
    have hl2 : (cs ++ ds).length = n + m := by rw [List.length_append, ← hn, hm]
    rw [hl2] at e
    subst e
    exact ⟨A2, c2, w1, hr, hV, hg, hat⟩
theorem step_append_crs {ops : Array Oper} {o : Oper} {a : Act} {K : Act → World → Prop} {Q : Exit → Act → World → Prop} {E : Prop} (w : World) (hgd : o.guard = none) (s x : Operand)
    (ho : o.op = .call { callee := .builtin .append, args := #[s, x], argTypes := #[22, 22] })
    (base : Nat) (A : Option Addr) (n c : Nat) (cs : List Int) (hs : a.eval s = .slice A n c) (hown : OwnC w base (.slice A n c) cs)
    (B : Nat) (A' : Option Addr) (m c' : Nat) (ds : List Int) (hx : a.eval x = .slice A' m c') (hsrc : Crs w B A' m c' ds)
    (hfit : (n + m) * 4 ≤ 140737488355328) (hbase : base ≤ w.heap.size)
    (h : ∀ A2 c2 w', OwnC w' base (.slice A2 (n + m) c2) (cs ++ ds) → w.grownBy w' (Value.ownBlock (.slice A n c)) →
      (Value.ownBlock (.slice A2 (n + m) c2) = Value.ownBlock (.slice A n c) ∨ Value.ownBlock (.slice A2 (n + m) c2) = some w.heap.size) → K (a.put o.dst (.slice A2 (n + m) c2)) w') :
    if Region.wanted o (yielded ops a.tmps) = true then Oper.wp Try.prog o a w K Q else E := by
  have hw : Region.wanted o (yielded ops a.tmps) = true := by simp [Region.wanted, hgd]
  rw [if_pos hw]
  obtain ⟨A2, c2, w1, hr, h1, h2, h3⟩ := run_append_crs2 w o.type base A n c cs hown B A' m c' ds hsrc hfit hbase
  unfold Oper.wp execOp
  simp only [ho, resolve, invoke, builtin, Sem.run_bind, Sem.run_pure, Result.andThen_ok, List.map_toArray, List.map_cons, List.map_nil, hs, hx, hr]
  exact h A2 c2 w1 h1 h2 h3
section
variable {α : Type} {enc : α → List Value} {k : Nat} {e : TypeId}
theorem step_append_rws {ops : Array Oper} {o : Oper} {a : Act} {K : Act → World → Prop} {Q : Exit → Act → World → Prop} {E : Prop} (hk : ∀ x, (enc x).length = k) (h1 : ∀ x, ∀ u ∈ enc x, u.oneCell' = true) {t : TypeId} {z : Value} {bytes : Nat} (hu : Try.prog.underlying t = some (.slice e)) (hinfo : (Try.prog.info? e).map (fun i => (i.zero, i.size, i.bytes)) = some (some z, k, bytes)) (hzs : z.cells.size = k) (hsz : 0 < k)
    (w : World) (hgd : o.guard = none) (s x : Operand) (ho : o.op = .call { callee := .builtin .append, args := #[s, x], argTypes := #[t, t] })
    (base : Nat) (A : Option Addr) (n c : Nat) (l : List α) (hs : a.eval s = .slice A n c) (hown : OwnR enc k e w base (.slice A n c) l)
    (B : Nat) (A' : Option Addr) (m c' : Nat) (d : List α) (hx : a.eval x = .slice A' m c') (hsrc : Rws enc w B A' m c' d) (hmax : n + m ≤ maxLen) (hfit : (n + m) * bytes ≤ 140737488355328) (hbase : base ≤ w.heap.size)
    (h : ∀ A2 c2 w', OwnR enc k e w' base (.slice A2 (n + m) c2) (l ++ d) → w.grownBy w' (Value.ownBlock (.slice A n c)) →
      (Value.ownBlock (.slice A2 (n + m) c2) = Value.ownBlock (.slice A n c) ∨ Value.ownBlock (.slice A2 (n + m) c2) = some w.heap.size) → K (a.put o.dst (.slice A2 (n + m) c2)) w') :
    if Region.wanted o (yielded ops a.tmps) = true then Oper.wp Try.prog o a w K Q else E := by
  have hw : Region.wanted o (yielded ops a.tmps) = true := by simp [Region.wanted, hgd]
  rw [if_pos hw]
  obtain ⟨A2, c2, w1, hr, h2, h3, h4⟩ := run_append_rws hk h1 hu hinfo hzs hsz w o.type base A n c l hown B A' m c' d hsrc hmax hfit hbase
  unfold Oper.wp execOp
  simp only [ho, resolve, invoke, builtin, Sem.run_bind, Sem.run_pure, Result.andThen_ok, List.map_toArray, List.map_cons, List.map_nil, hs, hx, hr]
  exact h A2 c2 w1 h2 h3 h4
end
theorem OwnC.then_ {w w' : World} {base : Nat} {v : Value} {cs : List Int} (h : OwnC w base v cs) (hb : Below w.heap.size w w') : OwnC w' base v cs := h.below hb fun g hg => (h.lt g hg).2
theorem eqlC_nil (A : Option Addr) (n c : Nat) (w : World) : (binOp .eql 22 (.slice A n c) (.slice none 0 0)).run Try.prog w = .ok (.bool A.isNone) w := Lib.run_eql_slice_nil w _ _ A n c 0 0 Try.underlying22
/-- a call's answer: code points in new memory, nothing that was there turned -/
def RetC (w : World) (cs : List Int) (e : Ending) (w' : World) : Prop := ∃ A c, e = .returned (.slice A cs.length c) ∧ OwnC w' w.heap.size (.slice A cs.length c) cs ∧ Below w.heap.size w w'
theorem eqlU_nil (A : Option Addr) (n c : Nat) (w : World) : (binOp .eql 27 (.slice A n c) (.slice none 0 0)).run Try.prog w = .ok (.bool A.isNone) w := Lib.run_eql_slice_nil w _ _ A n c 0 0 Try.underlying27
/-- a call's answer: a row of units in new memory, nothing that was there turned -/
def RetU (w : World) (l : List Un) (e : Ending) (w' : World) : Prop := ∃ A c, e = .returned (.slice A l.length c) ∧ OwnU w' w.heap.size (.slice A l.length c) l ∧ Below w.heap.size w w'
set_option maxRecDepth 100000 in
theorem units_lit (w : World) (l : List Un) (hl : l.length ≤ maxLen) : OwnU (w.alloc (.cells (cellsR encU l).toArray 44)) w.heap.size (.slice (some ⟨w.heap.size, 0, none⟩) l.length l.length) l := OwnR.lit encU_len w l hl
theorem OwnU.uns {w : World} {base n c : Nat} {A : Option Addr} {l : List Un} (h : OwnU w base (.slice A n c) l) : Uns w w.heap.size A n c l := (OwnR.rws encU_len h).2
theorem OwnU.len {w : World} {base n c : Nat} {A : Option Addr} {l : List Un} (h : OwnU w base (.slice A n c) l) : n = l.length := (OwnR.rws encU_len h).1
set_option maxRecDepth 100000 in
set_option maxHeartbeats 400000 in
theorem cloneU_any (A : Option Addr) (n c : Nat) (l : List Un) (w : World) (h1 : Uns w w.heap.size A n c l) (hr : n ≤ 1000) :
    Calls Try.prog 39 #[.slice A n c] w (RetU w l) := by
  cases A with
  | none =>
    have hc : c = 0 := h1.nil_ rfl
    have hn : n = 0 := by have := h1.le; omega
    subst hc hn
    obtain rfl : l = [] := List.eq_nil_of_length_eq_zero h1.len
    have q := eqlU_nil none 0 0
    go_enter Try.func39, Try.ntmps39
    go_wp2_with fail
    go_ret
    exact ⟨none, 0, rfl, OwnR.nil_ _ _ _ _ _, Below.refl _ _⟩
  | some ad =>
    have q := eqlU_nil (some ad) n c
    have hb1 : Below w.heap.size w (w.alloc (.cells #[] 44)) := (Below.refl _ _).alloc (Nat.le_refl _) _
    have HB := Lib.hid (h1.below hb1 (Nat.le_refl _))
    have HV := Lib.hid (show OwnU (w.alloc (.cells #[] 44)) w.heap.size (.slice (some ⟨w.heap.size, 0, none⟩) 0 0) [] from units_lit w [] (by simp))
    have HL := Lib.hid h1.len
    have HB1 := Lib.hid hb1
    clear h1 hb1
    go_enter Try.func39, Try.ntmps39
    go_wp2_with (at_builtin; refine wpList_append_rws encU_len encU_one Try.underlying27 infoUn (by decide) (by decide) (w.alloc (.cells #[] 44)) rfl (.tmp 5) (.tmp 6) rfl w.heap.size _ _ _ [] (by rfl) HV.out w.heap.size _ _ _ l (by rfl) HB.out (by unfold maxLen; omega) (by omega) (by simp) ?_)
    intro A2 c2 w2 hV2 hg2 hx2
    have hb2 := OwnR.grownBelow HV.out hg2 HB1.out (by simp)
    clear hx2 hg2
    have hV2 : OwnU w2 w.heap.size (.slice A2 n c2) l := by simpa using hV2
    have H2 := Lib.hid (And.intro hV2 hb2)
    clear hV2 hb2
    go_wp2_with fail
    go_ret
    refine ⟨A2, c2, ?_, ?_, H2.out.2⟩
    · rw [HL.out]; simp
    · rw [HL.out]; exact H2.out.1
def SRel (w : World) (n : Nat) (xs bs : List Int) (i : Value) (wr : World) : Prop := ∃ j : Nat, i = .int .i64 (j : Int) ∧ j ≤ n ∧ Below w.heap.size w wr ∧ ∀ t, t < j → xs.getD t 0 = bs.getD t 0
theorem ext_getD {xs bs : List Int} (hl : xs.length = bs.length) (h : ∀ t, t < xs.length → xs.getD t 0 = bs.getD t 0) : xs = bs := by
  refine List.ext_getElem hl fun i h1 h2 => ?_
  have := h i h1
  rwa [List.getD_eq_getElem?_getD, List.getD_eq_getElem?_getD, List.getElem?_eq_getElem h1, List.getElem?_eq_getElem h2] at this
def URel (w : World) (n : Nat) (xs bs : List Un) (i : Value) (wr : World) : Prop := ∃ j : Nat, i = .int .i64 (j : Int) ∧ j ≤ n ∧ Below w.heap.size w wr ∧ ∀ t, t < j → xs.getD t default = bs.getD t default
theorem ext_getU {xs bs : List Un} (hl : xs.length = bs.length) (h : ∀ t, t < xs.length → xs.getD t default = bs.getD t default) : xs = bs := by
  refine List.ext_getElem hl fun i h1 h2 => ?_
  have := h i h1
  rwa [List.getD_eq_getElem?_getD, List.getD_eq_getElem?_getD, List.getElem?_eq_getElem h1, List.getElem?_eq_getElem h2] at this
set_option maxRecDepth 100000 in
set_option maxHeartbeats 400000 in
theorem equalU_any (A A' : Option Addr) (n c m c' : Nat) (xs bs : List Un) (w : World) (h1 : Uns w w.heap.size A n c xs) (h2 : Uns w w.heap.size A' m c' bs) :
    Calls Try.prog 34 #[.slice A n c, .slice A' m c'] w fun e w' => e = .returned (.bool (decide (xs = bs))) ∧ Below w.heap.size w w' := by
  have hcap1 := h1.cap
  have hle1 := h1.le
  have hcap2 := h2.cap
  have hle2 := h2.le
  unfold maxLen at hcap1 hcap2
  have HL1 := Lib.hid h1.len
  have HL2 := Lib.hid h2.len
  by_cases hnm : n = m
  · subst hnm
    have H1 := Lib.hid h1
    have H2 := Lib.hid h2
    clear h1 h2
    go_enter Try.func34, Try.ntmps34
    go_wp2_with fail
    go_loopw [13] (fun i wr => URel w n xs bs i wr) (fun i _ => n - (intOf i).toNat)
    case atStart => exact ⟨0, rfl, Nat.zero_le _, Below.refl _ _, fun t ht => by omega⟩
    case round =>
      obtain ⟨j, rfl, hj, hb, hs⟩ := hrel
      have HB := Lib.hid hb
      have HS := Lib.hid hs
      clear hb hs
      by_cases hlt : j < n
      · obtain ⟨g1, o1, rfl, hg1, hc1⟩ := Uns.at_ (Rws.below H1.out HB.out (Nat.le_refl _)) hlt
        obtain ⟨g2, o2, rfl, hg2, hc2⟩ := Uns.at_ (Rws.below H2.out HB.out (Nat.le_refl _)) hlt
        obtain ⟨a0, a1, a2, a3, a4⟩ := hc1 j hlt
        obtain ⟨b0, b1, b2, b3, b4⟩ := hc2 j hlt
        have HNX := Lib.hid (show xs.getD j default = bs.getD j default → ∀ t, t < j + 1 → xs.getD t default = bs.getD t default from fun h t ht => by
          rcases Nat.lt_or_ge t j with h1 | h1
          · exact HS.out t h1
          · obtain rfl : t = j := by omega
            exact h)
        have HNE := Lib.hid (show xs.getD j default ≠ bs.getD j default → xs ≠ bs from fun h e => h (by rw [e]))
        clear hc1 hc2
        obtain ⟨⟨k, p, ch, x, y⟩, hx⟩ : ∃ x, x = xs.getD j default := ⟨_, rfl⟩
        obtain ⟨⟨k', p', ch', x', y'⟩, hy⟩ : ∃ y, y = bs.getD j default := ⟨_, rfl⟩
        rw [← hx] at a0 a1 a2 a3 a4 HNX HNE
        rw [← hy] at b0 b1 b2 b3 b4 HNX HNE
        simp only at a0 a1 a2 a3 a4 b0 b1 b2 b3 b4
        clear hx hy
        have z0 : (0 : Int) ≤ (j : Int) := by omega
        have z1 : (j : Int) < (n : Int) := by omega
        have hq := fun w => neq_unit k p ch x y k' p' ch' x' y' w
        have hgd := fun x1 y1 w => guard_unit .neq x1 y1 #[.int .i64 k, .int .i64 p, .int .i32 ch, .int .u32 x, .int .u64 y] #[.int .i64 k', .int .i64 p', .int .i32 ch', .int .u32 x', .int .u64 y'] w
        by_cases hxy : (⟨k, p, ch, x, y⟩ : Un) = ⟨k', p', ch', x', y'⟩
        · have HN2 := Lib.hid (HNX.out hxy)
          rw [decide_eq_true hxy] at hq
          clear hxy
          go_wp2_with fail
          go_region_held3 (fun w' => w'.cell? ⟨g1, o1 + j * 5, none⟩ = some (.int .i64 k) ∧ w'.cell? ⟨g1, o1 + j * 5 + 1, none⟩ = some (.int .i64 p) ∧ w'.cell? ⟨g1, o1 + j * 5 + 2, none⟩ = some (.int .i32 ch) ∧ w'.cell? ⟨g1, o1 + j * 5 + 3, none⟩ = some (.int .u32 x) ∧ w'.cell? ⟨g1, o1 + j * 5 + 4, none⟩ = some (.int .u64 y) ∧ w'.cell? ⟨g2, o2 + j * 5, none⟩ = some (.int .i64 k') ∧ w'.cell? ⟨g2, o2 + j * 5 + 1, none⟩ = some (.int .i64 p') ∧ w'.cell? ⟨g2, o2 + j * 5 + 2, none⟩ = some (.int .i32 ch') ∧ w'.cell? ⟨g2, o2 + j * 5 + 3, none⟩ = some (.int .u32 x') ∧ w'.cell? ⟨g2, o2 + j * 5 + 4, none⟩ = some (.int .u64 y')) (go_keep) (fail)
          go_wp2_with fail
          go_roundw
          case rel => exact ⟨j + 1, by go_num, by omega, below_drawn HB.out, HN2.out⟩
          case measure => simp [intOf]; omega
        · have HN2 := Lib.hid (HNE.out hxy)
          rw [decide_eq_false hxy] at hq
          clear hxy
          go_wp2_with fail
          go_region_held3 (fun w' => w'.cell? ⟨g1, o1 + j * 5, none⟩ = some (.int .i64 k) ∧ w'.cell? ⟨g1, o1 + j * 5 + 1, none⟩ = some (.int .i64 p) ∧ w'.cell? ⟨g1, o1 + j * 5 + 2, none⟩ = some (.int .i32 ch) ∧ w'.cell? ⟨g1, o1 + j * 5 + 3, none⟩ = some (.int .u32 x) ∧ w'.cell? ⟨g1, o1 + j * 5 + 4, none⟩ = some (.int .u64 y) ∧ w'.cell? ⟨g2, o2 + j * 5, none⟩ = some (.int .i64 k') ∧ w'.cell? ⟨g2, o2 + j * 5 + 1, none⟩ = some (.int .i64 p') ∧ w'.cell? ⟨g2, o2 + j * 5 + 2, none⟩ = some (.int .i32 ch') ∧ w'.cell? ⟨g2, o2 + j * 5 + 3, none⟩ = some (.int .u32 x') ∧ w'.cell? ⟨g2, o2 + j * 5 + 4, none⟩ = some (.int .u64 y')) (go_keep) (fail)
          go_wp2_with fail
          go_ret
          exact ⟨ret_bool (decide_eq_false HN2.out).symm, below_drawn HB.out⟩
      · have hjn : j = n := by omega
        have HE := Lib.hid (show xs = bs from ext_getU (HL1.out.trans HL2.out.symm) (fun t ht => HS.out t (by have := HL1.out; omega)))
        clear hjn
        go_wp2_with fail
        go_ret
        exact ⟨ret_bool (decide_eq_true HE.out).symm, HB.out⟩
  · have HN := Lib.hid (show xs ≠ bs from fun e => hnm (by rw [← HL1.out, ← HL2.out, e]))
    have hb : ((n : Int) != (m : Int)) = true := by rw [bne_iff_ne]; omega
    clear h1 h2
    go_enter Try.func34, Try.ntmps34
    go_wp2_with fail
    go_ret
    exact ⟨ret_bool (decide_eq_false HN.out).symm, Below.refl _ _⟩
set_option maxRecDepth 100000 in
theorem cellsUn : Try.prog.cellsOf 44 = 5 := by kernel_rfl
set_option maxRecDepth 100000 in
theorem slice_toU (A : Option Addr) (n c k : Nat) (hk : k ≤ c) : ∀ w', (Instr.sliceAt 27 (.slice A n c) none (some (.int .i64 (k : Int))) none).run Try.prog w' = .ok (.slice A k c) w' := by
  intro w'
  obtain ⟨i0, hi, _⟩ := info_parts infoUn
  have hu : Try.prog.underlying 27 = some (.slice (Try.prog.elem 27)) := by kernel_rfl
  have he : Try.prog.elem 27 = 44 := by kernel_rfl
  rw [run_sliceAt_slice w' _ _ _ _ _ hu, run_slice_h w' 27 A n c hu .i64 (k : Int) (by omega) (by omega), he, run_sizeOf w' hi]
  simp only [Result.andThen, sliced, Int.toNat_natCast, Nat.zero_mul, Nat.sub_zero]
  congr 2
  split
  · rfl
  · cases A <;> rfl
set_option maxRecDepth 100000 in
theorem slice_fromU (A : Option Addr) (n c k : Nat) (hk : k ≤ n) : ∀ w', (Instr.sliceAt 27 (.slice A n c) (some (.int .i64 (k : Int))) none none).run Try.prog w' = .ok (.slice (if c = k then A else A.map (·.add (k * 5))) (n - k) (c - k)) w' := by
  intro w'
  obtain ⟨i0, hi, _⟩ := info_parts infoUn
  have hu : Try.prog.underlying 27 = some (.slice (Try.prog.elem 27)) := by kernel_rfl
  have he : Try.prog.elem 27 = 44 := by kernel_rfl
  rw [run_sliceAt_slice w' _ _ _ _ _ hu, run_slice_l w' 27 A n c hu .i64 (k : Int) (by omega) (by omega), he, run_sizeOf w' hi]
  simp only [Result.andThen, sliced, Int.toNat_natCast, cellsUn]
theorem Rws.upto {α : Type} {enc : α → List Value} {k : Nat} (hk : ∀ x, (enc x).length = k) {w : World} {B n c i : Nat} {A : Option Addr} {l : List α} (h : Rws enc w B A n c l) (hi : i ≤ n) : Rws enc w B A i c (l.take i) := by
  have hl := h.len
  have hle := h.le
  refine ⟨by rw [List.length_take]; omega, by omega, h.cap, h.nil_, fun h0 => ?_⟩
  obtain ⟨g, o, e, hg, hc⟩ := h.2.2.2.2 (by omega)
  refine ⟨g, o, e, hg, fun j u hj => hc j u ?_⟩
  rw [← cellsR_take hk, List.getElem?_take] at hj
  split at hj
  · exact hj
  · cases hj
theorem Rws.from_ {α : Type} {enc : α → List Value} {k : Nat} (hk : ∀ x, (enc x).length = k) {w : World} {B n c i : Nat} {A : Option Addr} {l : List α} (h : Rws enc w B A n c l) (hi : i ≤ n) : Rws enc w B (if c = i then A else A.map (·.add (i * k))) (n - i) (c - i) (l.drop i) := by
  have := h.part hk hi (Nat.le_refl n)
  rwa [List.take_of_length_le (by rw [List.length_drop, h.len]; omega)] at this
/-- append onto units of one's own, at an operation whose guard is met -/
theorem wpList_append_unit {ops : Array Oper} {rest : List Oper} {o : Oper} {a : Act} {Q : Exit → Act → World → Prop} (w : World) (hgd : Region.wanted o (yielded ops a.tmps) = true) (s x : Operand) (ho : o.op = .call { callee := .builtin .append, args := #[s, x], argTypes := #[27, 27] })
    (base : Nat) (A : Option Addr) (n c : Nat) (l : List Un) (hs : a.eval s = .slice A n c) (hown : OwnU w base (.slice A n c) l)
    (B : Nat) (A' : Option Addr) (m c' : Nat) (d : List Un) (hx : a.eval x = .slice A' m c') (hsrc : Uns w B A' m c' d) (hmax : n + m ≤ 1000) (hbase : base ≤ w.heap.size)
    (h : ∀ A2 c2 w', OwnU w' base (.slice A2 (n + m) c2) (l ++ d) → w.grownBy w' (Value.ownBlock (.slice A n c)) → wpList Try.prog ops Q rest (a.put o.dst (.slice A2 (n + m) c2)) w') : wpList Try.prog ops Q (o :: rest) a w := by
  obtain ⟨A2, c2, w1, hr, h2, h3, _⟩ := run_append_rws encU_len encU_one Try.underlying27 infoUn (by decide) (by decide) w o.type base A n c l hown B A' m c' d hsrc (by unfold maxLen; omega) (by omega) hbase
  refine BigFrame.wpList_want hgd fun K hK => ?_
  unfold Oper.wp execOp
  simp only [ho, resolve, invoke, builtin, Sem.run_bind, Sem.run_pure, Result.andThen_ok, List.map_toArray, List.map_cons, List.map_nil, hs, hx, hr]
  exact hK _ _ (h A2 c2 w1 h2 h3)
/-- a row's value, told by what it reads as -/
def RowU (l : List Un) (v : Value) (w : World) : Prop := ∃ A c, v = .slice A l.length c ∧ Uns w w.heap.size A l.length c l
theorem RowU.stb {l : List Un} : Rg.Stb (RowU l) := fun _ _ _ ⟨A, c, e, h⟩ hb => ⟨A, c, e, Rws.then_ h hb⟩
/-- one unit, written out -/
theorem unit_row (w : World) (k p c x y : Int) : OwnU (w.alloc (.cells #[.int .i64 k, .int .i64 p, .int .i32 c, .int .u32 x, .int .u64 y] 44)) w.heap.size (.slice (some ⟨w.heap.size, 0, none⟩) 1 1) [⟨k, p, c, x, y⟩] := units_lit w [⟨k, p, c, x, y⟩] (by simp [maxLen])
theorem take_snoc {l : List Un} {j : Nat} (hj : j < l.length) : l.take (j + 1) = l.take j ++ [l.getD j default] := by
  rw [List.take_add_one, List.getElem?_eq_getElem hj, List.getD_eq_getElem?_getD, List.getElem?_eq_getElem hj]; rfl

end Go.Proofs.Ythnenmglmebljaa
