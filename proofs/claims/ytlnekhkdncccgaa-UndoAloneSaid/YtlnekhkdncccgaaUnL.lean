/-
  What UndoAlone asks, in plain words: Ins at a text's end; its closure; the state of the region that appends to the later row. Conditions: those that each states.
-/
import Derived.Test.YtlnekhkdncccgaaUnK
namespace Go.Proofs.Ytlnekhkdncccgaa
open Go.RowKit
open Pl (Un)

namespace Pl
/-- Ins one behind the other, from a place on -/
def latU (p i : Nat) : Un := ⟨1, ((p + i : Nat) : Int), 3000 + (i : Int), 2, 1⟩
def lat (p M : Nat) : List Un := (List.range M).map (latU p)
def latC (M : Nat) : List Int := (List.range M).map fun i : Nat => 3000 + (i : Int)
theorem lat_len (p M : Nat) : (lat p M).length = M := by simp [lat]
theorem lat_succ (p M : Nat) : lat p (M + 1) = lat p M ++ [latU p M] := by unfold lat; rw [List.range_succ, List.map_append]; rfl
theorem latC_succ (M : Nat) : latC (M + 1) = latC M ++ [3000 + (M : Int)] := by unfold latC; rw [List.range_succ, List.map_append]; rfl
theorem latC_len (M : Nat) : (latC M).length = M := by simp [latC]
theorem lat_getD (p M i : Nat) (h : i < M) : (lat p M).getD i default = latU p i := by
  unfold lat; rw [List.getD_eq_getElem?_getD, List.getElem?_map, List.getElem?_range h]; rfl
theorem lat_mem {p M : Nat} {u : Un} (h : u ∈ lat p M) : ∃ i, i < M ∧ u = latU p i := by
  obtain ⟨i, hi, rfl⟩ := List.mem_map.1 h
  exact ⟨i, List.mem_range.1 hi, rfl⟩
theorem lat_end (cs : List Int) (M : Nat) (hM : M ≤ 100) : FitR (lat cs.length M) cs ∧ leave (lat cs.length M) cs = cs ++ latC M := by
  induction M with
  | zero => exact ⟨trivial, by simp [lat, latC, leave]⟩
  | succ M ih =>
    obtain ⟨h1, h2⟩ := ih (by omega)
    have hl : (cs ++ latC M).length = cs.length + M := by rw [List.length_append, latC_len]
    rw [lat_succ, latC_succ, fitR_append, leave_append, h2]
    refine ⟨⟨h1, ?_, trivial⟩, ?_⟩
    · exact fit_ins 2 1 (by rw [hl]; exact Nat.le_refl _) (by unfold May; omega)
    · show behind (latU cs.length M) (cs ++ latC M) = _
      unfold latU
      rw [behind_ins]
      unfold insL
      rw [← hl, List.take_length, List.drop_length, List.append_assoc]
theorem lat_far (p q M : Nat) (hq : q ≤ p) (hp : p ≤ 1000) (hM : M ≤ 100) : Far q (lat p M) ∧ ∀ u ∈ lat p M, ∃ r : Nat, u.p = (r : Int) ∧ r ≤ 1100 := by
  refine ⟨fun u hu => ?_, fun u hu => ?_⟩
  · obtain ⟨i, hi, rfl⟩ := lat_mem hu
    exact ⟨rfl, by unfold May latU; simp only; omega, p + i, rfl, by omega, by omega⟩
  · obtain ⟨i, hi, rfl⟩ := lat_mem hu
    exact ⟨p + i, rfl, by omega⟩
theorem past_one (a b : List Un) : pastR a [b] = (bothR a b).1 := rfl
/-- what UndoAlone asks -/
theorem alone {A : List Un} {T : List Int} {M : Nat} (hf : FitR A T) (hc : Filled A T) (hT : T.length ≤ 40) (hA : A.length ≤ 20) (hM : M ≤ 8) :
    cleanL (pastR (invR 1 7 A) [lat ((leave A T).length + 1) M]) = cleanL (invR 1 7 A) ∧
    FitR (lat ((leave A T).length + 1) M) (leave A T ++ [900]) ∧ leave (lat ((leave A T).length + 1) M) (leave A T ++ [900]) = leave A T ++ [900] ++ latC M ∧
    FitR (cleanL (invR 1 7 A)) (leave A T ++ [900] ++ latC M) ∧ leave (cleanL (invR 1 7 A)) (leave A T ++ [900] ++ latC M) = T ++ [900] ++ latC M ∧
    FitR (cleanL (invR 1 7 A)) (leave A T ++ [900]) ∧ leave (cleanL (invR 1 7 A)) (leave A T ++ [900]) = T ++ [900] ∧
    FitR (lat (T.length + 1) M) (T ++ [900]) ∧ leave (lat (T.length + 1) M) (T ++ [900]) = T ++ [900] ++ latC M := by
  obtain ⟨g1, g2, _⟩ := inv_back hf hc 1 7
  have hl := len_leave_le hf
  obtain ⟨f1, f2⟩ := lat_far ((leave A T).length + 1) ((leave A T).length + 1) M (Nat.le_refl _) (by omega) (by omega)
  have hb := both_far (invR 1 7 A) (cs := leave A T) (b := lat ((leave A T).length + 1) M) (q := (leave A T).length + 1) (by rw [inv_len]; omega) g1 (by omega) (by rw [inv_len]; omega) f1 (fun u hu => by
    obtain ⟨r, e, h⟩ := f2 u hu
    exact ⟨r, e, by rw [inv_len]; omega⟩)
  have e1 : (leave A T ++ [900]).length = (leave A T).length + 1 := by simp
  have e2 : (T ++ [900]).length = T.length + 1 := by simp
  have l1 := lat_end (leave A T ++ [900]) M (by omega)
  have l2 := lat_end (T ++ [900]) M (by omega)
  rw [e1] at l1
  rw [e2] at l2
  have t1 := leave_tail (t := [900] ++ latC M) g1
  have t2 := leave_tail (t := [900]) g1
  rw [g2] at t1 t2
  refine ⟨by rw [past_one, hb], l1.1, l1.2, ?_, ?_, ?_, ?_, l2.1, l2.2⟩
  · rw [List.append_assoc]; exact fit_clean _ _ t1.2
  · rw [leave_clean, List.append_assoc, t1.1, List.append_assoc]
  · exact fit_clean _ _ t2.2
  · rw [leave_clean]; exact t2.1
end Pl
/-! ### the region that appends one unit to the later row, in its cell -/
def LaS (W0 : World) (pb base m : Nat) (V : Value) (l : List Un) (u : Un) (L : Nat → Bool) (w : World) : Prop :=
  (L 11 = true → L 0 = true) ∧ (L 12 = true → L 11 = true) ∧ (L 12 = false → InCell w pb V) ∧ (L 11 = false → OwnU w base V l) ∧
    (L 12 = true → ∃ A c, InCell w pb (.slice A m c) ∧ OwnU w base (.slice A m c) (l ++ [u])) ∧ Tn (fun b => b = pb ∨ V.ownBlock = some b) W0 w
def LaT (pb : Nat) (V : Value) (k : Nat) (w w' : World) : Prop := if k = 11 then Tn (fun b => V.ownBlock = some b) w w' else if k = 12 then Tn (fun b => b = pb) w w' else Below w.heap.size w w'
/-- the row that is appended -/
def LaN (pb : Nat) (V : Value) (u : Un) (v : Value) (w : World) : Prop := ∃ g, v = .slice (some ⟨g, 0, none⟩) 1 1 ∧ g ≠ pb ∧ V.ownBlock ≠ some g ∧ Uns w w.heap.size (some ⟨g, 0, none⟩) 1 1 [u]
/-- the row behind that -/
def LaP (pb base m : Nat) (l : List Un) (u : Un) (v : Value) (w : World) : Prop := ∃ A c, v = .slice A m c ∧ Value.ownBlock (.slice A m c) ≠ some pb ∧ OwnU w base (.slice A m c) (l ++ [u])
section
variable {W0 w w' : World} {pb base m i k : Nat} {V v : Value} {l : List Un} {u : Un} {L : Nat → Bool}
theorem LaT.refl (pb : Nat) (V : Value) (k : Nat) (w : World) : LaT pb V k w w := by
  unfold LaT; split
  · exact Tn.refl _ _
  · split
    · exact Tn.refl _ _
    · exact Below.refl _ _
theorem LaT.bel (h1 : k ≠ 11) (h2 : k ≠ 12) (hb : Below w.heap.size w w') : LaT pb V k w w' := by
  unfold LaT; rw [if_neg h1, if_neg h2]; exact hb
theorem LaN.stay (h : LaN pb V u v w) (hr : LaT pb V k w w') : LaN pb V u v w' := by
  obtain ⟨g, e, h1, h2, h3⟩ := h
  have key : ∀ T : Nat → Prop, Tn T w w' → ¬ T g → LaN pb V u v w' := fun T ht hg => ⟨g, e, h1, h2, Rws.tn h3 ht (fun _ ad ea hh => by cases ea; exact hg hh)⟩
  unfold LaT at hr
  split at hr
  · exact key _ hr h2
  · split at hr
    · exact key _ hr h1
    · exact key _ (Tn.of (fun _ => False) hr) (fun h => h)
theorem LaP.stay (h : LaP pb base m l u v w) (hk : k ≠ 11) (hr : LaT pb V k w w') : LaP pb base m l u v w' := by
  obtain ⟨A, c, e, h1, h2⟩ := h
  unfold LaT at hr
  rw [if_neg hk] at hr
  split at hr
  · exact ⟨A, c, e, h1, OwnR.tn h2 hr (fun g hg hh => h1 (by rw [hg, hh]))⟩
  · exact ⟨A, c, e, h1, OwnR.then_ h2 hr⟩
theorem LaS.tn (h : LaS W0 pb base m V l u L w) : Tn (fun b => b = pb ∨ V.ownBlock = some b) W0 w := h.2.2.2.2.2
theorem LaS.next (h : LaS W0 pb base m V l u L w) (h11 : i ≠ 11) (h12 : i ≠ 12) (hb : Below w.heap.size w w') : LaS W0 pb base m V l u (Rq.up L i) w' := by
  obtain ⟨g1, g2, g3, g4, g5, g6⟩ := h
  unfold LaS
  rw [rq_other h11, rq_other h12]
  refine ⟨fun h => rq_keep (g1 h), g2, fun h => (g3 h).tn (Tn.of (fun _ => False) hb) (fun h => h), fun h => OwnR.then_ (g4 h) hb, fun h => ?_, g6.trans (Tn.of (fun _ => False) hb) (fun _ _ h => h.elim)⟩
  obtain ⟨A, c, h1, h2⟩ := g5 h
  exact ⟨A, c, h1.tn (Tn.of (fun _ => False) hb) (fun h => h), OwnR.then_ h2 hb⟩
theorem LaS.stay (h : LaS W0 pb base m V l u L w) (h11 : i ≠ 11) (h12 : i ≠ 12) : LaS W0 pb base m V l u (Rq.up L i) w := h.next h11 h12 (Below.refl _ _)
theorem LaS.old (h : LaS W0 pb base m V l u L w) (hL : L 0 = false) : InCell w pb V := by
  refine h.2.2.1 ?_
  cases e : L 12 with
  | false => rfl
  | true => have := h.1 (h.2.1 e); rw [hL] at this; cases this
theorem LaS.no12 (h : LaS W0 pb base m V l u L w) (hL : L 11 = false) : L 12 = false := by
  cases e : L 12 with
  | false => rfl
  | true => have := h.2.1 e; rw [hL] at this; cases this
theorem LaS.app (h : LaS W0 pb base m V l u L w) (hL : L 11 = false) (h0 : L 0 = true) (hne : V.ownBlock ≠ some pb) (ht : Tn (fun b => V.ownBlock = some b) w w') : LaS W0 pb base m V l u (Rq.up L 11) w' := by
  have h12 := h.no12 hL
  obtain ⟨g1, g2, g3, g4, g5, g6⟩ := h
  have e12 : Rq.up L 11 12 = L 12 := rq_other (by decide)
  unfold LaS
  rw [e12]
  exact ⟨fun _ => rq_keep h0, (fun h => by rw [h12] at h; cases h), (fun h => (g3 h).tn ht hne), (fun h => by rw [rq_same] at h; cases h), (fun h => by rw [h12] at h; cases h), g6.trans ht (fun _ _ h => Or.inr h)⟩
theorem LaS.laid (h : LaS W0 pb base m V l u L w) (h11 : L 11 = true) (hL : L 12 = false) (hp : LaP pb base m l u v w) : LaS W0 pb base m V l u (Rq.up L 12) (w.setCell ⟨pb, 0, none⟩ v) := by
  obtain ⟨g1, g2, g3, g4, g5, g6⟩ := h
  obtain ⟨A, c, rfl, h1, h2⟩ := hp
  unfold LaS
  rw [show Rq.up L 12 11 = L 11 from rq_other (by decide)]
  refine ⟨fun h => rq_keep (g1 h), fun _ => h11, (fun h => by rw [rq_same] at h; cases h), fun h => (by rw [h11] at h; cases h), fun _ => ⟨A, c, blk_set (i := 0) (g3 hL) _, OwnR.tn h2 ((Tn.refl (fun b => b = pb) w).set_ (p := ⟨pb, 0, none⟩) (Or.inr rfl) _) (fun g hg hh => h1 (by rw [hg, hh]))⟩, g6.set_ (p := ⟨pb, 0, none⟩) (Or.inr (Or.inl rfl)) _⟩
end
set_option maxRecDepth 100000 in
/-- one unit built into a row, as the run of the operation -/
theorem build_unit (t : Nat) (k P C x y : Int) (a : Act) (w1 : World) (o : Oper) (ho : o.op = Op.buildSlice 23 1 #[(0, Operand.tmp t)]) (e : a.tmps[t]?.getD undef = .agg #[.int .i64 k, .int .i64 P, .int .i32 C, .int .u32 x, .int .u64 y]) :
    (execOp a.eval o).run Try.prog w1 = .ok (.value (.slice (some ⟨w1.heap.size, 0, none⟩) 1 1)) (w1.alloc (.cells #[.int .i64 k, .int .i64 P, .int .i32 C, .int .u32 x, .int .u64 y] 42)) := by
  unfold execOp
  simp only [ho]
  simp [e, go_sem]
theorem exec_appendU {o : Oper} {a : Act} {v sv xv : Value} {w w' : World} (s x : Operand) (ho : o.op = .call { callee := .builtin .append, args := #[s, x], argTypes := #[23, 23] }) (hs : a.eval s = sv) (hx : a.eval x = xv)
    (hr : (Builtin.append_ #[23, 23] o.type #[sv, xv]).run Try.prog w = .ok v w') : (execOp a.eval o).run Try.prog w = .ok (.value v) w' := by
  unfold execOp
  simp only [ho, resolve, invoke, builtin, Sem.run_bind, Sem.run_pure, Result.andThen_ok, List.map_toArray, List.map_cons, List.map_nil, hs, hx, hr]
/-- the append, as the run of the builtin -/
theorem app_run {w : World} {pb base j c : Nat} {A : Option Addr} {l : List Un} {u : Un} {v : Value} {L : Nat → Bool} {W0 : World} (ty : TypeId) (hS : LaS W0 pb base (j + 1) (.slice A j c) l u L w) (hL : L 11 = false) (hN : LaN pb (.slice A j c) u v w) (hne : Value.ownBlock (.slice A j c) ≠ some pb) (hpb : pb < w.heap.size) (hb : base ≤ w.heap.size) (hj : j ≤ 1000) :
    ∃ v2 w', (Builtin.append_ #[23, 23] ty #[.slice A j c, v]).run Try.prog w = .ok v2 w' ∧ LaP pb base (j + 1) l u v2 w' ∧ Tn (fun b => Value.ownBlock (.slice A j c) = some b) w w' := by
  obtain ⟨g, rfl, h1, h2, h3⟩ := hN
  obtain ⟨A2, c2, w', hr, ho, hg, hat⟩ := run_append_rws encU_len encU_one Try.underlying23 infoUn (by decide) (by decide) w ty base A j c l (hS.2.2.2.1 hL) w.heap.size (some ⟨g, 0, none⟩) 1 1 [u] h3 (by unfold maxLen; omega) (by omega) hb
  refine ⟨_, w', hr, ⟨A2, c2, rfl, ?_, ho⟩, (Tn.refl _ w).grown hg (fun k e => Or.inr e)⟩
  rcases hat with h | h
  · rw [h]; exact hne
  · rw [h]; exact fun e => by have := Option.some.inj e; omega
/-! ### UndoAlone's closure -/
/-- between one unit and the next -/
def LcR (w : World) (p : Nat) (n : Nat) (s i : Value) (wr : World) : Prop := ∃ (j : Nat) (A : Option Addr) (c : Nat), i = .int .i64 (j : Int) ∧ s = .slice A j c ∧ j ≤ n ∧ OwnU wr w.heap.size (.slice A j c) (Pl.lat p j) ∧ Below w.heap.size w wr
set_option maxRecDepth 100000 in
set_option maxHeartbeats 1000000 in
theorem closure_any (q p M : Nat) (A : Option Addr) (c : Nat) (B : Option Addr) (d : Nat) (pb pc : Nat) (w : World) (h1 : InCell w pb (.slice A M c)) (h2 : Uns w w.heap.size A M c (Pl.lat q M)) (h3 : InC w pc (.slice B p d)) (hM : M ≤ 100) (hp : p ≤ 1000) :
    Calls Try.prog 29 #[.pointer (some ⟨pb, 0, none⟩), .pointer (some ⟨pc, 0, none⟩)] w (RetU w (Pl.lat p M)) := by
  have H1 := Lib.hid h1
  have H2 := Lib.hid h2
  have H3 := Lib.hid h3
  have hc1 := h1.cell
  clear h1 h2 h3
  go_enter Try.func29, Try.ntmps29
  go_wp2_with fail
  clear hc1
  go_loopw [3, 8] (fun s i wr => LcR w p M s i wr) (fun _ i _ => M - (intOf i).toNat)
  case atStart => exact ⟨0, none, 0, rfl, rfl, Nat.zero_le _, OwnR.nil_ _ _ _ _ _, Below.refl _ _⟩
  case round =>
    obtain ⟨j, A2, c2, rfl, rfl, hj, ho, hb⟩ := hrel
    have HO := Lib.hid ho
    have HB := Lib.hid hb
    by_cases hlt : j < M
    · obtain ⟨g1, o1, rfl, _, hc⟩ := Uns.at_ (Rws.below H2.out hb (Nat.le_refl _)) hlt
      obtain ⟨a0, a1, a2, a3, a4⟩ := hc j hlt
      rw [Pl.lat_getD q M j hlt] at a0 a1 a2 a3 a4
      unfold Pl.latU at a0 a1 a2 a3 a4
      simp only at a0 a1 a2 a3 a4
      have z0 : (0 : Int) ≤ (j : Int) := Int.natCast_nonneg j
      have z1 : (j : Int) < (M : Int) := Int.ofNat_lt.2 hlt
      obtain ⟨P, hP⟩ : ∃ P : Int, P = ((q + j : Nat) : Int) := ⟨_, rfl⟩
      rw [← hP] at a1
      obtain ⟨C, hC⟩ : ∃ C : Int, C = 3000 + (j : Int) := ⟨_, rfl⟩
      rw [← hC] at a2
      have hc3 : (wr.alloc (.cells #[.int .i64 1, .int .i64 P, .int .i32 C, .int .u32 2, .int .u64 1] 42)).cell? ⟨pc, 0, none⟩ = some (.slice B p d) := ((H3.out.tn (Tn.of (fun _ => False) hb) (fun h => h)).tn (Tn.of (fun _ => False) (below_box wr _)) (fun h => h)).cell
      have hw1 : wrap64 ((p : Int) + (j : Int)) = (p : Int) + (j : Int) := by unfold wrap64; omega
      have HU := Lib.hid (show Pl.lat p (j + 1) = Pl.lat p j ++ [⟨1, ((p : Int) + (j : Int)), C, 2, 1⟩] by rw [Pl.lat_succ, hC]; unfold Pl.latU; rw [Int.natCast_add])
      have hbx := below_box wr (.cells #[.int .i64 1, .int .i64 ((p : Int) + (j : Int)), .int .i32 C, .int .u32 2, .int .u64 1] 42)
      obtain ⟨W1, hW1⟩ : ∃ W1, W1 = wr.alloc (.cells #[.int .i64 1, .int .i64 ((p : Int) + (j : Int)), .int .i32 C, .int .u32 2, .int .u64 1] 42) := ⟨_, rfl⟩
      rw [← hW1] at hbx
      have hs1 : W1.heap.size = wr.heap.size + 1 := by rw [hW1]; simp
      have HOW := Lib.hid (show OwnU (W1.alloc (.cells #[.int .i64 1, .int .i64 ((p : Int) + (j : Int)), .int .i32 C, .int .u32 2, .int .u64 1] 42)) w.heap.size (.slice A2 j c2) (Pl.lat p j) from OwnR.then_ (OwnR.then_ ho hbx) (below_box W1 _))
      have HRW := Lib.hid (show OwnU (W1.alloc (.cells #[.int .i64 1, .int .i64 ((p : Int) + (j : Int)), .int .i32 C, .int .u32 2, .int .u64 1] 42)) W1.heap.size (.slice (some ⟨wr.heap.size + 1, 0, none⟩) 1 1) [⟨1, ((p : Int) + (j : Int)), C, 2, 1⟩] from by
        have h := unit_row W1 1 ((p : Int) + (j : Int)) C 2 1
        rw [hs1] at h; rw [hs1]; exact h)
      have HBW := Lib.hid (below_then' (below_then' hb hbx hb.size) (below_box W1 (.cells #[.int .i64 1, .int .i64 ((p : Int) + (j : Int)), .int .i32 C, .int .u32 2, .int .u64 1] 42)) (Nat.le_trans hb.size hbx.size))
      rw [hW1] at HOW HRW HBW
      have HMS := Lib.hid (show M - (j + 1) < M - j by omega)
      have HJ1 := Lib.hid (show j + 1 ≤ M from hlt)
      clear ho hb hc hP hC hbx hW1 hs1
      go_wp2_with (at_builtin; refine wpList_append_rws encU_len encU_one Try.underlying23 infoUn (by decide) (by decide) (World.alloc (wr.alloc (.cells #[.int .i64 1, .int .i64 ((p : Int) + (j : Int)), .int .i32 C, .int .u32 2, .int .u64 1] 42)) (.cells #[.int .i64 1, .int .i64 ((p : Int) + (j : Int)), .int .i32 C, .int .u32 2, .int .u64 1] 42)) rfl (.tmp 18) (.tmp 20) rfl w.heap.size A2 j c2 (Pl.lat p j) (by rfl) HOW.out _ (some ⟨wr.heap.size + 1, 0, none⟩) 1 1 [⟨1, ((p : Int) + (j : Int)), C, 2, 1⟩] (by rfl) (OwnU.uns HRW.out) (by unfold maxLen; omega) (by omega) HBW.out.size ?_)
      intro A5 c5 w5 hO5 hg5 _
      have HO5 := Lib.hid (show OwnU w5 w.heap.size (.slice A5 (j + 1) c5) (Pl.lat p (j + 1)) by rw [HU.out]; exact hO5)
      have HB5 := Lib.hid (OwnR.grownBelow HOW.out hg5 HBW.out HBW.out.size)
      clear hO5 hg5
      go_wp2_with fail
      go_roundw
      case rel => exact ⟨j + 1, A5, c5, by go_num, rfl, HJ1.out, HO5.out, HB5.out⟩
      case measure => simp [intOf]; exact HMS.out
    · obtain rfl : M = j := by omega
      go_wp2_with fail
      go_ret
      exact ⟨A2, c2, by rw [Pl.lat_len]; rfl, by rw [Pl.lat_len]; exact HO.out, HB.out⟩
end Go.Proofs.Ytlnekhkdncccgaa
