/-
  Words for slices of code points in memory: 'Crs': a slice value (nil let in) that reads as a list of code points; 'OwnC': such a slice at the head of a block of the call's own, nil let in; what keeps them; 'append' onto the call's own. No conditions but those that each lemma states.
-/
import Derived.Test.YtillndchojaniaaDoorUtfPlain
import Derived.Test.YtillndchojaniaaDoorBaseF
import Derived.Test.YtillndchojaniaaDoorBaseS
namespace Go.Proofs.YtillndchojaniaaDoor
open Go.RowKit

/-- a number of 32 bits with a sign -/
def Pl.J (x : Int) : Prop := -2147483648 ≤ x ∧ x ≤ 2147483647
theorem Pl.J.out {x : Int} (h : Pl.J x) : -2147483648 ≤ x ∧ x ≤ 2147483647 := h
theorem Pl.May.J {x : Int} (h : Pl.May x) : Pl.J x := by have := h.le; unfold Pl.J; omega
/-- the cells of code points -/
def cellsC (cs : List Int) : List Value := cs.map fun x : Int => Value.int .i32 x
def Crs (w : World) (B : Nat) (A : Option Addr) (n c : Nat) (cs : List Int) : Prop :=
  cs.length = n ∧ n ≤ c ∧ c ≤ maxLen ∧ (A = none → c = 0) ∧ (∀ x ∈ cs, Pl.J x) ∧
    (0 < n → ∃ g o, A = some ⟨g, o, none⟩ ∧ g < B ∧ ∀ i, i < n → w.cell? ⟨g, o + i, none⟩ = some (.int .i32 (cs.getD i 0)))
theorem len_cellsC (cs : List Int) : (cellsC cs).length = cs.length := by simp [cellsC]
theorem cellsC_append (a b : List Int) : cellsC (a ++ b) = cellsC a ++ cellsC b := by simp [cellsC]
theorem cellsC_at (cs : List Int) (i : Nat) (h : i < cs.length) : (cellsC cs)[i]? = some (.int .i32 (cs.getD i 0)) := by
  simp [cellsC, List.getElem?_map, List.getElem?_eq_getElem h, List.getD_eq_getElem?_getD]
theorem cellsC_set (cs : List Int) (i : Nat) (x : Int) : cellsC (cs.set i x) = (cellsC cs).set i (.int .i32 x) := by simp [cellsC]
theorem cellsC_one (cs : List Int) : ∀ u ∈ cellsC cs, u.oneCell' = true := by
  intro u hu
  obtain ⟨x, _, rfl⟩ := List.mem_map.1 hu
  rfl
section
variable {w w' : World} {B B' : Nat} {A : Option Addr} {n c : Nat} {cs : List Int}
theorem Crs.none_ (w : World) (B : Nat) : Crs w B none 0 0 [] := ⟨rfl, Nat.le_refl _, Nat.zero_le _, fun _ => rfl, (fun x hx => by cases hx), fun h => absurd h (by omega)⟩
theorem Crs.len (h : Crs w B A n c cs) : cs.length = n := h.1
theorem Crs.le (h : Crs w B A n c cs) : n ≤ c := h.2.1
theorem Crs.cap (h : Crs w B A n c cs) : c ≤ maxLen := h.2.2.1
theorem Crs.nil_ (h : Crs w B A n c cs) : A = none → c = 0 := h.2.2.2.1
theorem Crs.js (h : Crs w B A n c cs) : ∀ x ∈ cs, Pl.J x := h.2.2.2.2.1
theorem js_getD {cs : List Int} (h : ∀ x ∈ cs, Pl.J x) (i : Nat) : Pl.J (cs.getD i 0) := by
  rw [List.getD_eq_getElem?_getD]
  rcases Nat.lt_or_ge i cs.length with hi | hi
  · rw [List.getElem?_eq_getElem hi]; exact h _ (List.getElem_mem hi)
  · rw [List.getElem?_eq_none hi]; exact ⟨by decide, by decide⟩
theorem Crs.getJ (h : Crs w B A n c cs) (i : Nat) : Pl.J (cs.getD i 0) := js_getD h.js i
theorem Crs.at_ (h : Crs w B A n c cs) {i : Nat} (hi : i < n) : ∃ g o, A = some ⟨g, o, none⟩ ∧ g < B ∧ ∀ i, i < n → w.cell? ⟨g, o + i, none⟩ = some (.int .i32 (cs.getD i 0)) := h.2.2.2.2.2 (by omega)
theorem Crs.more (h : Crs w B A n c cs) (hB : B ≤ B') : Crs w B' A n c cs :=
  ⟨h.1, h.2.1, h.2.2.1, h.2.2.2.1, h.2.2.2.2.1, fun hn => by
    obtain ⟨g, o, e, hg, hc⟩ := h.2.2.2.2.2 hn
    exact ⟨g, o, e, by omega, hc⟩⟩
theorem Crs.keep (h : Crs w B A n c cs) (hk : ∀ p : Addr, p.block < B → w'.cell? p = w.cell? p) : Crs w' B A n c cs :=
  ⟨h.1, h.2.1, h.2.2.1, h.2.2.2.1, h.2.2.2.2.1, fun hn => by
    obtain ⟨g, o, e, hg, hc⟩ := h.2.2.2.2.2 hn
    exact ⟨g, o, e, hg, fun i hi => (hk ⟨g, o + i, none⟩ hg).trans (hc i hi)⟩⟩
theorem Crs.below (h : Crs w B A n c cs) (hb : Below B' w w') (hB : B ≤ B') : Crs w' B A n c cs := h.keep fun _ hp => hb.cell (Nat.lt_of_lt_of_le hp hB)
/-- in a world that came behind -/
theorem Crs.then_ (h : Crs w w.heap.size A n c cs) (hb : Below w.heap.size w w') : Crs w' w'.heap.size A n c cs := (h.below hb (Nat.le_refl _)).more hb.size
theorem Bys.then_ {bs : List Nat} (h : Bys w w.heap.size A n c bs) (hb : Below w.heap.size w w') : Bys w' w'.heap.size A n c bs := (h.below hb (Nat.le_refl _)).more hb.size
theorem Crs.src (h : Crs w B A n c cs) : (A = none → n = 0 ∧ c = 0) ∧ (∀ ad, A = some ad → ∀ j u, (cellsC cs)[j]? = some u → w.cell? (ad.add j) = some u) := by
  refine ⟨fun e => ?_, fun ad e j u hu => ?_⟩
  · have := h.nil_ e; have := h.le; omega
  · have hj : j < cs.length := by
      have := (List.getElem?_eq_some_iff.1 hu).1
      simpa [cellsC] using this
    have hl := h.len
    obtain ⟨g, o, e', _, hc⟩ := h.at_ (i := j) (by omega)
    rw [e] at e'
    obtain rfl := Option.some.inj e'
    rw [Addr.add_lit, hc j (by omega), ← cellsC_at cs j hj, hu]
/-- the part from a place on, no longer than so -/
theorem Crs.part {g o : Nat} (h : Crs w B (some ⟨g, o, none⟩) n c cs) {k m : Nat} (hk : k + m ≤ n) : Crs w B (some ⟨g, o + k, none⟩) m (c - k) ((cs.drop k).take m) := by
  have hl := h.len
  have hc := h.cap
  have hle := h.le
  refine ⟨by rw [List.length_take, List.length_drop, hl]; omega, by omega, Nat.le_trans (Nat.sub_le _ _) hc, (fun e => by cases e), (fun x hx => h.js x (List.mem_of_mem_drop (List.mem_of_mem_take hx))), fun h0 => ?_⟩
  obtain ⟨g', o', e, hg, hcell⟩ := h.at_ (i := k) (by omega)
  cases e
  refine ⟨g, o + k, rfl, hg, fun i hi => ?_⟩
  rw [Nat.add_assoc, hcell (k + i) (by omega), List.getD_eq_getElem?_getD, List.getD_eq_getElem?_getD, List.getElem?_take, if_pos hi, List.getElem?_drop]
end
/-- what came in, in the words of the library's 'open_ints' -/
theorem Crs.open_ {W : World} {x : Addr} {len cap : Nat} {zs : List Int} (hl : len ≤ cap) (hm : cap ≤ maxLen) (hz : zs.length = cap)
    (hcell : ∀ i, i < zs.length → W.cell? (x.add i) = some (.int .i32 (zs.getD i 0))) (hwz : ∀ n ∈ zs, (Lit.int .i32 n).wf = true) :
    Crs W W.heap.size (some x) len cap (zs.take len) := by
  have hb : ∀ n ∈ zs, -2147483648 ≤ n ∧ n ≤ 2147483647 := fun n hn => bounds_i32 (hwz n hn)
  refine ⟨by rw [List.length_take]; omega, hl, hm, (fun e => by cases e), (fun y hy => hb y (List.mem_of_mem_take hy)), fun h0 => ?_⟩
  obtain ⟨b, off, spot⟩ := x
  have hc := hcell 0 (by omega)
  have hspot : spot = none := by simpa [Addr.add] using World.cell?_spot hc
  subst hspot
  refine ⟨b, off, rfl, World.block_lt_of_cell? W ⟨b, off, none⟩ (by simpa [Addr.add_lit] using hc), fun i hi => ?_⟩
  have hci := hcell i (by omega)
  rw [Addr.add_lit] at hci
  rw [hci, List.getD_eq_getElem?_getD, List.getD_eq_getElem?_getD, List.getElem?_take, if_pos hi]

/-- the code points cs of the call's own, as a value: nil, or at the head of a block that is not older than base -/
def OwnC (w : World) (base : Nat) (v : Value) (cs : List Int) : Prop := w.ownsRow base 24 1 v cs.length (cellsC cs) ∧ ∀ x ∈ cs, Pl.J x
theorem infoChar : (Tryd.prog.info? 24).map (fun i => (i.zero, i.size, i.bytes)) = some (some (.int .i32 0), 1, 4) := by kernel_rfl
section
variable {w w' : World} {base c n : Nat} {A : Option Addr} {cs : List Int} {v : Value}
theorem OwnC.nil_ (w : World) (base : Nat) : OwnC w base (.slice none 0 0) [] := ⟨World.ownsRow_nil w base _ 1, fun x hx => by cases hx⟩
theorem OwnC.shape (h : OwnC w base v cs) : ∃ A cap, v = .slice A cs.length cap ∧ Crs w w.heap.size A cs.length cap cs ∧ (∀ a, A = some a → base ≤ a.block) := by
  rcases h.1.2 with ⟨e, h0⟩ | ⟨g, cap, cur, e, hb, hg, h1, h2, h3, h4⟩
  · have := List.eq_nil_of_length_eq_zero h0
    subst this
    exact ⟨none, 0, e, Crs.none_ _ _, fun a h => by cases h⟩
  · refine ⟨some ⟨g, 0, none⟩, cap, e, ⟨rfl, h1, h2, (fun e => by cases e), h.2, fun _ => ⟨g, 0, rfl, ?_, fun i hi => ?_⟩⟩, fun a h => by cases h; exact hb⟩
    · exact (h.1.lt g (by rw [e]; rfl)).2
    · have := h.1
      rw [e] at this
      rw [Nat.zero_add, this.cellAt i (by omega), cellsC_at cs i hi]
theorem OwnC.crs (h : OwnC w base (.slice A n c) cs) : n = cs.length ∧ Crs w w.heap.size A n c cs := by
  obtain ⟨A', c', e, hb, _⟩ := h.shape
  injection e with e1 e2 e3
  subst e1 e2 e3
  exact ⟨rfl, hb⟩
theorem OwnC.lt (h : OwnC w base v cs) : ∀ g, v.ownBlock = some g → base ≤ g ∧ g < w.heap.size := h.1.lt
theorem OwnC.grown {row : Option Nat} (h : OwnC w base v cs) (hg : w.grownBy w' row) (hne : v.ownBlock = none ∨ v.ownBlock ≠ row) : OwnC w' base v cs := ⟨h.1.kept hg hne, h.2⟩
theorem OwnC.alloc (h : OwnC w base v cs) (o : Obj) : OwnC (w.alloc o) base v cs := ⟨h.1.alloc o, h.2⟩
theorem OwnC.same (h : OwnC w base v cs) (hs : ∀ g, base ≤ g → g < w.heap.size → v.ownBlock = some g → w'.heap[g]? = w.heap[g]?) : OwnC w' base v cs := by
  refine ⟨⟨h.1.1, ?_⟩, h.2⟩
  have hlt := h.1.lt
  rcases h.1.2 with e | ⟨g, cap, cur, e, hb, hg, hr⟩
  · exact Or.inl e
  · refine Or.inr ⟨g, cap, cur, e, hb, ?_, hr⟩
    have h2 : v.ownBlock = some g := by rw [e]; rfl
    rw [hs g hb (hlt g h2).2 h2]; exact hg
theorem OwnC.below {B : Nat} (h : OwnC w base v cs) (hb : Below B w w') (hB : ∀ g, v.ownBlock = some g → g < B) : OwnC w' base v cs := h.same fun g _ _ h3 => hb.block g (hB g h3)
theorem OwnC.lower {base' : Nat} (h : OwnC w base v cs) (hb : base' ≤ base) : OwnC w base' v cs := by
  refine ⟨⟨h.1.1, ?_⟩, h.2⟩
  rcases h.1.2 with e | ⟨g, cap, cur, e, h0, hh, hr⟩
  · exact Or.inl e
  · exact Or.inr ⟨g, cap, cur, e, by omega, hh, hr⟩
end
/-- code points that are written out, in new memory -/
theorem crs_lit (w : World) (cs : List Int) (hj : ∀ x ∈ cs, Pl.J x) (hl : cs.length ≤ maxLen) : OwnC (w.alloc (.cells (cellsC cs).toArray 24)) w.heap.size (.slice (some ⟨w.heap.size, 0, none⟩) cs.length cs.length) cs := by
  have h := World.ownsRow_lit (base := w.heap.size) (e := 24) (size := 1) w (cellsC cs).toArray cs.length (Nat.le_refl _) hl (by simp [len_cellsC])
  exact ⟨by simpa using h, hj⟩

/-- append onto code points of one's own, as a law for the walk -/
theorem wpList_append_crs {ops : Array Oper} {rest : List Oper} {o : Oper} {a : Act} {Q : Exit → Act → World → Prop} (w : World) (hgd : o.guard = none) (s x : Operand)
    (ho : o.op = .call { callee := .builtin .append, args := #[s, x], argTypes := #[22, 22] })
    (base : Nat) (A : Option Addr) (n c : Nat) (cs : List Int) (hs : a.eval s = .slice A n c) (hown : OwnC w base (.slice A n c) cs)
    (B : Nat) (A' : Option Addr) (m c' : Nat) (ds : List Int) (hx : a.eval x = .slice A' m c') (hsrc : Crs w B A' m c' ds)
    (hfit : (n + m) * 4 ≤ 140737488355328) (hbase : base ≤ w.heap.size)
    (h : ∀ A2 c2 w', OwnC w' base (.slice A2 (n + m) c2) (cs ++ ds) → w.grownBy w' (Value.ownBlock (.slice A n c)) →
      (Value.ownBlock (.slice A2 (n + m) c2) = Value.ownBlock (.slice A n c) ∨ Value.ownBlock (.slice A2 (n + m) c2) = some w.heap.size) →
      wpList Tryd.prog ops Q rest (a.put o.dst (.slice A2 (n + m) c2)) w') : wpList Tryd.prog ops Q (o :: rest) a w := by
  obtain ⟨i0, hi, hz0, hz1, hz2⟩ := info_parts infoChar
  obtain ⟨hn, _⟩ := hown.crs
  have hm := hsrc.len
  cases A' with
  | none =>
    have hc0 := hsrc.nil_ rfl
    have hle := hsrc.le
    obtain rfl : c' = 0 := hc0
    obtain rfl : m = 0 := by omega
    obtain rfl : ds = [] := List.eq_nil_of_length_eq_zero hm
    refine wpList_append_own_none hgd s x 22 ho base 24 i0 1 Tryd.underlying22 hi (.slice A n c) n (cellsC cs) hs (by rw [hn]; rw [hn] at hown; exact hown.1) hx ?_
    exact h A c w (by rw [List.append_nil]; exact hown) (World.grownBy.refl w _) (Or.inl rfl)
  | some ad =>
    refine wpList_append_own_at w hgd s x 22 ho base 24 i0 (.int .i32 0) 1 4 Tryd.underlying22 hi hz0 hz1 hz2 rfl (by decide) (.slice A n c) n (cellsC cs) hs (by rw [hn]; rw [hn] at hown; exact hown.1) ad m c' (cellsC ds) hx
      (by rw [len_cellsC, hm, Nat.mul_one]) (hsrc.src.2 ad rfl) (cellsC_one ds) (by unfold maxLen; omega) hfit hbase ?_
    intro v' w1 hv hg _ hat
    have hV : OwnC w1 base v' (cs ++ ds) := by
      refine ⟨?_, fun x hx => (List.mem_append.1 hx).elim (hown.2 x) (hsrc.js x)⟩
      rw [List.length_append, ← hn, hm, cellsC_append]
      exact hv
    obtain ⟨A2, c2, e, hb2, _⟩ := hV.shape
    have hl2 : (cs ++ ds).length = n + m := by rw [List.length_append, ← hn, hm]
    rw [hl2] at e
    subst e
    exact h A2 c2 w1 hV hg hat
theorem below_appendC {w w' w0 : World} {base : Nat} {A : Option Addr} {n c : Nat} {cs : List Int} (hown : OwnC w base (.slice A n c) cs) (hg : w.grownBy w' (Value.ownBlock (.slice A n c))) (hb : Below base w0 w) (hsz : base ≤ w.heap.size) : Below base w0 w' :=
  hb.grown hg hsz (fun k e => (hown.lt k e).1)
end Go.Proofs.YtillndchojaniaaDoor
