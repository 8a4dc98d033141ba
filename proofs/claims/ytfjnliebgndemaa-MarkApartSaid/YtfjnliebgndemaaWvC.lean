/-
  weave.Both: the grid. Conditions: rows of at most a thousand units.
-/
import Derived.Test.YtfjnliebgndemaaWvB
import Derived.BigQuiet
namespace Go.Proofs.Ytfjnliebgndemaa
open Go.RowKit
open Pl (Un)

theorem eval_other {a : Act} {t d : Nat} {v : Value} (h : t ≠ d) : (a.put (some d) v).eval (.tmp t) = a.eval (.tmp t) := by
  simp only [Act.eval, Act.put, Array.getD_eq_getD_getElem?, Array.getElem?_setIfInBounds]
  simp [Ne.symm h]
theorem eval_same {a : Act} {d : Nat} {v : Value} (h : d < a.tmps.size) : (a.put (some d) v).eval (.tmp d) = v := by
  simp only [Act.eval, Act.put, Array.getD_eq_getD_getElem?, Array.getElem?_setIfInBounds]
  simp [h]
theorem up_other {L : Nat → Bool} {m i : Nat} (h : m ≠ i) : Rv.up L m i = L i := by simp [Rv.up, h]
theorem up_same {L : Nat → Bool} {i : Nat} : Rv.up L i i = true := by simp [Rv.up]
theorem up_keep {L : Nat → Bool} {m i : Nat} (h : L i = true) : Rv.up L m i = true := by
  simp [Rv.up, h]
/-- a row of units in a value -/
def IsU (w : World) (base : Nat) (v : Value) (l : List Un) : Prop := ∃ A c, v = .slice A l.length c ∧ OwnU w base (.slice A l.length c) l
theorem IsU.then_ {w w' : World} {base : Nat} {v : Value} {l : List Un} (h : IsU w base v l) (hb : Below w.heap.size w w') : IsU w' base v l := by
  obtain ⟨A, c, e, h⟩ := h
  exact ⟨A, c, e, OwnR.then_ h hb⟩
theorem IsU.lt {w : World} {base : Nat} {v : Value} {l : List Un} (h : IsU w base v l) : ∀ g, v.ownBlock = some g → base ≤ g ∧ g < w.heap.size := by
  obtain ⟨A, c, rfl, h⟩ := h
  exact h.lt
theorem IsU.tn {T : Nat → Prop} {w w' : World} {base : Nat} {v : Value} {l : List Un} (h : IsU w base v l) (ht : Tn T w w') (hT : ∀ g, v.ownBlock = some g → ¬ T g) : IsU w' base v l := by
  obtain ⟨A, c, rfl, h⟩ := h
  exact ⟨A, c, rfl, OwnR.tn h ht hT⟩
/-- in Both's first drawn region: both copies, the cell, what is to come -/
structure BoS (W0 : World) (pb : Nat) (la lb : List Un) (VA VB : Value) (L : Nat → Bool) (a : Act) (w : World) : Prop where
  size : 13 ≤ a.tmps.size
  arg : L 4 = false → a.eval (.tmp 0) = VA
  l40 : L 4 = true → L 0 = true
  as_ : L 4 = true → a.eval (.tmp 0) = a.eval (.tmp 10)
  l32 : L 3 = true → L 2 = true
  va : L 1 = true → IsU w W0.heap.size (a.eval (.tmp 10)) la
  vb : L 3 = true → IsU w W0.heap.size (a.eval (.tmp 12)) lb
  ne : L 1 = true → L 3 = true → ∀ g, (a.eval (.tmp 10)).ownBlock = some g → (a.eval (.tmp 12)).ownBlock ≠ some g
  c0 : L 5 = false → InCell w pb VB
  c1 : L 5 = true → InCell w pb (a.eval (.tmp 12)) ∧ L 3 = true
  l41 : L 4 = true → L 1 = true
  tn : Tn (fun b => b = pb) W0 w
section
variable {W0 w w' : World} {pb d m : Nat} {la lb : List Un} {VA VB v : Value} {L : Nat → Bool} {a : Act}
theorem BoS.put (h : BoS W0 pb la lb VA VB L a w) (h0 : 0 ≠ d) (h1 : 10 ≠ d) (h2 : 12 ≠ d) (hm : m = 0 ∨ m = 2) : BoS W0 pb la lb VA VB (Rv.up L m) (a.put (some d) v) w := by
  have e1 : Rv.up L m 1 = L 1 := up_other (by omega)
  have e3 : Rv.up L m 3 = L 3 := up_other (by omega)
  have e4 : Rv.up L m 4 = L 4 := up_other (by omega)
  have e5 : Rv.up L m 5 = L 5 := up_other (by omega)
  refine ⟨by rw [Rv.put_len]; exact h.size, ?_, ?_, ?_, ?_, ?_, ?_, ?_, ?_, ?_, ?_, h.tn⟩
  · rw [e4, eval_other h0]; exact h.arg
  · rw [e4]; exact fun x => up_keep (h.l40 x)
  · rw [e4, eval_other h0, eval_other h1]; exact h.as_
  · rw [e3]; exact fun x => up_keep (h.l32 x)
  · rw [e1, eval_other h1]; exact h.va
  · rw [e3, eval_other h2]; exact h.vb
  · rw [e1, e3, eval_other h1, eval_other h2]; exact h.ne
  · rw [e5]; exact h.c0
  · rw [e5, e3, eval_other h2]; exact h.c1
  · rw [e4, e1]; exact h.l41
theorem BoS.callA (h : BoS W0 pb la lb VA VB L a w) (h4 : L 1 = false) (hr : IsU w' w.heap.size v la) (hb : Below w.heap.size w w') : BoS W0 pb la lb VA VB (Rv.up L 1) (a.put (some 10) v) w' := by
  have e3 : Rv.up L 1 3 = L 3 := up_other (by omega)
  have e4 : Rv.up L 1 4 = L 4 := up_other (by omega)
  have e5 : Rv.up L 1 5 = L 5 := up_other (by omega)
  have e2 : Rv.up L 1 2 = L 2 := up_other (by omega)
  have e0 : Rv.up L 1 0 = L 0 := up_other (by omega)
  have hs := h.size
  have n4 : L 4 = false := by
    cases e : L 4 with
    | false => rfl
    | true => have := h.l41 e; rw [h4] at this; cases this
  refine ⟨by rw [Rv.put_len]; exact h.size, ?_, ?_, ?_, ?_, ?_, ?_, ?_, ?_, ?_, ?_, h.tn.trans (Tn.of (fun _ => False) hb) (fun _ _ x => x.elim)⟩
  · rw [e4, eval_other (by decide)]; exact h.arg
  · rw [e4, e0]; exact h.l40
  · rw [e4, n4]; intro x; cases x
  · rw [e3, e2]; exact h.l32
  · rw [eval_same (by omega)]
    obtain ⟨A, c, e, ho⟩ := hr
    exact fun _ => ⟨A, c, e, OwnR.lower ho h.tn.size⟩
  · rw [e3, eval_other (by decide)]; exact fun x => (h.vb x).then_ hb
  · rw [e3, eval_same (by omega), eval_other (by decide)]
    intro _ h3 g hg hg2
    have h1 := (hr.lt g hg).1
    have h2 := ((h.vb h3).lt g hg2).2
    omega
  · rw [e5]; exact fun x => (h.c0 x).tn (Tn.of (fun _ => False) hb) (fun x => x)
  · rw [e5, e3, eval_other (by decide)]; exact fun x => ⟨(h.c1 x).1.tn (Tn.of (fun _ => False) hb) (fun x => x), (h.c1 x).2⟩
  · intro _; exact up_same
theorem BoS.callB (h : BoS W0 pb la lb VA VB L a w) (h2 : L 2 = true) (h3 : L 3 = false) (hr : IsU w' w.heap.size v lb) (hb : Below w.heap.size w w') : BoS W0 pb la lb VA VB (Rv.up L 3) (a.put (some 12) v) w' := by
  have e1 : Rv.up L 3 1 = L 1 := up_other (by omega)
  have e4 : Rv.up L 3 4 = L 4 := up_other (by omega)
  have e5 : Rv.up L 3 5 = L 5 := up_other (by omega)
  have e2 : Rv.up L 3 2 = L 2 := up_other (by omega)
  have e0 : Rv.up L 3 0 = L 0 := up_other (by omega)
  have hs := h.size
  have n5 : L 5 = false := by
    cases e : L 5 with
    | false => rfl
    | true => have := (h.c1 e).2; rw [h3] at this; cases this
  refine ⟨by rw [Rv.put_len]; exact h.size, ?_, ?_, ?_, ?_, ?_, ?_, ?_, ?_, ?_, ?_, h.tn.trans (Tn.of (fun _ => False) hb) (fun _ _ x => x.elim)⟩
  · rw [e4, eval_other (by decide)]; exact h.arg
  · rw [e4, e0]; exact h.l40
  · rw [e4, eval_other (by decide), eval_other (by decide)]; exact h.as_
  · rw [e2]; exact fun _ => h2
  · rw [e1, eval_other (by decide)]; exact fun x => (h.va x).then_ hb
  · rw [eval_same (by omega)]
    obtain ⟨A, c, e, ho⟩ := hr
    exact fun _ => ⟨A, c, e, OwnR.lower ho h.tn.size⟩
  · rw [e1, eval_same (by omega), eval_other (by decide)]
    intro h1 _ g hg hg2
    have h1 := ((h.va h1).lt g hg).2
    have h2 := (hr.lt g hg2).1
    omega
  · rw [e5]; exact fun x => (h.c0 x).tn (Tn.of (fun _ => False) hb) (fun x => x)
  · rw [e5, n5]; intro x; cases x
  · rw [e4, e1]; exact h.l41
theorem BoS.assign (h : BoS W0 pb la lb VA VB L a w) (h0 : L 0 = true) (h1 : L 1 = true) (hv : v = a.eval (.tmp 10)) : BoS W0 pb la lb VA VB (Rv.up L 4) (a.put (some 0) v) w := by
  have e1 : Rv.up L 4 1 = L 1 := up_other (by omega)
  have e3 : Rv.up L 4 3 = L 3 := up_other (by omega)
  have e5 : Rv.up L 4 5 = L 5 := up_other (by omega)
  have e2 : Rv.up L 4 2 = L 2 := up_other (by omega)
  have e0 : Rv.up L 4 0 = L 0 := up_other (by omega)
  have hs := h.size
  refine ⟨by rw [Rv.put_len]; exact h.size, ?_, ?_, ?_, ?_, ?_, ?_, ?_, ?_, ?_, ?_, h.tn⟩
  · intro x; rw [up_same] at x; cases x
  · rw [e0]; exact fun _ => h0
  · intro _; rw [eval_same (by omega), eval_other (by decide), hv]
  · rw [e3, e2]; exact h.l32
  · rw [e1, eval_other (by decide)]; exact h.va
  · rw [e3, eval_other (by decide)]; exact h.vb
  · rw [e1, e3, eval_other (by decide), eval_other (by decide)]; exact h.ne
  · rw [e5]; exact h.c0
  · rw [e5, e3, eval_other (by decide)]; exact h.c1
  · rw [e1]; exact fun _ => h1
theorem BoS.store (h : BoS W0 pb la lb VA VB L a w) (hpb : pb < W0.heap.size) (h3 : L 3 = true) (h5 : L 5 = false) (hv : v = a.eval (.tmp 12)) : BoS W0 pb la lb VA VB (Rv.up L 5) a (w.setCell ⟨pb, 0, none⟩ v) := by
  have e1 : Rv.up L 5 1 = L 1 := up_other (by omega)
  have e3 : Rv.up L 5 3 = L 3 := up_other (by omega)
  have e4 : Rv.up L 5 4 = L 4 := up_other (by omega)
  have e2 : Rv.up L 5 2 = L 2 := up_other (by omega)
  have e0 : Rv.up L 5 0 = L 0 := up_other (by omega)
  have ht : Tn (fun b => b = pb) w (w.setCell ⟨pb, 0, none⟩ v) := Tn.set_ (T := fun b => b = pb) (Tn.refl _ w) (p := ⟨pb, 0, none⟩) (Or.inr rfl) v
  have hne : ∀ {u : Value} {l : List Un}, IsU w W0.heap.size u l → ∀ g, u.ownBlock = some g → ¬ g = pb := fun hu g hg e => by have := (hu.lt g hg).1; omega
  refine ⟨h.size, ?_, ?_, ?_, ?_, ?_, ?_, ?_, ?_, ?_, ?_, h.tn.trans ht (fun _ _ x => x)⟩
  · rw [e4]; exact h.arg
  · rw [e4, e0]; exact h.l40
  · rw [e4]; exact h.as_
  · rw [e3, e2]; exact h.l32
  · rw [e1]; exact fun x => (h.va x).tn ht (hne (h.va x))
  · rw [e3]; exact fun x => (h.vb x).tn ht (hne (h.vb x))
  · rw [e1, e3]; exact h.ne
  · intro x; rw [up_same] at x; cases x
  · intro _
    rw [e3]
    exact ⟨by rw [← hv]; exact blk_set (i := 0) (h.c0 h5) v, h3⟩
  · rw [e4, e1]; exact h.l41
end
/-- between one unit of the first row and the next -/
def BoR (w : World) (B pb : Nat) (la lb : List Un) (VA VB : Value) (i : Value) (wr : World) : Prop :=
  ∃ j : Nat, i = .int .i64 (j : Int) ∧ j ≤ la.length ∧ OwnU wr B VA ((Pl.bothR (la.take j) lb).1 ++ la.drop j) ∧ OwnU wr B VB (Pl.bothR (la.take j) lb).2 ∧ InCell wr pb VB ∧ Below w.heap.size w wr
theorem below_then' {B : Nat} {w w1 w2 : World} (h : Below B w w1) (hb : Below w1.heap.size w1 w2) (hB : B ≤ w1.heap.size) : Below B w w2 := h.trans (hb.mono hB)
/-- what Both tells -/
def RetB (w : World) (la lb : List Un) (e : Ending) (w' : World) : Prop :=
  ∃ A c A' c', e = .returned (.tuple #[.slice A la.length c, .slice A' lb.length c']) ∧ OwnU w' w.heap.size (.slice A la.length c) (Pl.bothR la lb).1 ∧ OwnU w' w.heap.size (.slice A' lb.length c') (Pl.bothR la lb).2 ∧ (∀ g, Value.ownBlock (.slice A la.length c) = some g → Value.ownBlock (.slice A' lb.length c') ≠ some g) ∧ Below w.heap.size w w'
theorem both_len1 (la lb : List Un) : (Pl.bothR la lb).1.length = la.length := (Pl.len_both la lb).1
theorem both_len2 (la lb : List Un) : (Pl.bothR la lb).2.length = lb.length := (Pl.len_both la lb).2
end Go.Proofs.Ytfjnliebgndemaa
