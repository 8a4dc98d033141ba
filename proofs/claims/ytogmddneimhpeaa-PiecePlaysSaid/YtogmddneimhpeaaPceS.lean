/-
  Several tables in one memory, apart from each other, and a struct of the law's own beside them ('Sys'): what a call of one leaves of the others. Conditions: each is a table; the buffers have at most 2^30 code points.
-/
import Derived.Test.YtogmddneimhpeaaPceR
namespace Go.Proofs.Ytogmddneimhpeaa
open Go.RowKit
open Pl (Pc Plc Tab)

abbrev TT := Nat × Tab × Nat
/-- in a world that has come of w0, with all that w0 had as it was: the tables X lie apart from each other and from the box bx -/
def SysX (w0 w : World) (X : Nat → Option TT) (bx : Option (Nat × Obj)) : Prop :=
  Below w0.heap.size w0 w ∧ ∃ Fs : Nat → Nat → Prop,
    (∀ i p t m, X i = some (p, t, m) → Tb w (Fs i) p t m ∧ ∀ b, Fs i b → w0.heap.size ≤ b) ∧
    (∀ i j x y, i ≠ j → X i = some x → X j = some y → ∀ b, Fs i b → ¬ Fs j b) ∧
    (∀ y, bx = some y → w0.heap.size ≤ y.1 ∧ w.heap[y.1]? = some y.2 ∧ ∀ i x, X i = some x → ¬ Fs i y.1)
def upd (X : Nat → Option TT) (i : Nat) (v : Option TT) : Nat → Option TT := fun j => if j = i then v else X j
theorem upd_eq (X : Nat → Option TT) (i : Nat) (v : Option TT) : upd X i v i = v := if_pos rfl
theorem upd_ne (X : Nat → Option TT) (i : Nat) (v : Option TT) {j : Nat} (h : j ≠ i) : upd X i v j = X j := if_neg h
section
variable {w0 w w' : World} {X : Nat → Option TT} {bx : Option (Nat × Obj)} {i p m m' : Nat} {t t' : Tab}
theorem SysX.bel (h : SysX w0 w X bx) : Below w0.heap.size w0 w := h.1
theorem SysX.tb (h : SysX w0 w X bx) (hi : X i = some (p, t, m)) : ∃ F, Tb w F p t m := by
  obtain ⟨_, Fs, h1, _⟩ := h
  exact ⟨Fs i, (h1 i p t m hi).1⟩
theorem SysX.ne {j q : Nat} {u : Tab} {k : Nat} (h : SysX w0 w X bx) (hi : X i = some (p, t, m)) (hj : X j = some (q, u, k)) (hij : i ≠ j) : p ≠ q := by
  obtain ⟨_, Fs, h1, h2, _⟩ := h
  intro e
  exact h2 i j _ _ hij hi hj p (h1 i _ _ _ hi).1.mem (e ▸ (h1 j _ _ _ hj).1.mem)
theorem SysX.then_ (h : SysX w0 w X bx) (hb : Below w.heap.size w w') : SysX w0 w' X bx := by
  obtain ⟨hb0, Fs, h1, h2, h3⟩ := h
  exact ⟨hb0.trans (hb.mono hb0.size), Fs, fun i p t m hi => ⟨(h1 i p t m hi).1.then_ hb, (h1 i p t m hi).2⟩, h2, fun y hy => ⟨(h3 y hy).1, below_old hb (h3 y hy).2.1 (lt_of_block (h3 y hy).2.1), (h3 y hy).2.2⟩⟩
theorem SysX.box (h : SysX w0 w X bx) {V : World} {o : Obj} (hb : Below w.heap.size w V) (hq : V.heap[w.heap.size]? = some o) : SysX w0 V X (some (w.heap.size, o)) := by
  obtain ⟨hb0, Fs, h1, h2, h3⟩ := h
  refine ⟨hb0.trans (hb.mono hb0.size), Fs, fun i p t m hi => ⟨(h1 i p t m hi).1.then_ hb, (h1 i p t m hi).2⟩, h2, fun y hy => ?_⟩
  cases hy
  refine ⟨hb0.size, hq, fun i x hi hF => ?_⟩
  obtain ⟨p, t, m⟩ := x
  have := (h1 i p t m hi).1.lt _ hF
  simp at this
theorem SysX.nobox (h : SysX w0 w X bx) : SysX w0 w X none := by
  obtain ⟨hb0, Fs, h1, h2, h3⟩ := h
  exact ⟨hb0, Fs, h1, h2, fun y hy => by cases hy⟩
theorem SysX.set_ {ab k : Nat} {cs : Array Value} {ty : TypeId} {fr : Nat × Nat} (h : SysX w0 w X (some (ab, .cells cs ty fr))) (u : Value) : SysX w0 (w.setCell ⟨ab, k, none⟩ u) X (some (ab, .cells (cs.setIfInBounds k u) ty fr)) := by
  obtain ⟨hb0, Fs, h1, h2, h3⟩ := h
  obtain ⟨g1, g2, g3⟩ := h3 _ rfl
  have ht : Tn (fun b => b = ab) w (w.setCell ⟨ab, k, none⟩ u) := Tn.set_ (T := fun b => b = ab) (Tn.refl _ w) (p := ⟨ab, k, none⟩) (Or.inr rfl) u
  refine ⟨ht.below hb0 hb0.size (fun b hb => by rw [hb]; exact g1), Fs, fun i p t m hi => ⟨(h1 i p t m hi).1.keep ht (fun b hb he => g3 i _ hi (he ▸ hb)), (h1 i p t m hi).2⟩, h2, fun y hy => ?_⟩
  cases hy
  exact ⟨g1, blk_set g2 u, g3⟩
theorem SysX.drop (h : SysX w0 w X bx) (k : Nat) : SysX w0 w (upd X k none) bx := by
  obtain ⟨hb0, Fs, h1, h2, h3⟩ := h
  have hX : ∀ i x, upd X k none i = some x → X i = some x := fun i x hi => by
    by_cases e : i = k
    · rw [e, upd_eq] at hi; cases hi
    · rwa [upd_ne X k none e] at hi
  exact ⟨hb0, Fs, fun i p t m hi => h1 i p t m (hX _ _ hi), fun i j x y hij hi hj => h2 i j x y hij (hX _ _ hi) (hX _ _ hj), fun y hy => ⟨(h3 y hy).1, (h3 y hy).2.1, fun i x hi => (h3 y hy).2.2 i x (hX _ _ hi)⟩⟩
theorem SysX.did {E : Ending → Prop} {f : FuncId} {args : Array Value} (h : SysX w0 w X bx) (hi : X i = some (p, t, m)) (hc : ∀ F, Tb w F p t m → Calls Try.prog f args w fun e w' => E e ∧ Did w F p t' m' w') :
    Calls Try.prog f args w fun e w' => E e ∧ SysX w0 w' (upd X i (some (p, t', m'))) bx := by
  obtain ⟨hb0, Fs, h1, h2, h3⟩ := h
  refine (hc (Fs i) (h1 i p t m hi).1).mono fun e w' ⟨he, F', k1, k2, k3, _⟩ => ⟨he, k2.below hb0 hb0.size (h1 i p t m hi).2, fun j => if j = i then F' else Fs j, ?_, ?_, ?_⟩
  · intro j q u k hj
    by_cases e : j = i
    · subst e
      rw [upd_eq] at hj
      cases hj
      simp only [if_pos]
      exact ⟨k1, fun b hb => (k3 b hb).elim (fun hb => (h1 j _ _ _ hi).2 b hb) (fun hb => Nat.le_trans hb0.size hb)⟩
    · rw [upd_ne X i _ e] at hj
      simp only [if_neg e]
      exact ⟨(h1 j q u k hj).1.keep k2 (fun b hb hf => h2 j i _ _ e hj hi b hb hf), (h1 j q u k hj).2⟩
  · intro j l x y hjl hj hl b hb hf
    by_cases e : j = i
    · have el : l ≠ i := fun q => hjl (by rw [e, q])
      simp only [if_pos e] at hb
      simp only [if_neg el] at hf
      rw [upd_ne X i _ el] at hl
      obtain ⟨q, u, k⟩ := y
      rcases k3 b hb with hb | hb
      · exact h2 i l _ _ (fun q => el q.symm) hi hl b hb hf
      · have := (h1 l q u k hl).1.lt b hf; omega
    · simp only [if_neg e] at hb
      rw [upd_ne X i _ e] at hj
      obtain ⟨q, u, k⟩ := x
      by_cases el : l = i
      · simp only [if_pos el] at hf
        rcases k3 b hf with hf | hf
        · exact h2 j i _ _ e hj hi b hb hf
        · have := (h1 j q u k hj).1.lt b hb; omega
      · simp only [if_neg el] at hf
        rw [upd_ne X i _ el] at hl
        exact h2 j l _ _ hjl hj hl b hb hf
  · intro y hy
    obtain ⟨g1, g2, g3⟩ := h3 y hy
    refine ⟨g1, k2.old g2 (g3 i _ hi), fun j x hj hf => ?_⟩
    by_cases e : j = i
    · simp only [if_pos e] at hf
      rcases k3 _ hf with hf | hf
      · exact g3 i _ hi hf
      · have := lt_of_block g2; omega
    · simp only [if_neg e] at hf
      rw [upd_ne X i _ e] at hj
      exact g3 j x hj hf
theorem SysX.made {f : FuncId} {args : Array Value} (h : SysX w0 w X bx) (k : Nat) (hc : Calls Try.prog f args w (Made w t m)) :
    Calls Try.prog f args w fun e w' => ∃ q, e = .returned (.pointer (some ⟨q, 0, none⟩)) ∧ SysX w0 w' (upd X k (some (q, t, m))) bx := by
  obtain ⟨hb0, Fs, h1, h2, h3⟩ := h
  refine hc.mono fun e w' ⟨q, F', he, k1, k2, k3⟩ => ⟨q, he, hb0.trans (k3.mono hb0.size), fun j => if j = k then F' else Fs j, ?_, ?_, ?_⟩
  · intro j q u l hj
    by_cases e : j = k
    · subst e
      rw [upd_eq] at hj
      cases hj
      simp only [if_pos]
      exact ⟨k1, fun b hb => Nat.le_trans hb0.size (k2 b hb)⟩
    · rw [upd_ne X k _ e] at hj
      simp only [if_neg e]
      exact ⟨(h1 j q u l hj).1.then_ k3, (h1 j q u l hj).2⟩
  · intro j l x y hjl hj hl b hb hf
    by_cases e : j = k
    · have el : l ≠ k := fun q => hjl (by rw [e, q])
      simp only [if_pos e] at hb
      simp only [if_neg el] at hf
      rw [upd_ne X k _ el] at hl
      obtain ⟨q, u, r⟩ := y
      have := k2 b hb
      have := (h1 l q u r hl).1.lt b hf
      omega
    · simp only [if_neg e] at hb
      rw [upd_ne X k _ e] at hj
      obtain ⟨q, u, r⟩ := x
      have := (h1 j q u r hj).1.lt b hb
      by_cases el : l = k
      · simp only [if_pos el] at hf
        have := k2 b hf
        omega
      · simp only [if_neg el] at hf
        rw [upd_ne X k _ el] at hl
        exact h2 j l _ _ hjl hj hl b hb hf
  · intro y hy
    obtain ⟨g1, g2, g3⟩ := h3 y hy
    refine ⟨g1, below_old k3 g2 (lt_of_block g2), fun j x hj hf => ?_⟩
    by_cases e : j = k
    · simp only [if_pos e] at hf
      have := k2 _ hf
      have := lt_of_block g2
      omega
    · simp only [if_neg e] at hf
      rw [upd_ne X k _ e] at hj
      exact g3 j x hj hf
end
/-- three tables -/
def pk (x0 x1 x2 : Option TT) : Nat → Option TT
  | 0 => x0
  | 1 => x1
  | 2 => x2
  | _ => none
theorem upd0 (x0 x1 x2 v : Option TT) : upd (pk x0 x1 x2) 0 v = pk v x1 x2 := by
  funext j
  match j with
  | 0 => rfl
  | 1 => rfl
  | 2 => rfl
  | (n + 3) => rfl
theorem upd1 (x0 x1 x2 v : Option TT) : upd (pk x0 x1 x2) 1 v = pk x0 v x2 := by
  funext j
  match j with
  | 0 => rfl
  | 1 => rfl
  | 2 => rfl
  | (n + 3) => rfl
theorem upd2 (x0 x1 x2 v : Option TT) : upd (pk x0 x1 x2) 2 v = pk x0 x1 v := by
  funext j
  match j with
  | 0 => rfl
  | 1 => rfl
  | 2 => rfl
  | (n + 3) => rfl
abbrev Sys (w0 w : World) (x0 x1 x2 : Option TT) (bx : Option (Nat × Obj)) : Prop := SysX w0 w (pk x0 x1 x2) bx
section
variable {w0 w w' : World} {x0 x1 x2 : Option TT} {bx : Option (Nat × Obj)} {p m m' : Nat} {t t' : Tab} {E : Ending → Prop} {f : FuncId} {args : Array Value}
theorem Sys.did0 (h : Sys w0 w (some (p, t, m)) x1 x2 bx) (hc : ∀ F, Tb w F p t m → Calls Try.prog f args w fun e w' => E e ∧ Did w F p t' m' w') : Calls Try.prog f args w fun e w' => E e ∧ Sys w0 w' (some (p, t', m')) x1 x2 bx := by
  have := SysX.did h (i := 0) rfl hc
  rwa [upd0] at this
theorem Sys.did1 (h : Sys w0 w x0 (some (p, t, m)) x2 bx) (hc : ∀ F, Tb w F p t m → Calls Try.prog f args w fun e w' => E e ∧ Did w F p t' m' w') : Calls Try.prog f args w fun e w' => E e ∧ Sys w0 w' x0 (some (p, t', m')) x2 bx := by
  have := SysX.did h (i := 1) rfl hc
  rwa [upd1] at this
theorem Sys.did2 (h : Sys w0 w x0 x1 (some (p, t, m)) bx) (hc : ∀ F, Tb w F p t m → Calls Try.prog f args w fun e w' => E e ∧ Did w F p t' m' w') : Calls Try.prog f args w fun e w' => E e ∧ Sys w0 w' x0 x1 (some (p, t', m')) bx := by
  have := SysX.did h (i := 2) rfl hc
  rwa [upd2] at this
theorem Sys.copy1 (h : Sys w0 w (some (p, t, m)) x1 x2 bx) : Calls Try.prog 22 #[.pointer (some ⟨p, 0, none⟩)] w fun e w' => ∃ q, e = .returned (.pointer (some ⟨q, 0, none⟩)) ∧ Sys w0 w' (some (p, t, m)) (some (q, t, m)) x2 bx := by
  obtain ⟨F, hF⟩ := SysX.tb h (i := 0) rfl
  exact (SysX.made h 1 (copy_tb hF)).mono fun e w' ⟨q, he, h⟩ => ⟨q, he, by rwa [upd1] at h⟩
theorem Sys.copy2 (h : Sys w0 w (some (p, t, m)) x1 x2 bx) : Calls Try.prog 22 #[.pointer (some ⟨p, 0, none⟩)] w fun e w' => ∃ q, e = .returned (.pointer (some ⟨q, 0, none⟩)) ∧ Sys w0 w' (some (p, t, m)) x1 (some (q, t, m)) bx := by
  obtain ⟨F, hF⟩ := SysX.tb h (i := 0) rfl
  exact (SysX.made h 2 (copy_tb hF)).mono fun e w' ⟨q, he, h⟩ => ⟨q, he, by rwa [upd2] at h⟩
theorem Sys.drop2 (h : Sys w0 w x0 x1 x2 bx) : Sys w0 w x0 x1 none bx := by
  have := SysX.drop h 2
  rwa [upd2] at this
end
theorem Sys.one {w0 w : World} {F : Nat → Prop} {p m : Nat} {t : Tab} (hb : Below w0.heap.size w0 w) (h : Tb w F p t m) (hF : ∀ b, F b → w0.heap.size ≤ b) : Sys w0 w (some (p, t, m)) none none none := by
  refine ⟨hb, fun _ => F, ?_, ?_, ?_⟩
  · intro i q u k hi
    match i, hi with
    | 0, hi => cases hi; exact ⟨h, hF⟩
    | 1, hi => cases hi
    | 2, hi => cases hi
    | (_ + 3), hi => cases hi
  · intro i j x y hij hi hj
    match i, hi with
    | 0, _ =>
      match j, hj with
      | 0, _ => exact absurd rfl hij
      | 1, hj => cases hj
      | 2, hj => cases hj
      | (_ + 3), hj => cases hj
    | 1, hi => cases hi
    | 2, hi => cases hi
    | (_ + 3), hi => cases hi
  · intro y hy
    cases hy
theorem Did.mono {w w' : World} {F : Nat → Prop} {p : Nat} {t : Tab} {m k : Nat} (h : Did w F p t m w') (hk : m ≤ k) (hk2 : k ≤ 1073741824) : Did w F p t k w' := by
  obtain ⟨F', h1, h2⟩ := h
  exact ⟨F', h1.mono hk hk2, h2⟩
end Go.Proofs.Ytogmddneimhpeaa
