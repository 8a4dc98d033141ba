/-
  Layer 5 (piece) in plain words: a text as places of two buffers, pieces as what a row of places makes when neighbours that follow each other are one; how many pieces there are; what 'part' hands on. Nothing of the program is named here. No conditions but those that each lemma states.
-/
namespace Go.Proofs.Ytogmddneimhpeaa.Pl

/-- a stretch of one of both buffers -/
structure Pc where
  s : Bool
  at_ : Nat
  len : Nat
instance : Inhabited Pc := ⟨⟨false, 0, 0⟩⟩
theorem Pc.ext_ {a b : Pc} (h1 : a.s = b.s) (h2 : a.at_ = b.at_) (h3 : a.len = b.len) : a = b := by
  cases a; cases b; simp_all
/-- a place in one of both buffers -/
abbrev Plc := Bool × Nat
def places (p : Pc) : List Plc := (List.range p.len).map fun i => (p.s, p.at_ + i)
def Fol (a b : Pc) : Prop := a.s = b.s ∧ a.at_ + a.len = b.at_
instance (a b : Pc) : Decidable (Fol a b) := inferInstanceAs (Decidable (_ ∧ _))
/-- a piece is laid behind others -/
def lay (out : List Pc) (p : Pc) : List Pc :=
  if 0 < out.length ∧ Fol (out.getD (out.length - 1) default) p then out.set (out.length - 1) ⟨(out.getD (out.length - 1) default).s, (out.getD (out.length - 1) default).at_, (out.getD (out.length - 1) default).len + p.len⟩ else out ++ [p]
def one (q : Plc) : Pc := ⟨q.1, q.2, 1⟩
/-- the pieces of a row of places -/
def group (L : List Plc) : List Pc := (L.map one).foldl lay []

theorem len_places (p : Pc) : (places p).length = p.len := by simp [places]
theorem places_one (q : Plc) : places (one q) = [q] := by simp [places, one, List.range_succ]
theorem places_succ (s : Bool) (a n : Nat) : places ⟨s, a, n + 1⟩ = places ⟨s, a, n⟩ ++ [(s, a + n)] := by simp [places, List.range_succ]
theorem places_add (s : Bool) (a n m : Nat) : places ⟨s, a, n + m⟩ = places ⟨s, a, n⟩ ++ places ⟨s, a + n, m⟩ := by
  induction m with
  | zero => simp [places]
  | succ m ih => rw [← Nat.add_assoc, places_succ, ih, places_succ, List.append_assoc, Nat.add_assoc]
theorem places_drop (s : Bool) (a n k : Nat) : (places ⟨s, a, n⟩).drop k = places ⟨s, a + k, n - k⟩ := by
  rcases Nat.lt_or_ge n k with h | h
  · rw [List.drop_of_length_le (by rw [len_places]; simp only; omega), show n - k = 0 by omega]; rfl
  · obtain ⟨m, rfl⟩ : ∃ m, n = k + m := ⟨n - k, by omega⟩
    rw [places_add, List.drop_left' (by rw [len_places]), show k + m - k = m by omega]
theorem places_take (s : Bool) (a n k : Nat) : (places ⟨s, a, n⟩).take k = places ⟨s, a, min k n⟩ := by
  rcases Nat.lt_or_ge n k with h | h
  · rw [List.take_of_length_le (by rw [len_places]; simp only; omega), show min k n = n by omega]
  · obtain ⟨m, rfl⟩ : ∃ m, n = k + m := ⟨n - k, by omega⟩
    rw [places_add, List.take_left' (by rw [len_places]), show min k (k + m) = k by omega]
theorem mem_places {q : Plc} {p : Pc} (h : q ∈ places p) : q.1 = p.s ∧ p.at_ ≤ q.2 ∧ q.2 < p.at_ + p.len := by
  simp only [places, List.mem_map, List.mem_range] at h
  obtain ⟨i, hi, rfl⟩ := h
  exact ⟨rfl, by omega, by simp only; omega⟩

/-- the pieces as snoc -/
theorem snoc_of {α : Type} {l : List α} (h : 0 < l.length) : ∃ i x, l = i ++ [x] := by
  rcases List.eq_nil_or_concat l with rfl | ⟨i, x, rfl⟩
  · simp at h
  · exact ⟨i, x, by simp⟩
theorem lay_nil (p : Pc) : lay [] p = [p] := by simp [lay]
theorem lay_snoc (i : List Pc) (a p : Pc) : lay (i ++ [a]) p = if Fol a p then i ++ [⟨a.s, a.at_, a.len + p.len⟩] else i ++ [a, p] := by
  have e : (i ++ [a]).getD ((i ++ [a]).length - 1) default = a := by simp
  unfold lay
  rw [e]
  by_cases h : Fol a p
  · rw [if_pos ⟨by simp, h⟩, if_pos h]
    simp
  · rw [if_neg (fun h2 => h h2.2), if_neg h]; simp
/-- all pieces have something, and no neighbours follow each other -/
def Nice (l : List Pc) : Prop := (∀ p ∈ l, 1 ≤ p.len) ∧ ∀ i, i + 1 < l.length → ¬ Fol (l.getD i default) (l.getD (i + 1) default)
theorem nice_nil : Nice [] := ⟨(fun p h => by cases h), fun i h => absurd h (by simp)⟩
theorem getD_snoc_lt {α : Type} [Inhabited α] (i : List α) (a : α) {k : Nat} (h : k < i.length) : (i ++ [a]).getD k default = i.getD k default := by
  rw [List.getD_eq_getElem?_getD, List.getD_eq_getElem?_getD, List.getElem?_append_left h]
theorem getD_snoc_eq {α : Type} [Inhabited α] (i : List α) (a : α) : (i ++ [a]).getD i.length default = a := by
  rw [List.getD_eq_getElem?_getD, List.getElem?_append_right (Nat.le_refl _)]; simp
theorem nice_snoc {i : List Pc} {a : Pc} (h : Nice i) (ha : 1 ≤ a.len) (hf : ∀ j x, i = j ++ [x] → ¬ Fol x a) : Nice (i ++ [a]) := by
  refine ⟨fun p hp => ?_, fun k hk => ?_⟩
  · rcases List.mem_append.1 hp with hp | hp
    · exact h.1 p hp
    · simp at hp; rw [hp]; exact ha
  · rw [List.length_append, List.length_singleton] at hk
    rcases Nat.lt_or_ge (k + 1) i.length with h1 | h1
    · rw [getD_snoc_lt i a (by omega), getD_snoc_lt i a h1]; exact h.2 k h1
    · have hlen : i.length = k + 1 := by omega
      obtain ⟨j, x, rfl⟩ := snoc_of (l := i) (by omega)
      have hj : j.length = k := by simpa using hlen
      have e1 : ((j ++ [x]) ++ [a]).getD k default = x := by rw [getD_snoc_lt _ _ (by omega), ← hj, getD_snoc_eq]
      have e2 : ((j ++ [x]) ++ [a]).getD (k + 1) default = a := by rw [← hlen, getD_snoc_eq]
      rw [e1, e2]; exact hf j x rfl
theorem nice_init {i : List Pc} {a : Pc} (h : Nice (i ++ [a])) : Nice i ∧ 1 ≤ a.len ∧ ∀ j x, i = j ++ [x] → ¬ Fol x a := by
  refine ⟨⟨fun p hp => h.1 p (List.mem_append_left _ hp), fun k hk => ?_⟩, h.1 a (by simp), fun j x e => ?_⟩
  · have := h.2 k (by rw [List.length_append]; simp; omega)
    rwa [getD_snoc_lt i a (by omega), getD_snoc_lt i a hk] at this
  · subst e
    have := h.2 j.length (by simp)
    rwa [getD_snoc_lt _ _ (by simp), getD_snoc_eq, show j.length + 1 = (j ++ [x]).length by simp, getD_snoc_eq] at this
theorem nice_lay {out : List Pc} {p : Pc} (h : Nice out) (hp : 1 ≤ p.len) : Nice (lay out p) := by
  rcases List.eq_nil_or_concat out with rfl | ⟨i, a, e⟩
  · rw [lay_nil]; exact nice_snoc (i := []) nice_nil hp (fun j x e => by simp at e)
  · have e : out = i ++ [a] := by simpa using e
    subst e
    rw [lay_snoc]
    obtain ⟨h1, h2, h3⟩ := nice_init h
    split
    · exact nice_snoc h1 (by simp only; omega) (fun j x e => by have := h3 j x e; exact this)
    · rename_i hf
      rw [show i ++ [a, p] = (i ++ [a]) ++ [p] by simp]
      refine nice_snoc h hp (fun j x e => ?_)
      have := List.append_inj' e rfl
      simp at this
      rw [← this.2]; exact hf
theorem places_lay (out : List Pc) (p : Pc) : (lay out p).flatMap places = out.flatMap places ++ places p := by
  rcases List.eq_nil_or_concat out with rfl | ⟨i, a, e⟩
  · simp [lay_nil]
  · have e : out = i ++ [a] := by simpa using e
    subst e
    rw [lay_snoc]
    split
    · rename_i hf
      rw [List.flatMap_append, List.flatMap_append, List.append_assoc]
      congr 1
      simp only [List.flatMap_cons, List.flatMap_nil, List.append_nil]
      rw [places_add, show places a = places ⟨a.s, a.at_, a.len⟩ from rfl, hf.1, hf.2]
    · simp [List.flatMap_append]
theorem lay_more (out : List Pc) (s : Bool) (a m : Nat) : lay (lay out ⟨s, a, m⟩) ⟨s, a + m, 1⟩ = lay out ⟨s, a, m + 1⟩ := by
  rcases List.eq_nil_or_concat out with rfl | ⟨i, x, e⟩
  · rw [lay_nil, lay_nil, show ([⟨s, a, m⟩] : List Pc) = [] ++ [⟨s, a, m⟩] from rfl, lay_snoc, if_pos ⟨rfl, rfl⟩]; rfl
  · have e : out = i ++ [x] := by simpa using e
    subst e
    rw [lay_snoc, lay_snoc]
    by_cases hf : Fol x ⟨s, a, m⟩
    · have hf2 : Fol x ⟨s, a, m + 1⟩ := hf
      rw [if_pos hf, if_pos hf2, lay_snoc, if_pos (by
        refine ⟨hf.1, ?_⟩
        have := hf.2
        simp only at this ⊢
        omega)]
      simp [Nat.add_assoc]
    · have hf2 : ¬ Fol x ⟨s, a, m + 1⟩ := hf
      rw [if_neg hf, if_neg hf2, show i ++ [x, (⟨s, a, m⟩ : Pc)] = (i ++ [x]) ++ [⟨s, a, m⟩] by simp, lay_snoc, if_pos ⟨rfl, rfl⟩]
      simp
theorem group_append (A B : List Plc) : group (A ++ B) = (B.map one).foldl lay (group A) := by simp [group, List.foldl_append]
theorem group_snoc (L : List Plc) (q : Plc) : group (L ++ [q]) = lay (group L) (one q) := by rw [group_append]; rfl
theorem lay_ones (out : List Pc) (s : Bool) (a : Nat) : ∀ m, 1 ≤ m → ((places ⟨s, a, m⟩).map one).foldl lay out = lay out ⟨s, a, m⟩
  | 0, h => by omega
  | 1, _ => by simp [places, List.range_succ, one]
  | m + 2, _ => by
    rw [places_succ, List.map_append, List.foldl_append, lay_ones out s a (m + 1) (by omega), ← lay_more out s a (m + 1)]
    rfl
theorem group_lay (L : List Plc) (p : Pc) (hp : 1 ≤ p.len) : group (L ++ places p) = lay (group L) p := by
  rw [group_append, show p = ⟨p.s, p.at_, p.len⟩ from rfl, lay_ones _ _ _ _ hp]
theorem group_lays (L : List Plc) (ps : List Pc) (h : ∀ p ∈ ps, 1 ≤ p.len) : group (L ++ ps.flatMap places) = ps.foldl lay (group L) := by
  induction ps generalizing L with
  | nil => simp
  | cons p ps ih =>
    rw [List.flatMap_cons, ← List.append_assoc, ih (L ++ places p) (fun q hq => h q (List.mem_cons_of_mem _ hq)), group_lay L p (h p (List.mem_cons_self ..))]
    rfl
theorem group_nice : ∀ L : List Plc, Nice (group L) := by
  intro L
  suffices ∀ (l : List Plc) (out : List Pc), Nice out → Nice ((l.map one).foldl lay out) from this L [] nice_nil
  intro l
  induction l with
  | nil => intro out h; exact h
  | cons q l ih => intro out h; exact ih (lay out (one q)) (nice_lay h (Nat.le_refl _))
theorem group_places : ∀ L : List Plc, (group L).flatMap places = L := by
  intro L
  suffices ∀ (l : List Plc) (out : List Pc), ((l.map one).foldl lay out).flatMap places = out.flatMap places ++ l by simpa [group] using this L []
  intro l
  induction l with
  | nil => intro out; simp
  | cons q l ih =>
    intro out
    show ((l.map one).foldl lay (lay out (one q))).flatMap places = _
    rw [ih, places_lay, places_one, List.append_assoc]; rfl
theorem group_same {ps : List Pc} (h : Nice ps) : group (ps.flatMap places) = ps := by
  have h1 := group_lays [] ps h.1
  rw [List.nil_append] at h1
  rw [h1]
  suffices ∀ (l : List Pc) (out : List Pc), Nice (out ++ l) → l.foldl lay out = out ++ l from this ps [] (by simpa using h)
  intro l
  induction l with
  | nil => intro out _; simp
  | cons p l ih =>
    intro out hn
    have hn2 : Nice ((out ++ [p]) ++ l) := by simpa using hn
    have hlay : lay out p = out ++ [p] := by
      rcases List.eq_nil_or_concat out with rfl | ⟨i, a, e⟩
      · exact lay_nil p
      · have e : out = i ++ [a] := by simpa using e
        subst e
        rw [lay_snoc, if_neg ?_]
        · simp
        · have := hn.2 i.length (by simp)
          have e1 : ((i ++ [a]) ++ p :: l).getD i.length default = a := by simp [List.getD_eq_getElem?_getD]
          have e2 : ((i ++ [a]) ++ p :: l).getD (i.length + 1) default = p := by
            rw [List.getD_eq_getElem?_getD, List.getElem?_append_right (by simp)]; simp
          rwa [e1, e2] at this
    show l.foldl lay (lay out p) = _
    rw [hlay, ih (out ++ [p]) hn2]; simp
/-- how long all pieces are -/
def total (ps : List Pc) : Nat := (ps.map (·.len)).sum
theorem total_places (ps : List Pc) : (ps.flatMap places).length = total ps := by
  induction ps with
  | nil => rfl
  | cons p ps ih => rw [List.flatMap_cons, List.length_append, len_places, ih]; simp [total]
theorem total_group (L : List Plc) : total (group L) = L.length := by rw [← total_places, group_places]
theorem total_take (ps : List Pc) (i : Nat) (h : i < ps.length) : total (ps.take (i + 1)) = total (ps.take i) + (ps.getD i default).len := by
  rw [List.take_add_one, List.getElem?_eq_getElem h, List.getD_eq_getElem?_getD, List.getElem?_eq_getElem h]
  unfold total
  rw [List.map_append, List.sum_append]
  simp
theorem total_take_le (ps : List Pc) (i : Nat) : total (ps.take i) ≤ total ps := by
  conv => rhs; rw [← List.take_append_drop i ps]
  unfold total
  rw [List.map_append, List.sum_append]
  omega
theorem len_le_total {ps : List Pc} (h : ∀ p ∈ ps, 1 ≤ p.len) : ps.length ≤ total ps := by
  induction ps with
  | nil => simp
  | cons p ps ih =>
    have h1 := h p (List.mem_cons_self ..)
    have h2 := ih (fun q hq => h q (List.mem_cons_of_mem _ hq))
    simp [total] at h2 ⊢
    omega
theorem group_len (L : List Plc) : (group L).length ≤ L.length := by rw [← total_group]; exact len_le_total (group_nice L).1
theorem group_nil : group [] = [] := rfl
theorem group_one {p : Pc} (hp : 1 ≤ p.len) : group (places p) = [p] := by
  have := group_lay [] p hp
  rw [List.nil_append] at this
  rw [this, group_nil, lay_nil]
theorem group_mem {L : List Plc} {p : Pc} (h : p ∈ group L) : ∀ i, i < p.len → (p.s, p.at_ + i) ∈ L := by
  intro i hi
  rw [← group_places L]
  exact List.mem_flatMap.2 ⟨p, h, List.mem_map.2 ⟨i, List.mem_range.2 hi, rfl⟩⟩

/-! ### what 'part' hands on -/
def clip1 (from_ upto : Int) (p : Pc) : List Pc :=
  if max from_ 0 < min upto (p.len : Int) then [⟨p.s, p.at_ + (max from_ 0).toNat, (min upto (p.len : Int) - max from_ 0).toNat⟩] else []
def clip (from_ upto : Int) : List Pc → List Pc
  | [] => []
  | p :: r => clip1 from_ upto p ++ clip (from_ - p.len) (upto - p.len) r
theorem clip_len (from_ upto : Int) (ps : List Pc) : ∀ p ∈ clip from_ upto ps, 1 ≤ p.len := by
  induction ps generalizing from_ upto with
  | nil => intro p h; cases h
  | cons a r ih =>
    intro p h
    rcases List.mem_append.1 h with h | h
    · unfold clip1 at h
      split at h
      · simp at h
        rw [h]
        simp only
        omega
      · cases h
    · exact ih _ _ p h
theorem clip_snoc (a : Pc) : ∀ (ps : List Pc) (from_ upto : Int), clip from_ upto (ps ++ [a]) = clip from_ upto ps ++ clip1 (from_ - total ps) (upto - total ps) a
  | [], f, u => by simp [clip, total]
  | p :: r, f, u => by
    rw [List.cons_append, clip, clip, clip_snoc a r, List.append_assoc]
    have e : (total (p :: r) : Int) = (p.len : Int) + (total r : Int) := by simp [total]
    rw [e, Int.sub_sub, Int.sub_sub]
theorem clip_take (ps : List Pc) (i : Nat) (h : i < ps.length) (from_ upto : Int) : clip from_ upto (ps.take (i + 1)) = clip from_ upto (ps.take i) ++ clip1 (from_ - total (ps.take i)) (upto - total (ps.take i)) (ps.getD i default) := by
  have e : ps.take (i + 1) = ps.take i ++ [ps.getD i default] := by
    rw [List.take_add_one, List.getElem?_eq_getElem h, List.getD_eq_getElem?_getD, List.getElem?_eq_getElem h]; rfl
  rw [e, clip_snoc]
theorem places_clip1 (f u : Int) (p : Pc) : (clip1 f u p).flatMap places = ((places p).drop f.toNat).take (u.toNat - f.toNat) := by
  rw [show p = ⟨p.s, p.at_, p.len⟩ from rfl, places_drop, places_take]
  unfold clip1
  split
  · rename_i h
    simp only [List.flatMap_cons, List.flatMap_nil, List.append_nil]
    have e1 : (max f 0).toNat = f.toNat := by omega
    have e2 : (min u (p.len : Int) - max f 0).toNat = min (u.toNat - f.toNat) (p.len - f.toNat) := by omega
    rw [e1, e2]
  · rename_i h
    have e2 : min (u.toNat - f.toNat) (p.len - f.toNat) = 0 := by simp only at h; omega
    rw [e2]; rfl
theorem places_clip : ∀ (ps : List Pc) (f u : Int), (clip f u ps).flatMap places = ((ps.flatMap places).drop f.toNat).take (u.toNat - f.toNat)
  | [], f, u => by simp [clip]
  | p :: r, f, u => by
    rw [clip, List.flatMap_append, List.flatMap_cons, places_clip1, places_clip r, List.drop_append, List.take_append, len_places]
    congr 1
    rw [List.length_drop, len_places]
    have e1 : (f - (p.len : Int)).toNat = f.toNat - p.len := by omega
    have e2 : (u - (p.len : Int)).toNat - (f.toNat - p.len) = u.toNat - f.toNat - (p.len - f.toNat) := by omega
    rw [e1, e2]
theorem clip_mem {f u : Int} {ps : List Pc} {p : Pc} (h : p ∈ clip f u ps) {q : Plc} (hq : q ∈ places p) : q ∈ ps.flatMap places := by
  have : q ∈ (clip f u ps).flatMap places := List.mem_flatMap.2 ⟨p, h, hq⟩
  rw [places_clip] at this
  exact List.mem_of_mem_drop (List.mem_of_mem_take this)

/-! ### how many pieces -/
def brk (prev : Option Plc) : List Plc → Nat
  | [] => 0
  | x :: r => (if prev = some (x.1, x.2 - 1) ∧ 1 ≤ x.2 then 0 else 1) + brk (some x) r
/-- the place at which the pieces end -/
def ends (ps : List Pc) : Option Plc := if ps.length = 0 then none else some ((ps.getD (ps.length - 1) default).s, (ps.getD (ps.length - 1) default).at_ + (ps.getD (ps.length - 1) default).len - 1)
theorem ends_nil : ends [] = none := rfl
theorem ends_snoc (i : List Pc) (a : Pc) : ends (i ++ [a]) = some (a.s, a.at_ + a.len - 1) := by simp [ends]
theorem brk_lay (ps : List Pc) (hn : ∀ p ∈ ps, 1 ≤ p.len) (q : Plc) : (lay ps (one q)).length = ps.length + (if ends ps = some (q.1, q.2 - 1) ∧ 1 ≤ q.2 then 0 else 1) ∧ ends (lay ps (one q)) = some q := by
  obtain ⟨s, a⟩ := q
  rcases List.eq_nil_or_concat ps with rfl | ⟨i, x, e⟩
  · rw [lay_nil]
    refine ⟨by simp [ends_nil], ?_⟩
    rw [show [one (s, a)] = [] ++ [one (s, a)] from rfl, ends_snoc]
    simp [one]
  · have e : ps = i ++ [x] := by simpa using e
    subst e
    have hx := hn x (by simp)
    rw [lay_snoc, ends_snoc]
    by_cases hf : Fol x (one (s, a))
    · rw [if_pos hf]
      obtain ⟨h1, h2⟩ := hf
      simp only [one] at h1 h2
      refine ⟨?_, ?_⟩
      · rw [if_pos ⟨by rw [h1, h2], by simp only; omega⟩]; simp
      · rw [ends_snoc]; simp only [one, h1]
        congr 2
    · rw [if_neg hf]
      refine ⟨?_, ?_⟩
      · rw [if_neg]
        · simp
        · rintro ⟨h1, h2⟩
          simp only [Option.some.injEq, Prod.mk.injEq] at h1
          exact hf ⟨h1.1, by simp only [one] at h2 ⊢; omega⟩
      · rw [show i ++ [x, one (s, a)] = (i ++ [x]) ++ [one (s, a)] by simp, ends_snoc]; simp [one]
theorem len_foldl : ∀ (L : List Plc) (ps : List Pc), Nice ps → ((L.map one).foldl lay ps).length = ps.length + brk (ends ps) L
  | [], ps, _ => by simp [brk]
  | q :: L, ps, h => by
    show ((L.map one).foldl lay (lay ps (one q))).length = _
    rw [len_foldl L _ (nice_lay h (Nat.le_refl _)), (brk_lay ps h.1 q).1, (brk_lay ps h.1 q).2, brk, Nat.add_assoc]
theorem len_group (L : List Plc) : (group L).length = brk none L := by
  have := len_foldl L [] nice_nil
  simpa [group, ends_nil] using this
/-- the last of a row, or what was ahead of it -/
def lastOr (p : Option Plc) : List Plc → Option Plc
  | [] => p
  | x :: r => lastOr (some x) r
theorem brk_append : ∀ (A B : List Plc) (p : Option Plc), brk p (A ++ B) = brk p A + brk (lastOr p A) B
  | [], B, p => by simp [brk, lastOr]
  | x :: A, B, p => by rw [List.cons_append, brk, brk_append A B, brk, lastOr, Nat.add_assoc]
theorem brk_le (p : Option Plc) (B : List Plc) : brk p B ≤ brk none B ∧ brk none B ≤ brk p B + 1 := by
  cases B with
  | nil => simp [brk]
  | cons x r =>
    have e : brk none (x :: r) = 1 + brk (some x) r := by simp [brk]
    rw [e, brk]
    split <;> omega
theorem len_group_append (A B : List Plc) : (group (A ++ B)).length ≤ (group A).length + (group B).length ∧ (group A).length + (group B).length ≤ (group (A ++ B)).length + 1 := by
  rw [len_group, len_group, len_group, brk_append]
  have := brk_le (lastOr none A) B
  omega
theorem len_group_pos {A : List Plc} (h : 0 < A.length) : 1 ≤ (group A).length := by
  rw [len_group]
  cases A with
  | nil => simp at h
  | cons x r => simp [brk]
theorem len_group_places (p : Pc) : (group (places p)).length ≤ 1 := by
  rcases Nat.eq_zero_or_pos p.len with h | h
  · have : places p = [] := List.eq_nil_of_length_eq_zero (by rw [len_places, h])
    rw [this]; simp [group]
  · rw [group_one h]; simp
/-- an insertion makes at most two pieces more -/
theorem len_insert (A B : List Plc) (p : Pc) : (group (A ++ places p ++ B)).length ≤ (group (A ++ B)).length + 2 := by
  have h1 := len_group_append (A ++ places p) B
  have h2 := len_group_append A (places p)
  have h3 := len_group_append A B
  have h4 := len_group_places p
  omega
/-- a deletion at most one -/
theorem len_delete (A M C : List Plc) : (group (A ++ C)).length ≤ (group (A ++ M ++ C)).length + 1 := by
  rcases Nat.eq_zero_or_pos M.length with h | h
  · have : M = [] := List.eq_nil_of_length_eq_zero h
    subst this
    rw [List.append_nil]; omega
  · have h1 := len_group_append A C
    have h2 := len_group_append A (M ++ C)
    have h3 := len_group_append M C
    have h4 := len_group_pos h
    rw [List.append_assoc]
    omega

/-! ### a table -/
/-- a table: its buffers, and the places that its text has -/
structure Tab where
  fst : List Int
  snd : List Int
  L : List Plc
def Tab.buf (t : Tab) (s : Bool) : List Int := if s then t.snd else t.fst
def Tab.look (t : Tab) (q : Plc) : Int := (t.buf q.1).getD q.2 0
def Tab.text (t : Tab) : List Int := t.L.map t.look
/-- what a piece has -/
def Tab.str (t : Tab) (p : Pc) : List Int := ((t.buf p.s).drop p.at_).take p.len
def Tab.ins (t : Tab) (k : Nat) (l : List Int) : Tab := ⟨t.fst, t.snd ++ l, t.L.take k ++ places ⟨true, t.snd.length, l.length⟩ ++ t.L.drop k⟩
def Tab.del (t : Tab) (k n : Nat) : Tab := ⟨t.fst, t.snd, t.L.take k ++ t.L.drop (k + n)⟩
def fresh (cs : List Int) : Tab := ⟨cs, [], places ⟨false, 0, cs.length⟩⟩
/-- places are within the buffers; the text is no longer than both; at most m code points in all -/
def Tab.Ok (t : Tab) (m : Nat) : Prop := (∀ q ∈ t.L, q.2 < (t.buf q.1).length) ∧ t.L.length ≤ t.fst.length + t.snd.length ∧ t.fst.length + t.snd.length ≤ m
theorem Tab.Ok.mono {t : Tab} {m k : Nat} (h : t.Ok m) (hk : m ≤ k) : t.Ok k := ⟨h.1, h.2.1, Nat.le_trans h.2.2 hk⟩
theorem Tab.Ok.len {t : Tab} {m : Nat} (h : t.Ok m) : t.L.length ≤ m := Nat.le_trans h.2.1 h.2.2
theorem len_text (t : Tab) : t.text.length = t.L.length := by simp [Tab.text]
theorem fresh_ok (cs : List Int) : (fresh cs).Ok cs.length :=
  ⟨fun q hq => by
    have := mem_places hq
    show q.2 < ((fresh cs).buf q.1).length
    rw [this.1]
    have h := this.2.2
    simp only at h
    show q.2 < cs.length
    omega, by simp [fresh, len_places], by simp [fresh]⟩
theorem Tab.Ok.ins {t : Tab} {m : Nat} (h : t.Ok m) (k : Nat) (l : List Int) (hk : k ≤ t.L.length) : (t.ins k l).Ok (m + l.length) := by
  have hb : ∀ q ∈ t.L, q.2 < ((t.ins k l).buf q.1).length := fun q hq => by
    have := h.1 q hq
    unfold Tab.buf at this ⊢
    show q.2 < (if q.1 = true then t.snd ++ l else t.fst).length
    split at this
    · rename_i hs; rw [if_pos hs, List.length_append]; omega
    · rename_i hs; rw [if_neg hs]; exact this
  refine ⟨fun q hq => ?_, ?_, ?_⟩
  · rcases List.mem_append.1 hq with hq | hq
    · rcases List.mem_append.1 hq with hq | hq
      · exact hb q (List.mem_of_mem_take hq)
      · have := mem_places hq
        rw [this.1]
        show q.2 < (t.snd ++ l).length
        rw [List.length_append]; exact this.2.2
    · exact hb q (List.mem_of_mem_drop hq)
  · show (t.L.take k ++ places ⟨true, t.snd.length, l.length⟩ ++ t.L.drop k).length ≤ t.fst.length + (t.snd ++ l).length
    have := h.2.1
    rw [List.length_append, List.length_append, len_places, List.length_take, List.length_drop, List.length_append]
    simp only
    omega
  · show t.fst.length + (t.snd ++ l).length ≤ _
    have := h.2.2
    rw [List.length_append]; omega
theorem Tab.Ok.del {t : Tab} {m : Nat} (h : t.Ok m) (k n : Nat) : (t.del k n).Ok m := by
  refine ⟨fun q hq => ?_, ?_, h.2.2⟩
  · rcases List.mem_append.1 hq with hq | hq
    · exact h.1 q (List.mem_of_mem_take hq)
    · exact h.1 q (List.mem_of_mem_drop hq)
  · show (t.L.take k ++ t.L.drop (k + n)).length ≤ t.fst.length + t.snd.length
    have := h.2.1
    rw [List.length_append, List.length_take, List.length_drop]
    omega
theorem look_places_fst (t : Tab) (p : Pc) (h : p.at_ + p.len ≤ (t.buf p.s).length) : (places p).map t.look = t.str p := by
  unfold Tab.str places
  apply List.ext_getElem
  · simp; omega
  · intro i h1 h2
    simp only [List.length_map, List.length_range] at h1
    simp only [List.getElem_map, List.getElem_range, Tab.look, List.getElem_take, List.getElem_drop]
    rw [List.getD_eq_getElem?_getD, List.getElem?_eq_getElem (by omega)]; rfl
/-- of a table, a row of whose pieces' places are within -/
theorem text_places (t : Tab) (ps : List Pc) (h : ∀ p ∈ ps, p.at_ + p.len ≤ (t.buf p.s).length) : (ps.flatMap places).map t.look = ps.flatMap t.str := by
  induction ps with
  | nil => rfl
  | cons p ps ih => rw [List.flatMap_cons, List.flatMap_cons, List.map_append, look_places_fst t p (h p (List.mem_cons_self ..)), ih (fun q hq => h q (List.mem_cons_of_mem _ hq))]
theorem Tab.Ok.pc {t : Tab} {m : Nat} (h : t.Ok m) {p : Pc} (hl : 1 ≤ p.len) (hp : ∀ q ∈ places p, q ∈ t.L) : p.at_ + p.len ≤ (t.buf p.s).length := by
  have := h.1 (p.s, p.at_ + (p.len - 1)) (hp _ (List.mem_map.2 ⟨p.len - 1, List.mem_range.2 (by omega), rfl⟩))
  simp only at this
  omega
theorem Tab.Ok.pc_group {t : Tab} {m : Nat} (h : t.Ok m) {p : Pc} (hp : p ∈ group t.L) : p.at_ + p.len ≤ (t.buf p.s).length :=
  h.pc ((group_nice t.L).1 p hp) fun q hq => by
    rw [← group_places t.L]; exact List.mem_flatMap.2 ⟨p, hp, hq⟩
theorem Tab.Ok.pc_clip {t : Tab} {m : Nat} (h : t.Ok m) {f u : Int} {p : Pc} (hp : p ∈ clip f u (group t.L)) : p.at_ + p.len ≤ (t.buf p.s).length :=
  h.pc (clip_len f u _ p hp) fun q hq => by
    have := clip_mem hp hq
    rwa [group_places] at this
/-- what is read from a place up to another one -/
theorem text_clip {t : Tab} {m : Nat} (h : t.Ok m) (k n : Nat) : (clip (k : Int) ((k + n : Nat) : Int) (group t.L)).flatMap t.str = (t.text.drop k).take n := by
  rw [← text_places t _ (fun p hp => h.pc_clip hp), places_clip, group_places, Tab.text, ← List.map_drop, ← List.map_take]
  congr 2
  omega
theorem fresh_text (cs : List Int) : (fresh cs).text = cs := by
  have h := look_places_fst (fresh cs) ⟨false, 0, cs.length⟩ (by show 0 + cs.length ≤ cs.length; omega)
  have e : (fresh cs).text = (places ⟨false, 0, cs.length⟩).map (fresh cs).look := rfl
  rw [e, h]
  show (cs.drop 0).take cs.length = cs
  rw [List.drop_zero, List.take_length]
theorem look_ins (t : Tab) (k : Nat) (l : List Int) {q : Plc} (h : q.2 < (t.buf q.1).length) : (t.ins k l).look q = t.look q := by
  unfold Tab.look
  show (if q.1 = true then t.snd ++ l else t.fst).getD q.2 0 = (if q.1 = true then t.snd else t.fst).getD q.2 0
  unfold Tab.buf at h
  split
  · rename_i hs
    rw [if_pos hs] at h
    rw [List.getD_eq_getElem?_getD, List.getD_eq_getElem?_getD, List.getElem?_append_left h]
  · rfl
theorem ins_text {t : Tab} {m : Nat} (h : t.Ok m) (k : Nat) (l : List Int) : (t.ins k l).text = t.text.take k ++ l ++ t.text.drop k := by
  have hL : ∀ X : List Plc, (∀ q ∈ X, q ∈ t.L) → X.map (t.ins k l).look = X.map t.look := fun X hX => List.map_congr_left fun q hq => look_ins t k l (h.1 q (hX q hq))
  have hm := look_places_fst (t.ins k l) ⟨true, t.snd.length, l.length⟩ (by show t.snd.length + l.length ≤ (t.snd ++ l).length; rw [List.length_append]; omega)
  have e : (t.ins k l).str ⟨true, t.snd.length, l.length⟩ = l := by
    show ((t.snd ++ l).drop t.snd.length).take l.length = l
    rw [List.drop_left' rfl, List.take_length]
  show List.map (t.ins k l).look (t.L.take k ++ places ⟨true, t.snd.length, l.length⟩ ++ t.L.drop k) = _
  rw [List.map_append, List.map_append, hm, e, hL _ (fun q hq => List.mem_of_mem_take hq), hL _ (fun q hq => List.mem_of_mem_drop hq), List.map_take, List.map_drop]; rfl
theorem del_text (t : Tab) (k n : Nat) : (t.del k n).text = t.text.take k ++ t.text.drop (k + n) := by
  show List.map t.look (t.L.take k ++ t.L.drop (k + n)) = _
  rw [List.map_append, List.map_take, List.map_drop]; rfl
/-- the pieces behind an insertion -/
theorem ins_group (t : Tab) (k : Nat) (l : List Int) (hl : 1 ≤ l.length) :
    ((clip 0 (k : Int) (group t.L) ++ ([⟨true, t.snd.length, l.length⟩] : List Pc)) ++ clip (k : Int) (t.L.length : Int) (group t.L)).foldl lay [] = group (t.ins k l).L := by
  have h := group_lays [] ((clip 0 (k : Int) (group t.L) ++ ([⟨true, t.snd.length, l.length⟩] : List Pc)) ++ clip (k : Int) (t.L.length : Int) (group t.L)) (fun p hp => by
    rcases List.mem_append.1 hp with hp | hp
    · rcases List.mem_append.1 hp with hp | hp
      · exact clip_len _ _ _ p hp
      · simp at hp; rw [hp]; exact hl
    · exact clip_len _ _ _ p hp)
  rw [List.nil_append, group_nil] at h
  rw [← h]
  show group _ = group (t.L.take k ++ places ⟨true, t.snd.length, l.length⟩ ++ t.L.drop k)
  congr 1
  rw [List.flatMap_append, List.flatMap_append, places_clip, places_clip, group_places]
  simp only [List.flatMap_cons, List.flatMap_nil, List.append_nil, Int.toNat_natCast, Int.toNat_zero, List.drop_zero, Nat.sub_zero]
  rw [List.take_of_length_le (l := t.L.drop k) (by rw [List.length_drop]; omega)]
theorem del_group (t : Tab) (k n : Nat) :
    (clip 0 (k : Int) (group t.L) ++ clip ((k + n : Nat) : Int) (t.L.length : Int) (group t.L)).foldl lay [] = group (t.del k n).L := by
  have h := group_lays [] (clip 0 (k : Int) (group t.L) ++ clip ((k + n : Nat) : Int) (t.L.length : Int) (group t.L)) (fun p hp => by
    rcases List.mem_append.1 hp with hp | hp
    · exact clip_len _ _ _ p hp
    · exact clip_len _ _ _ p hp)
  rw [List.nil_append, group_nil] at h
  rw [← h]
  show group _ = group (t.L.take k ++ t.L.drop (k + n))
  congr 1
  rw [List.flatMap_append, places_clip, places_clip, group_places]
  simp only [Int.toNat_natCast, Int.toNat_zero, List.drop_zero, Nat.sub_zero]
  rw [List.take_of_length_le (l := t.L.drop (k + n)) (by rw [List.length_drop]; omega)]
theorem ins_len (t : Tab) (k : Nat) (l : List Int) (hk : k ≤ t.L.length) : (t.ins k l).L.length = t.L.length + l.length := by
  show (t.L.take k ++ places ⟨true, t.snd.length, l.length⟩ ++ t.L.drop k).length = _
  rw [List.length_append, List.length_append, len_places, List.length_take, List.length_drop]; simp only; omega
theorem del_len (t : Tab) (k n : Nat) (hk : k + n ≤ t.L.length) : (t.del k n).L.length = t.L.length - n := by
  show (t.L.take k ++ t.L.drop (k + n)).length = _
  rw [List.length_append, List.length_take, List.length_drop]; omega
end Go.Proofs.Ytogmddneimhpeaa.Pl
