/-
  UTF-8 in plain words, no program: which code points may be, their bytes, the first code point of bytes, how many bytes are code points' bytes, and which. No conditions but those that each lemma states.
-/
import Derived.Test.YtillndchojaniaaDoorNumPlain
namespace Go.Proofs.YtillndchojaniaaDoor.Pl

/-- a code point that may be -/
def May (c : Int) : Prop := 0 ≤ c ∧ c < 55296 ∨ 57343 < c ∧ c ≤ 1114111
instance (c : Int) : Decidable (May c) := by unfold May; infer_instance
theorem May.le {c : Int} (h : May c) : 0 ≤ c ∧ c ≤ 1114111 := by unfold May at h; omega
/-- the bytes of a number that is a code point -/
def one (n : Nat) : List Nat :=
  if n < 128 then [n] else if n < 2048 then [192 + n / 64, 128 + n % 64]
  else if n < 65536 then [224 + n / 4096, 128 + n / 64 % 64, 128 + n % 64]
  else [240 + n / 262144, 128 + n / 4096 % 64, 128 + n / 64 % 64, 128 + n % 64]
def uno (c : Int) : List Nat := one c.toNat
def size (c : Int) : Nat := if May c then (uno c).length else 0
def encs (cs : List Int) : List Nat := cs.flatMap uno
def AllMay (cs : List Int) : Prop := ∀ c ∈ cs, May c
theorem encs_nil : encs [] = [] := rfl
theorem encs_cons (c : Int) (cs : List Int) : encs (c :: cs) = uno c ++ encs cs := by simp [encs]
theorem encs_append (a b : List Int) : encs (a ++ b) = encs a ++ encs b := by simp [encs]
theorem AllMay.append {a b : List Int} (h : AllMay a) (k : AllMay b) : AllMay (a ++ b) := fun c hc => by
  rcases List.mem_append.1 hc with hc | hc
  · exact h c hc
  · exact k c hc
theorem len_one (n : Nat) : (one n).length = if n < 128 then 1 else if n < 2048 then 2 else if n < 65536 then 3 else 4 := by
  unfold one
  split
  · rfl
  · split
    · rfl
    · split <;> rfl
theorem len_uno (c : Int) : 1 ≤ (uno c).length ∧ (uno c).length ≤ 4 := by
  unfold uno
  rw [len_one]
  split
  · omega
  · split
    · omega
    · split <;> omega
theorem size_may {c : Int} (h : May c) : size c = (uno c).length := by rw [size, if_pos h]
theorem size_not {c : Int} (h : ¬ May c) : size c = 0 := by rw [size, if_neg h]
theorem size_eq {c : Int} (h : May c) : size c = if c ≤ 127 then 1 else if c ≤ 2047 then 2 else if c ≤ 65535 then 3 else 4 := by
  rw [size_may h, uno, len_one]
  have := h.le
  by_cases h1 : c ≤ 127
  · rw [if_pos h1, if_pos (by omega)]
  · rw [if_neg h1, if_neg (by omega)]
    by_cases h2 : c ≤ 2047
    · rw [if_pos h2, if_pos (by omega)]
    · rw [if_neg h2, if_neg (by omega)]
      by_cases h3 : c ≤ 65535
      · rw [if_pos h3, if_pos (by omega)]
      · rw [if_neg h3, if_neg (by omega)]
theorem size_cases {c : Int} (h : May c) : c ≤ 127 ∧ size c = 1 ∨ 127 < c ∧ c ≤ 2047 ∧ size c = 2 ∨ 2047 < c ∧ c ≤ 65535 ∧ size c = 3 ∨ 65535 < c ∧ size c = 4 := by
  have := size_eq h
  by_cases h1 : c ≤ 127
  · rw [if_pos h1] at this; omega
  · rw [if_neg h1] at this
    by_cases h2 : c ≤ 2047
    · rw [if_pos h2] at this; omega
    · rw [if_neg h2] at this
      by_cases h3 : c ≤ 65535
      · rw [if_pos h3] at this; omega
      · rw [if_neg h3] at this; omega
theorem may_bool (c : Int) : decide (May c) = (decide (0 ≤ c) && decide (c < 55296) || decide (57343 < c) && decide (c ≤ 1114111)) := by
  rw [Bool.eq_iff_iff, decide_eq_true_iff]; simp only [decide_eq_true_iff, Bool.or_eq_true, Bool.and_eq_true]; exact Iff.rfl
theorem size_le (c : Int) : size c ≤ 4 := by
  unfold size; split
  · exact (len_uno c).2
  · omega
theorem size_pos {c : Int} (h : May c) : 1 ≤ size c := by rw [size_may h]; exact (len_uno c).1
theorem may_of_size {c : Int} (h : size c ≠ 0) : May c := by
  by_cases hm : May c
  · exact hm
  · exact absurd (size_not hm) h
theorem oct_one {n : Nat} (h : n ≤ 1114111) : Oct (one n) := by
  unfold one
  intro x hx
  split at hx
  · simp at hx; omega
  · split at hx
    · simp at hx; omega
    · split at hx
      · simp at hx; omega
      · simp at hx; omega
theorem oct_uno {c : Int} (h : May c) : Oct (uno c) := oct_one (by have := h.le; omega)
theorem oct_encs {cs : List Int} (h : AllMay cs) : Oct (encs cs) := by
  intro x hx
  obtain ⟨c, hc, hx⟩ := List.mem_flatMap.1 hx
  exact oct_uno (h c hc) x hx
theorem len_encs_le (cs : List Int) : (encs cs).length ≤ 4 * cs.length := by
  induction cs with
  | nil => simp [encs]
  | cons c cs ih => rw [encs_cons, List.length_append, List.length_cons]; have := (len_uno c).2; omega

/-- a byte behind the first -/
def Cont (x : Nat) : Prop := 128 ≤ x ∧ x < 192
instance (x : Nat) : Decidable (Cont x) := by unfold Cont; infer_instance
/-- the first code point, and how many bytes it has; none: 0, 0 -/
def fst : List Nat → Nat × Nat
  | [] => (0, 0)
  | b :: r =>
    if b < 128 then (b, 1)
    else if b < 192 then (0, 0)
    else if b < 224 then
      match r with
      | x :: _ => if Cont x ∧ 128 ≤ (b - 192) * 64 + (x - 128) then ((b - 192) * 64 + (x - 128), 2) else (0, 0)
      | _ => (0, 0)
    else if b < 240 then
      match r with
      | x :: y :: _ =>
        if Cont x ∧ Cont y ∧ 2048 ≤ (b - 224) * 4096 + (x - 128) * 64 + (y - 128) ∧ ¬ (55296 ≤ (b - 224) * 4096 + (x - 128) * 64 + (y - 128) ∧ (b - 224) * 4096 + (x - 128) * 64 + (y - 128) ≤ 57343) then
          ((b - 224) * 4096 + (x - 128) * 64 + (y - 128), 3) else (0, 0)
      | _ => (0, 0)
    else if b < 248 then
      match r with
      | x :: y :: z :: _ =>
        if Cont x ∧ Cont y ∧ Cont z ∧ 65536 ≤ (b - 240) * 262144 + (x - 128) * 4096 + (y - 128) * 64 + (z - 128) ∧ (b - 240) * 262144 + (x - 128) * 4096 + (y - 128) * 64 + (z - 128) ≤ 1114111 then
          ((b - 240) * 262144 + (x - 128) * 4096 + (y - 128) * 64 + (z - 128), 4) else (0, 0)
      | _ => (0, 0)
    else (0, 0)

/-- what fst tells of a code point's bytes with whatever behind -/
theorem fst_one {n : Nat} (h : May n) (r : List Nat) : fst (one n ++ r) = (n, (one n).length) := by
  unfold May at h
  unfold one
  by_cases h1 : n < 128
  · rw [if_pos h1]; simp [fst, h1]
  · rw [if_neg h1]
    by_cases h2 : n < 2048
    · rw [if_pos h2]
      have e : (192 + n / 64 - 192) * 64 + (128 + n % 64 - 128) = n := by omega
      simp only [List.cons_append, List.nil_append, fst, e]
      rw [if_neg (by omega), if_neg (by omega), if_pos (by omega), if_pos ⟨⟨by omega, by omega⟩, by omega⟩]
      rfl
    · rw [if_neg h2]
      by_cases h3 : n < 65536
      · rw [if_pos h3]
        have e : (224 + n / 4096 - 224) * 4096 + (128 + n / 64 % 64 - 128) * 64 + (128 + n % 64 - 128) = n := by omega
        simp only [List.cons_append, List.nil_append, fst, e]
        rw [if_neg (by omega), if_neg (by omega), if_neg (by omega), if_pos (by omega), if_pos ⟨⟨by omega, by omega⟩, ⟨by omega, by omega⟩, by omega, by omega⟩]
        rfl
      · rw [if_neg h3]
        have e : (240 + n / 262144 - 240) * 262144 + (128 + n / 4096 % 64 - 128) * 4096 + (128 + n / 64 % 64 - 128) * 64 + (128 + n % 64 - 128) = n := by omega
        simp only [List.cons_append, List.nil_append, fst, e]
        rw [if_neg (by omega), if_neg (by omega), if_neg (by omega), if_neg (by omega), if_pos (by omega), if_pos ⟨⟨by omega, by omega⟩, ⟨by omega, by omega⟩, ⟨by omega, by omega⟩, by omega, by omega⟩]
        rfl
theorem fst_uno {c : Int} (h : May c) (r : List Nat) : fst (uno c ++ r) = (c.toNat, (uno c).length) := by
  have e : ((c.toNat : Nat) : Int) = c := by have := h.le; omega
  exact fst_one (by rw [e]; exact h) r

/-- it tells none, or one whose bytes stand ahead -/
def Fit (bs : List Nat) (p : Nat × Nat) : Prop := p = (0, 0) ∨ (May p.1 ∧ p.2 = (one p.1).length ∧ bs.take p.2 = one p.1)
theorem fit_none (bs : List Nat) : Fit bs (0, 0) := Or.inl rfl
theorem fst_fit (bs : List Nat) : Fit bs (fst bs) := by
  match bs with
  | [] => exact fit_none _
  | b :: r =>
    simp only [fst]
    by_cases h1 : b < 128
    · rw [if_pos h1]
      refine Or.inr ⟨Or.inl ⟨by simp, by simp; omega⟩, ?_, ?_⟩ <;> simp [one, h1]
    · rw [if_neg h1]
      by_cases h2 : b < 192
      · rw [if_pos h2]; exact fit_none _
      · rw [if_neg h2]
        by_cases h3 : b < 224
        · rw [if_pos h3]
          match r with
          | [] => exact fit_none _
          | x :: r =>
            simp only
            split
            · rename_i h
              obtain ⟨⟨h4, h5⟩, h6⟩ := h
              have hn : (b - 192) * 64 + (x - 128) < 2048 := by omega
              refine Or.inr ⟨Or.inl ⟨by simp; omega, by simp; omega⟩, ?_, ?_⟩
              · simp only [one]; rw [if_neg (by omega), if_pos hn]; rfl
              · simp only [one]; rw [if_neg (by omega), if_pos hn]
                simp only [List.take_succ_cons, List.take_zero, List.cons.injEq, and_true]
                omega
            · exact fit_none _
        · rw [if_neg h3]
          by_cases h4 : b < 240
          · rw [if_pos h4]
            match r with
            | [] => exact fit_none _
            | [x] => exact fit_none _
            | x :: y :: r =>
              simp only
              split
              · rename_i h
                obtain ⟨⟨h5, h6⟩, ⟨h7, h8⟩, h9, h10⟩ := h
                have hn : (b - 224) * 4096 + (x - 128) * 64 + (y - 128) < 65536 := by omega
                refine Or.inr ⟨?_, ?_, ?_⟩
                · unfold May; omega
                · simp only [one]; rw [if_neg (by omega), if_neg (by omega), if_pos hn]; rfl
                · simp only [one]; rw [if_neg (by omega), if_neg (by omega), if_pos hn]
                  simp only [List.take_succ_cons, List.take_zero, List.cons.injEq, and_true]
                  omega
              · exact fit_none _
          · rw [if_neg h4]
            by_cases h5 : b < 248
            · rw [if_pos h5]
              match r with
              | [] => exact fit_none _
              | [x] => exact fit_none _
              | [x, y] => exact fit_none _
              | x :: y :: z :: r =>
                simp only
                split
                · rename_i h
                  obtain ⟨⟨h6, h7⟩, ⟨h8, h9⟩, ⟨h10, h11⟩, h12, h13⟩ := h
                  refine Or.inr ⟨?_, ?_, ?_⟩
                  · unfold May; omega
                  · simp only [one]; rw [if_neg (by omega), if_neg (by omega), if_neg (by omega)]; rfl
                  · simp only [one]; rw [if_neg (by omega), if_neg (by omega), if_neg (by omega)]
                    simp only [List.take_succ_cons, List.take_zero, List.cons.injEq, and_true]
                    omega
                · exact fit_none _
            · rw [if_neg h5]; exact fit_none _
theorem fst_ok {bs : List Nat} (h : (fst bs).2 ≠ 0) : May (fst bs).1 ∧ (fst bs).2 = (uno (fst bs).1).length ∧ bs = uno (fst bs).1 ++ bs.drop (fst bs).2 := by
  rcases fst_fit bs with e | ⟨h1, h2, h3⟩
  · rw [e] at h; exact absurd rfl h
  · have e : uno ((fst bs).1 : Nat) = one (fst bs).1 := by simp [uno]
    refine ⟨h1, by rw [e]; exact h2, ?_⟩
    rw [e, ← h3, List.take_append_drop]
theorem fst_none {bs : List Nat} (h : (fst bs).2 = 0) : fst bs = (0, 0) := by
  rcases fst_fit bs with e | ⟨h1, h2, h3⟩
  · exact e
  · have := (len_uno ((fst bs).1 : Nat)).1
    simp only [uno, Int.toNat_natCast] at this
    omega
theorem fst_le (bs : List Nat) : (fst bs).2 ≤ bs.length ∧ (fst bs).2 ≤ 4 := by
  by_cases h : (fst bs).2 = 0
  · omega
  · obtain ⟨_, h2, h3⟩ := fst_ok h
    have h4 := congrArg List.length h3
    rw [List.length_append, List.length_drop] at h4
    have := len_uno ((fst bs).1 : Nat)
    omega
theorem fst_lt (bs : List Nat) : (fst bs).1 ≤ 1114111 := by
  by_cases h : (fst bs).2 = 0
  · rw [fst_none h]; omega
  · have := (fst_ok h).1.le; omega

/-- how many of the first bytes are code points' bytes -/
def whole (bs : List Nat) : Nat := if (fst bs).2 = 0 then 0 else (fst bs).2 + whole (bs.drop (fst bs).2)
  termination_by bs.length
  decreasing_by
    have := (fst_le bs).1
    rw [List.length_drop]
    omega
/-- the code points at the beginning -/
def dec (bs : List Nat) : List Int := if (fst bs).2 = 0 then [] else ((fst bs).1 : Int) :: dec (bs.drop (fst bs).2)
  termination_by bs.length
  decreasing_by
    have := (fst_le bs).1
    rw [List.length_drop]
    omega
theorem whole_stop {bs : List Nat} (h : (fst bs).2 = 0) : whole bs = 0 := by rw [whole, if_pos h]
theorem dec_stop {bs : List Nat} (h : (fst bs).2 = 0) : dec bs = [] := by rw [dec, if_pos h]
theorem whole_go {bs : List Nat} (h : (fst bs).2 ≠ 0) : whole bs = (fst bs).2 + whole (bs.drop (fst bs).2) := by rw [whole, if_neg h]
theorem dec_go {bs : List Nat} (h : (fst bs).2 ≠ 0) : dec bs = ((fst bs).1 : Int) :: dec (bs.drop (fst bs).2) := by rw [dec, if_neg h]
theorem whole_nil : whole [] = 0 := whole_stop rfl
theorem dec_nil : dec [] = [] := dec_stop rfl
theorem dec_spec : ∀ (n : Nat) (bs : List Nat), bs.length ≤ n → AllMay (dec bs) ∧ encs (dec bs) = bs.take (whole bs) ∧ whole bs ≤ bs.length ∧ (dec bs).length ≤ whole bs := by
  intro n
  induction n with
  | zero =>
    intro bs hn
    obtain rfl : bs = [] := List.eq_nil_of_length_eq_zero (by omega)
    rw [dec_nil, whole_nil]
    exact ⟨fun c hc => (by cases hc), rfl, by simp, by simp⟩
  | succ n ih =>
    intro bs hn
    by_cases h : (fst bs).2 = 0
    · rw [dec_stop h, whole_stop h]
      exact ⟨fun c hc => (by cases hc), by simp [encs], by omega, by simp⟩
    · have hl := (fst_le bs).1
      obtain ⟨h1, h2, h3⟩ := fst_ok h
      obtain ⟨i1, i2, i3, i4⟩ := ih (bs.drop (fst bs).2) (by rw [List.length_drop]; omega)
      rw [List.length_drop] at i3
      rw [dec_go h, whole_go h]
      refine ⟨?_, ?_, by omega, by rw [List.length_cons]; omega⟩
      · intro c hc
        rcases List.mem_cons.1 hc with rfl | hc
        · exact h1
        · exact i1 c hc
      · rw [encs_cons, i2]
        have h4 : bs.take (fst bs).2 = uno (fst bs).1 := by
          have h5 := congrArg (List.take (fst bs).2) h3
          rw [List.take_append_of_le_length (by omega), List.take_of_length_le (l := uno _) (by omega)] at h5
          exact h5
        rw [← h4, List.take_add]
theorem dec_may (bs : List Nat) : AllMay (dec bs) := (dec_spec _ bs (Nat.le_refl _)).1
theorem encs_dec (bs : List Nat) : encs (dec bs) = bs.take (whole bs) := (dec_spec _ bs (Nat.le_refl _)).2.1
theorem whole_le (bs : List Nat) : whole bs ≤ bs.length := (dec_spec _ bs (Nat.le_refl _)).2.2.1
theorem dec_le (bs : List Nat) : (dec bs).length ≤ whole bs := (dec_spec _ bs (Nat.le_refl _)).2.2.2
theorem read_encs {cs : List Int} (h : AllMay cs) (r : List Nat) : dec (encs cs ++ r) = cs ++ dec r ∧ whole (encs cs ++ r) = (encs cs).length + whole r := by
  induction cs with
  | nil => simp [encs]
  | cons c cs ih =>
    obtain ⟨i1, i2⟩ := ih (fun x hx => h x (by simp [hx]))
    have hm : May c := h c (by simp)
    have hf := fst_uno hm (encs cs ++ r)
    have hp := (len_uno c).1
    have e : ((c.toNat : Nat) : Int) = c := by have := hm.le; omega
    rw [encs_cons, List.append_assoc]
    have hne : (fst (uno c ++ (encs cs ++ r))).2 ≠ 0 := by rw [hf]; show (uno c).length ≠ 0; omega
    rw [dec_go hne, whole_go hne, hf]
    have hd : (uno c ++ (encs cs ++ r)).drop (uno c).length = encs cs ++ r := by rw [List.drop_append_of_le_length (Nat.le_refl _), List.drop_length, List.nil_append]
    simp only [hd, e, i1, i2, List.length_append, List.cons_append]
    refine ⟨trivial, by omega⟩
theorem dec_encs {cs : List Int} (h : AllMay cs) : dec (encs cs) = cs := by have := (read_encs h []).1; rwa [List.append_nil, dec_nil, List.append_nil] at this
theorem whole_encs {cs : List Int} (h : AllMay cs) : whole (encs cs) = (encs cs).length := by have := (read_encs h []).2; rwa [List.append_nil, whole_nil, Nat.add_zero] at this
theorem encs_whole {bs : List Nat} (h : whole bs = bs.length) : encs (dec bs) = bs := by rw [encs_dec, h, List.take_length]
theorem snoc_dec (bs : List Nat) (cs : List Int) (at_ : Nat) (h : dec bs = cs ++ dec (bs.drop at_)) (hn : (fst (bs.drop at_)).2 ≠ 0) :
    dec bs = (cs ++ [((fst (bs.drop at_)).1 : Int)]) ++ dec (bs.drop (at_ + (fst (bs.drop at_)).2)) := by
  rw [h, dec_go hn, List.drop_drop, List.append_assoc]; rfl
end Go.Proofs.YtillndchojaniaaDoor.Pl
