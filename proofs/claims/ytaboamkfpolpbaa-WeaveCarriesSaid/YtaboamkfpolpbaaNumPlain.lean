/-
  Plain arithmetic of layer 1 (num): numbers as bytes, seven bits a byte, as lists of natural numbers; nothing of the program is named here. No conditions but those that each lemma states.
-/
namespace Go.Proofs.Ytaboamkfpolpbaa.Wi.Pl

/-- a number of 64 bits -/
def U (n : Nat) : Prop := n < 18446744073709551616
set_option maxRecDepth 100000 in
theorem U.out {n : Nat} (h : U n) : n < 18446744073709551616 := h
set_option maxRecDepth 100000 in
theorem U.mk {n : Nat} (h : n < 18446744073709551616) : U n := h
/-- how many bytes a number has -/
def sz (n : Nat) : Nat := if n < 128 then 1 else sz (n / 128) + 1
  termination_by n
  decreasing_by omega
/-- a number's bytes -/
def enc (n : Nat) : List Nat := if n < 128 then [n] else (n % 128 + 128) :: enc (n / 128)
  termination_by n
  decreasing_by omega
/-- the number that bytes tell, seven bits of each -/
def val : List Nat → Nat
  | [] => 0
  | b :: r => b % 128 + 128 * val r
/-- how many bytes there are up to the first one below 128, among the first f -/
def reach : Nat → List Nat → Option Nat
  | 0, _ => none
  | _ + 1, [] => none
  | f + 1, b :: r => if b < 128 then some 1 else (reach f r).map (· + 1)
/-- what Get answers: the number, how many bytes, the error's number -/
def get (bs : List Nat) : Nat × Nat × Nat :=
  match reach 10 bs with
  | none => if bs.length < 10 then (0, 0, 4) else (0, 0, 5)
  | some k => if k = 10 ∧ 1 < bs.getD (k - 1) 0 ∨ 1 < k ∧ bs.getD (k - 1) 0 = 0 then (0, 0, 5) else (val (bs.take k), k, 0)
/-- fixed bytes -/
def lay : Nat → Nat → List Nat
  | 0, _ => []
  | w + 1, n => n % 256 :: lay w (n / 256)
def val8 : List Nat → Nat
  | [] => 0
  | b :: r => b + 256 * val8 r
def Oct (bs : List Nat) : Prop := ∀ x ∈ bs, x < 256

set_option maxRecDepth 100000 in
theorem sz_lt {n : Nat} (h : n < 128) : sz n = 1 := by rw [sz, if_pos h]
set_option maxRecDepth 100000 in
theorem sz_ge {n : Nat} (h : 128 ≤ n) : sz n = sz (n / 128) + 1 := by rw [sz, if_neg (by omega)]
set_option maxRecDepth 100000 in
theorem enc_lt {n : Nat} (h : n < 128) : enc n = [n] := by rw [enc, if_pos h]
set_option maxRecDepth 100000 in
theorem enc_ge {n : Nat} (h : 128 ≤ n) : enc n = (n % 128 + 128) :: enc (n / 128) := by rw [enc, if_neg (by omega)]
set_option maxRecDepth 100000 in
theorem sz_pos (n : Nat) : 1 ≤ sz n := by rw [sz]; split <;> omega
set_option maxRecDepth 100000 in
theorem len_enc (n : Nat) : (enc n).length = sz n := by
  induction n using Nat.strongRecOn with
  | _ n ih =>
    by_cases h : n < 128
    · rw [enc_lt h, sz_lt h]; rfl
    · rw [enc_ge (by omega), sz_ge (by omega), List.length_cons, ih (n / 128) (by omega)]
set_option maxRecDepth 100000 in
theorem sz_le (k : Nat) : ∀ n, n < 128 ^ (k + 1) → sz n ≤ k + 1 := by
  induction k with
  | zero => intro n h; rw [sz_lt (by simpa using h)]; omega
  | succ k ih =>
    intro n h
    by_cases h1 : n < 128
    · rw [sz_lt h1]; omega
    · rw [sz_ge (by omega)]
      have : n / 128 < 128 ^ (k + 1) := by
        rw [Nat.div_lt_iff_lt_mul (by omega)]; rw [Nat.pow_succ] at h; exact h
      have := ih _ this
      omega
set_option maxRecDepth 100000 in
theorem sz_le10 {n : Nat} (h : n < 18446744073709551616) : sz n ≤ 10 := by
  exact sz_le 9 n (Nat.lt_of_lt_of_le h (by decide))
set_option maxRecDepth 100000 in
theorem oct_enc (n : Nat) : Oct (enc n) := by
  induction n using Nat.strongRecOn with
  | _ n ih =>
    by_cases h : n < 128
    · rw [enc_lt h]; intro x hx; simp at hx; omega
    · rw [enc_ge (by omega)]; intro x hx
      rcases List.mem_cons.1 hx with rfl | hx
      · omega
      · exact ih _ (by omega) x hx
set_option maxRecDepth 100000 in
theorem sz_one {n : Nat} (h : sz n = 1) : n < 128 := by
  rcases Nat.lt_or_ge n 128 with h1 | h1
  · exact h1
  · rw [sz_ge h1] at h; have := sz_pos (n / 128); omega
set_option maxRecDepth 100000 in
theorem sz_two {n : Nat} (h : 2 ≤ sz n) : 128 ≤ n := by
  rcases Nat.lt_or_ge n 128 with h1 | h1
  · rw [sz_lt h1] at h; omega
  · exact h1
set_option maxRecDepth 100000 in
theorem oct_cons {b : Nat} {r : List Nat} (h : Oct (b :: r)) : b < 256 ∧ Oct r := ⟨h b (by simp), fun x hx => h x (by simp [hx])⟩
set_option maxRecDepth 100000 in
theorem oct_getD {bs : List Nat} (h : Oct bs) (i : Nat) : bs.getD i 0 < 256 := by
  rw [List.getD_eq_getElem?_getD]
  rcases Nat.lt_or_ge i bs.length with hi | hi
  · rw [List.getElem?_eq_getElem hi]; exact h _ (List.getElem_mem hi)
  · rw [List.getElem?_eq_none hi]; exact (by decide)
set_option maxRecDepth 100000 in
theorem oct_append {a b : List Nat} (h : Oct a) (k : Oct b) : Oct (a ++ b) := fun x hx => by
  rcases List.mem_append.1 hx with hx | hx
  · exact h x hx
  · exact k x hx
set_option maxRecDepth 100000 in
theorem oct_take {a : List Nat} (h : Oct a) (k : Nat) : Oct (a.take k) := fun x hx => h x (List.mem_of_mem_take hx)
set_option maxRecDepth 100000 in
theorem oct_drop {a : List Nat} (h : Oct a) (k : Nat) : Oct (a.drop k) := fun x hx => h x (List.mem_of_mem_drop hx)
set_option maxRecDepth 100000 in
theorem len_lay (w n : Nat) : (lay w n).length = w := by
  induction w generalizing n with
  | zero => rfl
  | succ w ih => simp [lay, ih]
set_option maxRecDepth 100000 in
theorem oct_lay (w n : Nat) : Oct (lay w n) := by
  induction w generalizing n with
  | zero => intro x hx; simp [lay] at hx
  | succ w ih =>
    intro x hx
    rcases List.mem_cons.1 hx with rfl | hx
    · omega
    · exact ih _ x hx

/-! ### reach -/
set_option maxRecDepth 100000 in
theorem reach_bound (f : Nat) (bs : List Nat) (k : Nat) (h : reach f bs = some k) : 1 ≤ k ∧ k ≤ f ∧ k ≤ bs.length := by
  induction f generalizing bs k with
  | zero => simp [reach] at h
  | succ f ih =>
    cases bs with
    | nil => simp [reach] at h
    | cons b r =>
      by_cases hb : b < 128
      · simp [reach, hb] at h; simp; omega
      · simp [reach, hb] at h
        obtain ⟨j, hj, rfl⟩ := h
        have := ih r j hj
        simp; omega
set_option maxRecDepth 100000 in
theorem reach_last (f : Nat) (bs : List Nat) (k : Nat) (h : reach f bs = some k) : bs.getD (k - 1) 0 < 128 := by
  induction f generalizing bs k with
  | zero => simp [reach] at h
  | succ f ih =>
    cases bs with
    | nil => simp [reach] at h
    | cons b r =>
      by_cases hb : b < 128
      · simp [reach, hb] at h; subst h; simpa using hb
      · simp [reach, hb] at h
        obtain ⟨j, hj, rfl⟩ := h
        have h1 := reach_bound f r j hj
        have := ih r j hj
        obtain ⟨i, rfl⟩ : ∃ i, j = i + 1 := ⟨j - 1, by omega⟩
        simpa using this
set_option maxRecDepth 100000 in
theorem reach_hit (f : Nat) (bs : List Nat) (i : Nat) (hi : i < f) (hl : i < bs.length) (hb : bs.getD i 0 < 128) (hpre : ∀ j, j < i → 128 ≤ bs.getD j 0) : reach f bs = some (i + 1) := by
  induction f generalizing bs i with
  | zero => omega
  | succ f ih =>
    cases bs with
    | nil => simp at hl
    | cons b r =>
      cases i with
      | zero => simp at hb; simp [reach, hb]
      | succ i =>
        have h0 := hpre 0 (by omega)
        simp at h0
        have := ih r i (by omega) (by simpa using hl) (by simpa using hb) (fun j hj => by simpa using hpre (j + 1) (by omega))
        simp [reach, show ¬ b < 128 by omega, this]
set_option maxRecDepth 100000 in
theorem reach_miss (f : Nat) (bs : List Nat) (hpre : ∀ j, j < f → j < bs.length → 128 ≤ bs.getD j 0) : reach f bs = none := by
  induction f generalizing bs with
  | zero => rfl
  | succ f ih =>
    cases bs with
    | nil => rfl
    | cons b r =>
      have h0 := hpre 0 (by omega) (by simp)
      simp at h0
      have := ih r (fun j hj hl => by simpa using hpre (j + 1) (by omega) (by simpa using hl))
      simp [reach, show ¬ b < 128 by omega, this]
set_option maxRecDepth 100000 in
theorem reach_pre (f : Nat) (bs : List Nat) (k : Nat) (h : reach f bs = some k) : ∀ j, j + 1 < k → 128 ≤ bs.getD j 0 := by
  induction f generalizing bs k with
  | zero => simp [reach] at h
  | succ f ih =>
    cases bs with
    | nil => simp [reach] at h
    | cons b r =>
      by_cases hb : b < 128
      · simp [reach, hb] at h; omega
      · simp [reach, hb] at h
        obtain ⟨j, hj, rfl⟩ := h
        intro i hi
        cases i with
        | zero => simp; omega
        | succ i => simpa using ih r j hj i (by omega)

/-! ### get -/
set_option maxRecDepth 100000 in
theorem get_none {bs : List Nat} (h : reach 10 bs = none) : get bs = if bs.length < 10 then (0, 0, 4) else (0, 0, 5) := by simp [get, h]
set_option maxRecDepth 100000 in
theorem get_some {bs : List Nat} {k : Nat} (h : reach 10 bs = some k) : get bs = if k = 10 ∧ 1 < bs.getD (k - 1) 0 ∨ 1 < k ∧ bs.getD (k - 1) 0 = 0 then (0, 0, 5) else (val (bs.take k), k, 0) := by simp [get, h]

set_option maxRecDepth 100000 in
theorem val_append (a b : List Nat) : val (a ++ b) = val a + 128 ^ a.length * val b := by
  induction a with
  | nil => simp [val]
  | cons x a ih =>
    simp only [List.cons_append, val, ih, List.length_cons, Nat.pow_succ]
    rw [Nat.mul_add, ← Nat.mul_assoc, Nat.mul_comm 128 (128 ^ a.length), Nat.add_assoc]
set_option maxRecDepth 100000 in
theorem val_lt (a : List Nat) : val a < 128 ^ a.length := by
  induction a with
  | nil => simp [val]
  | cons x a ih =>
    simp only [val, List.length_cons, Nat.pow_succ]
    have : x % 128 < 128 := Nat.mod_lt _ (by omega)
    omega
set_option maxRecDepth 100000 in
theorem take_snoc (l : List Nat) (i : Nat) (h : i < l.length) : l.take (i + 1) = l.take i ++ [l.getD i 0] := by
  rw [List.take_succ_eq_append_getElem h, List.getD_eq_getElem?_getD, List.getElem?_eq_getElem h]; rfl
set_option maxRecDepth 100000 in
theorem val_snoc (l : List Nat) (i : Nat) (h : i < l.length) : val (l.take (i + 1)) = val (l.take i) + 128 ^ i * (l.getD i 0 % 128) := by
  rw [take_snoc l i h, val_append, List.length_take, Nat.min_eq_left (by omega)]; simp [val]

set_option maxRecDepth 100000 in
/-- what was put is read, whatever stands behind -/
theorem reach_enc (f n : Nat) (bs : List Nat) (h : n < 128 ^ f) (hf : 0 < f) : reach f (enc n ++ bs) = some (sz n) := by
  induction f generalizing n with
  | zero => omega
  | succ f ih =>
    by_cases h1 : n < 128
    · simp [enc_lt h1, sz_lt h1, reach, h1]
    · rw [enc_ge (by omega), sz_ge (by omega)]
      have hlt : n / 128 < 128 ^ f := by rw [Nat.div_lt_iff_lt_mul (by omega)]; rw [Nat.pow_succ] at h; exact h
      have hf' : 0 < f := by
        rcases Nat.eq_zero_or_pos f with rfl | hp
        · simp at h; omega
        · exact hp
      have := ih (n / 128) hlt hf'
      simp [reach, show ¬ n % 128 + 128 < 128 by omega, this]
set_option maxRecDepth 100000 in
theorem val_enc (n : Nat) : val (enc n) = n := by
  induction n using Nat.strongRecOn with
  | _ n ih =>
    by_cases h : n < 128
    · rw [enc_lt h]; simp [val]; omega
    · rw [enc_ge (by omega)]; simp only [val, ih (n / 128) (by omega)]; omega
set_option maxRecDepth 100000 in
theorem last_enc (n : Nat) : (enc n).getD (sz n - 1) 0 = n / 128 ^ (sz n - 1) := by
  induction n using Nat.strongRecOn with
  | _ n ih =>
    by_cases h : n < 128
    · rw [enc_lt h, sz_lt h]; simp
    · rw [enc_ge (by omega), sz_ge (by omega)]
      have := ih (n / 128) (by omega)
      have hp := sz_pos (n / 128)
      obtain ⟨k, hk⟩ : ∃ k, sz (n / 128) = k + 1 := ⟨sz (n / 128) - 1, by omega⟩
      rw [hk] at this ⊢
      simp only [Nat.add_sub_cancel] at this ⊢
      rw [List.getD_cons_succ, this, Nat.div_div_eq_div_mul, Nat.pow_succ, Nat.mul_comm]
set_option maxRecDepth 100000 in
theorem last_pos {n : Nat} (h : 1 < sz n) : 0 < n / 128 ^ (sz n - 1) := by
  induction n using Nat.strongRecOn with
  | _ n ih =>
    have h1 := sz_two (n := n) (by omega)
    rw [sz_ge h1]
    by_cases h2 : 1 < sz (n / 128)
    · have := ih (n / 128) (by omega) h2
      obtain ⟨k, hk⟩ : ∃ k, sz (n / 128) = k + 1 := ⟨sz (n / 128) - 1, by omega⟩
      rw [hk] at this ⊢
      simp only [Nat.add_sub_cancel] at this ⊢
      rw [Nat.pow_succ, Nat.mul_comm, ← Nat.div_div_eq_div_mul]; exact this
    · have hp := sz_pos (n / 128)
      have : sz (n / 128) = 1 := by omega
      rw [this]; simp; omega
set_option maxRecDepth 100000 in
theorem get_enc (n : Nat) (bs : List Nat) (h : n < 18446744073709551616) : get (enc n ++ bs) = (n, sz n, 0) := by
  have hr := reach_enc 10 n bs (Nat.lt_of_lt_of_le h (by decide)) (by omega)
  have hl := len_enc n
  have hp := sz_pos n
  have hg : (enc n ++ bs).getD (sz n - 1) 0 = n / 128 ^ (sz n - 1) := by
    rw [← last_enc, List.getD_eq_getElem?_getD, List.getD_eq_getElem?_getD, List.getElem?_append_left (by omega)]
  rw [get_some hr, hg, if_neg]
  · rw [List.take_append_of_le_length (by omega), List.take_of_length_le (by omega), val_enc]
  · rintro (⟨h1, h2⟩ | ⟨h1, h2⟩)
    · rw [h1] at h2
      have : n / 128 ^ (10 - 1) ≤ 1 := by omega
      omega
    · have := last_pos h1; omega
set_option maxRecDepth 100000 in
theorem enc_val (l : List Nat) (ho : Oct l) (h1 : 1 ≤ l.length) (hlast : l.getD (l.length - 1) 0 < 128) (hz : 1 < l.length → l.getD (l.length - 1) 0 ≠ 0) (hpre : ∀ j, j + 1 < l.length → 128 ≤ l.getD j 0) : enc (val l) = l := by
  induction l with
  | nil => simp at h1
  | cons b r ih =>
    cases r with
    | nil =>
      simp at hlast
      simp only [val]
      rw [enc_lt (by omega)]; congr 1; omega
    | cons c s =>
      have h0 := hpre 0 (by simp)
      simp at h0
      have hb := (oct_cons ho).1
      have hih := ih (oct_cons ho).2 (by simp) (by simpa using hlast) (fun _ => by simpa using hz (by simp)) (fun j hj => by simpa using hpre (j + 1) (by simpa using hj))
      have hv : 0 < val (c :: s) := by
        rcases Nat.eq_zero_or_pos (val (c :: s)) with hz0 | hp
        · rw [hz0, enc_lt (by omega)] at hih
          have h2 := hz (by simp)
          rw [← hih] at h2
          simp at h2
        · exact hp
      rw [show val (b :: c :: s) = b % 128 + 128 * val (c :: s) from rfl, enc_ge (by omega)]
      have e1 : (b % 128 + 128 * val (c :: s)) / 128 = val (c :: s) := by omega
      have e2 : (b % 128 + 128 * val (c :: s)) % 128 = b % 128 := by omega
      rw [e1, e2, hih]; congr 1; omega
set_option maxRecDepth 100000 in
theorem get_err {bs : List Nat} (h : (get bs).2.2 ≠ 0) : get bs = (0, 0, (get bs).2.2) := by
  cases hr : reach 10 bs with
  | none => rw [get_none hr]; split <;> rfl
  | some k =>
    rw [get_some hr] at h ⊢
    split
    · rfl
    · rename_i h2; rw [if_neg h2] at h; exact absurd rfl h
set_option maxRecDepth 100000 in
theorem get_ok {bs : List Nat} (ho : Oct bs) (h : (get bs).2.2 = 0) : 1 ≤ (get bs).2.1 ∧ (get bs).2.1 ≤ 10 ∧ (get bs).2.1 ≤ bs.length ∧ enc (get bs).1 = bs.take (get bs).2.1 := by
  cases hr : reach 10 bs with
  | none => rw [get_none hr] at h; split at h <;> simp at h
  | some k =>
    have hb := reach_bound _ _ _ hr
    have hlast := reach_last _ _ _ hr
    have hpre := reach_pre _ _ _ hr
    rw [get_some hr] at h ⊢
    split at h
    · simp at h
    · rename_i hc
      rw [if_neg hc]
      refine ⟨hb.1, hb.2.1, hb.2.2, ?_⟩
      have hlen : (bs.take k).length = k := by rw [List.length_take]; omega
      have hgd : ∀ j, j < k → (bs.take k).getD j 0 = bs.getD j 0 := fun j hj => by
        rw [List.getD_eq_getElem?_getD, List.getD_eq_getElem?_getD, List.getElem?_take, if_pos hj]
      refine enc_val _ (oct_take ho k) (by omega) ?_ ?_ ?_
      · rw [hlen, hgd _ (by omega)]; exact hlast
      · rw [hlen, hgd _ (by omega)]; intro h1 h2; exact hc (Or.inr ⟨h1, h2⟩)
      · rw [hlen]; intro j hj; rw [hgd _ (by omega)]; exact hpre j hj
set_option maxRecDepth 100000 in
theorem val_bound {bs : List Nat} {k : Nat} (hr : reach 10 bs = some k) (hc : ¬ (k = 10 ∧ 1 < bs.getD (k - 1) 0 ∨ 1 < k ∧ bs.getD (k - 1) 0 = 0)) : val (bs.take k) < 18446744073709551616 := by
  have hb := reach_bound _ _ _ hr
  rcases Nat.lt_or_ge k 10 with h | h
  · have h1 := val_lt (bs.take k)
    rw [List.length_take, Nat.min_eq_left hb.2.2] at h1
    exact Nat.lt_of_lt_of_le h1 (Nat.le_trans (Nat.pow_le_pow_right (by omega) (show k ≤ 9 by omega)) (by decide))
  · obtain rfl : k = 10 := by omega
    rw [val_snoc bs 9 (by omega)]
    have h1 := val_lt (bs.take 9)
    rw [List.length_take, Nat.min_eq_left (by omega)] at h1
    have h2 : bs.getD 9 0 ≤ 1 := by
      rcases Nat.lt_or_ge 1 (bs.getD 9 0) with h3 | h3
      · exact absurd (Or.inl ⟨rfl, h3⟩) hc
      · exact h3
    have h3 : (128 : Nat) ^ 9 = 9223372036854775808 := by decide
    rw [h3] at h1 ⊢
    have : bs.getD 9 0 % 128 ≤ 1 := Nat.le_trans (Nat.mod_le _ _) h2
    omega
set_option maxRecDepth 100000 in
theorem get_lt (bs : List Nat) : (get bs).1 < 18446744073709551616 := by
  cases hr : reach 10 bs with
  | none => rw [get_none hr]; split <;> simp
  | some k =>
    rw [get_some hr]
    split
    · simp
    · rename_i hc; exact val_bound hr hc

/-! ### fixed bytes -/
set_option maxRecDepth 100000 in
theorem val8_lay (w n : Nat) : val8 (lay w n) = n % 256 ^ w := by
  induction w generalizing n with
  | zero => simp [lay, val8]; omega
  | succ w ih =>
    simp only [lay, val8, ih, Nat.pow_succ]
    rw [Nat.mul_comm (256 ^ w) 256, Nat.mod_mul]
set_option maxRecDepth 100000 in
theorem val8_append (a b : List Nat) : val8 (a ++ b) = val8 a + 256 ^ a.length * val8 b := by
  induction a with
  | nil => simp [val8]
  | cons x a ih =>
    simp only [List.cons_append, val8, ih, List.length_cons, Nat.pow_succ]
    rw [Nat.mul_add, ← Nat.mul_assoc, Nat.mul_comm 256 (256 ^ a.length), Nat.add_assoc]
set_option maxRecDepth 100000 in
theorem val8_lt (a : List Nat) (h : Oct a) : val8 a < 256 ^ a.length := by
  induction a with
  | nil => simp [val8]
  | cons x a ih =>
    simp only [val8, List.length_cons, Nat.pow_succ]
    have h1 := oct_cons h
    have := ih h1.2
    omega
set_option maxRecDepth 100000 in
theorem val8_snoc (l : List Nat) (i : Nat) (h : i < l.length) : val8 (l.take (i + 1)) = val8 (l.take i) + 256 ^ i * (l.getD i 0) := by
  rw [take_snoc l i h, val8_append, List.length_take, Nat.min_eq_left (by omega)]; simp [val8]
set_option maxRecDepth 100000 in
theorem lay_getD (w n i : Nat) (h : i < w) : (lay w n).getD i 0 = n / 256 ^ i % 256 := by
  induction w generalizing n i with
  | zero => omega
  | succ w ih =>
    cases i with
    | zero => simp [lay]
    | succ i => rw [lay, List.getD_cons_succ, ih _ _ (by omega), Nat.div_div_eq_div_mul, Nat.pow_succ, Nat.mul_comm]

/-! ### no one is a beginning of another one -/
set_option maxRecDepth 100000 in
theorem enc_prefix_get (n i : Nat) (h : i < sz n) (hn : n < 18446744073709551616) : get ((enc n).take i) = (0, 0, 4) := by
  have hl := len_enc n
  have h10 := sz_le10 hn
  have hlen : ((enc n).take i).length = i := by rw [List.length_take]; omega
  have hr0 := reach_enc 10 n [] (Nat.lt_of_lt_of_le hn (by decide)) (by omega)
  rw [List.append_nil] at hr0
  have hp := reach_pre _ _ _ hr0
  rw [get_none (reach_miss _ _ ?_), hlen, if_pos (by omega)]
  intro j _ hj
  rw [hlen] at hj
  have := hp j (by omega)
  rwa [List.getD_eq_getElem?_getD, List.getElem?_take, if_pos hj, ← List.getD_eq_getElem?_getD]
set_option maxRecDepth 100000 in
theorem enc_inj_prefix {a b : Nat} {r : List Nat} (ha : a < 18446744073709551616) (hb : b < 18446744073709551616) (h : enc b = enc a ++ r) : a = b := by
  have h1 := get_enc a r ha
  have h2 := get_enc b [] hb
  rw [List.append_nil, h, h1] at h2
  injection h2
set_option maxRecDepth 100000 in
theorem sz_mono {a b : Nat} (h : a ≤ b) : sz a ≤ sz b := by
  induction b using Nat.strongRecOn generalizing a with
  | _ b ih =>
    by_cases h1 : a < 128
    · rw [sz_lt h1]; exact sz_pos b
    · rw [sz_ge (by omega), sz_ge (n := b) (by omega)]
      have := ih (b / 128) (by omega) (a := a / 128) (Nat.div_le_div_right h)
      omega
end Go.Proofs.Ytaboamkfpolpbaa.Wi.Pl
