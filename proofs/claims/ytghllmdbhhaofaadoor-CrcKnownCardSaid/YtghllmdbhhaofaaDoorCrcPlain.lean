/-
  Plain arithmetic of layer 2 (crc): the register of 32 bits, its steps, sums of rows of bytes, as natural numbers; nothing of the program is named here. No conditions but those that each lemma states.
-/
import Derived.Test.YtghllmdbhhaofaaDoorNumPlain
namespace Go.Proofs.YtghllmdbhhaofaaDoor.Pl

/-- one step of the register -/
def st (x : Nat) : Nat := x / 2 ^^^ (if x % 2 = 1 then 3988292384 else 0)
def st4 (x : Nat) : Nat := st (st (st (st x)))
def st8 (x : Nat) : Nat := st4 (st4 x)
/-- a byte is taken in -/
def tk (x c : Nat) : Nat := st8 (x ^^^ c)
/-- bytes are taken in -/
def run (x : Nat) (bs : List Nat) : Nat := bs.foldl tk x
/-- every bit turned -/
def neg (x : Nat) : Nat := 4294967295 - x
/-- a sum goes on -/
def more (s : Nat) (bs : List Nat) : Nat := neg (run (neg s) bs)
def sum (bs : List Nat) : Nat := more 0 bs
def tab : List Nat := [0, 498536548, 997073096, 651767980, 1994146192, 1802195444, 1303535960, 1342533948, 3988292384, 4027552580, 3604390888, 3412177804, 2607071920, 2262029012, 2685067896, 3183342108]
/-- a number of 32 bits -/
def W (n : Nat) : Prop := n < 4294967296
theorem W.out {n : Nat} (h : W n) : n < 4294967296 := h
theorem W.mk {n : Nat} (h : n < 4294967296) : W n := h

theorem W_xor {a b : Nat} (ha : W a) (hb : W b) : W (a ^^^ b) := Nat.xor_lt_two_pow (n := 32) ha hb
theorem W_byte {c : Nat} (h : c < 256) : W c := W.mk (by omega)
theorem xor_half (a b : Nat) : (a ^^^ b) / 2 = a / 2 ^^^ b / 2 := by
  apply Nat.eq_of_testBit_eq
  intro i
  rw [← Nat.testBit_succ, Nat.testBit_xor, Nat.testBit_xor, Nat.testBit_succ, Nat.testBit_succ]
theorem xor_par (a b : Nat) : (a ^^^ b) % 2 = (a % 2 + b % 2) % 2 := by
  have h := Nat.testBit_xor a b 0
  rw [Nat.testBit_zero, Nat.testBit_zero, Nat.testBit_zero] at h
  have h1 := Nat.mod_two_eq_zero_or_one a
  have h2 := Nat.mod_two_eq_zero_or_one b
  have h3 := Nat.mod_two_eq_zero_or_one (a ^^^ b)
  rcases h1 with h1 | h1 <;> rcases h2 with h2 | h2 <;> rcases h3 with h3 | h3 <;> simp [h1, h2, h3] at h ⊢
theorem xor_cancel_left (a b : Nat) : a ^^^ (a ^^^ b) = b := by rw [← Nat.xor_assoc, Nat.xor_self, Nat.zero_xor]
theorem xor_swap (a b c d : Nat) : (a ^^^ b) ^^^ (c ^^^ d) = (a ^^^ c) ^^^ (b ^^^ d) := by
  rw [Nat.xor_assoc, ← Nat.xor_assoc b c d, Nat.xor_comm b c, Nat.xor_assoc c b d, ← Nat.xor_assoc]
theorem xor_eq_zero {a b : Nat} (h : a ^^^ b = 0) : a = b := by
  have := xor_cancel_left a b
  rw [h, Nat.xor_zero] at this
  exact this
theorem xor_inj {a b c : Nat} (h : a ^^^ b = a ^^^ c) : b = c := by
  rw [← xor_cancel_left a b, h, xor_cancel_left]

theorem st_xor (a b : Nat) : st (a ^^^ b) = st a ^^^ st b := by
  unfold st
  rw [xor_half, xor_par, xor_swap]
  congr 1
  rcases Nat.mod_two_eq_zero_or_one a with h1 | h1 <;> rcases Nat.mod_two_eq_zero_or_one b with h2 | h2 <;> rw [h1, h2] <;> decide
theorem st_W {a : Nat} (h : W a) : W (st a) := by
  unfold st
  refine W_xor (W.mk (by have := h.out; omega)) ?_
  split <;> exact W.mk (by decide)
theorem st_zero {a : Nat} (h : W a) (h0 : st a = 0) : a = 0 := by
  have ha := h.out
  unfold st at h0
  have := xor_eq_zero h0
  split at this <;> omega
theorem st_inj {a b : Nat} (ha : W a) (hb : W b) (h : st a = st b) : a = b := by
  refine xor_eq_zero (st_zero (W_xor ha hb) ?_)
  rw [st_xor, h, Nat.xor_self]
theorem st_even (x : Nat) : st (2 * x) = x := by
  unfold st
  rw [if_neg (by omega), Nat.xor_zero]; omega

theorem st4_xor (a b : Nat) : st4 (a ^^^ b) = st4 a ^^^ st4 b := by unfold st4; rw [st_xor, st_xor, st_xor, st_xor]
theorem st4_W {a : Nat} (h : W a) : W (st4 a) := st_W (st_W (st_W (st_W h)))
theorem st4_inj {a b : Nat} (ha : W a) (hb : W b) (h : st4 a = st4 b) : a = b :=
  st_inj ha hb (st_inj (st_W ha) (st_W hb) (st_inj (st_W (st_W ha)) (st_W (st_W hb)) (st_inj (st_W (st_W (st_W ha))) (st_W (st_W (st_W hb))) h)))
theorem st4_even (x : Nat) : st4 (16 * x) = x := by
  unfold st4
  rw [show 16 * x = 2 * (2 * (2 * (2 * x))) by omega, st_even, st_even, st_even, st_even]
theorem st8_xor (a b : Nat) : st8 (a ^^^ b) = st8 a ^^^ st8 b := by unfold st8; rw [st4_xor, st4_xor]
theorem st8_W {a : Nat} (h : W a) : W (st8 a) := st4_W (st4_W h)
theorem st8_inj {a b : Nat} (ha : W a) (hb : W b) (h : st8 a = st8 b) : a = b := st4_inj ha hb (st4_inj (st4_W ha) (st4_W hb) h)
theorem st8_even (x : Nat) : st8 (256 * x) = x := by
  unfold st8
  rw [show 256 * x = 16 * (16 * x) by omega, st4_even, st4_even]
/-- a number above, laid beside one below -/
theorem xor_above (k h l : Nat) (hl : l < 2 ^ k) : 2 ^ k * h ^^^ l = 2 ^ k * h + l := by
  rw [Nat.two_pow_add_eq_or_of_lt hl]
  apply Nat.eq_of_testBit_eq
  intro i
  rw [Nat.testBit_xor, Nat.testBit_or, Nat.testBit_two_pow_mul]
  by_cases hi : i ≥ k
  · rw [Nat.testBit_lt_two_pow (Nat.lt_of_lt_of_le hl (Nat.pow_le_pow_right (by omega) hi))]; simp
  · simp [hi]
theorem st4_low : ∀ l, l < 16 → st4 l = tab.getD l 0 := by decide
/-- four steps by the table -/
theorem st4_tab (x : Nat) : x / 16 ^^^ tab.getD (x % 16) 0 = st4 x := by
  have h : 16 * (x / 16) ^^^ x % 16 = x := by
    have := xor_above 4 (x / 16) (x % 16) (by omega)
    simp only [show (2 : Nat) ^ 4 = 16 by decide] at this
    rw [this]; omega
  have h2 := st4_xor (16 * (x / 16)) (x % 16)
  rw [h, st4_even, st4_low (x % 16) (by omega)] at h2
  exact h2.symm

theorem tk_W {x c : Nat} (h : W x) (hc : c < 256) : W (tk x c) := st8_W (W_xor h (W_byte hc))
theorem tk_inj {x y c : Nat} (hx : W x) (hy : W y) (hc : c < 256) (h : tk x c = tk y c) : x = y := by
  have := st8_inj (W_xor hx (W_byte hc)) (W_xor hy (W_byte hc)) h
  rw [Nat.xor_comm x, Nat.xor_comm y] at this
  exact xor_inj this
theorem tk_other {x c d : Nat} (hx : W x) (hc : c < 256) (hd : d < 256) (h : tk x c = tk x d) : c = d :=
  xor_inj (st8_inj (W_xor hx (W_byte hc)) (W_xor hx (W_byte hd)) h)
theorem tk_xor (x y c d : Nat) : tk (x ^^^ y) (c ^^^ d) = tk x c ^^^ tk y d := by unfold tk; rw [xor_swap, st8_xor]

theorem run_nil (x : Nat) : run x [] = x := rfl
theorem run_cons (x c : Nat) (r : List Nat) : run x (c :: r) = run (tk x c) r := rfl
theorem run_append (x : Nat) (a b : List Nat) : run x (a ++ b) = run (run x a) b := by unfold run; rw [List.foldl_append]
theorem run_snoc (x : Nat) (bs : List Nat) (i : Nat) (h : i < bs.length) : run x (bs.take (i + 1)) = tk (run x (bs.take i)) (bs.getD i 0) := by
  rw [take_snoc bs i h, run_append]; rfl
theorem run_W {x : Nat} {bs : List Nat} (h : W x) (ho : Oct bs) : W (run x bs) := by
  induction bs generalizing x with
  | nil => exact h
  | cons c r ih => exact ih (tk_W h (oct_cons ho).1) (oct_cons ho).2
theorem run_inj {x y : Nat} {bs : List Nat} (hx : W x) (hy : W y) (ho : Oct bs) (h : run x bs = run y bs) : x = y := by
  induction bs generalizing x y with
  | nil => exact h
  | cons c r ih => exact tk_inj hx hy (oct_cons ho).1 (ih (tk_W hx (oct_cons ho).1) (tk_W hy (oct_cons ho).1) (oct_cons ho).2 h)

theorem neg_W (x : Nat) : W (neg x) := W.mk (by unfold neg; omega)
theorem neg_neg {x : Nat} (h : W x) : neg (neg x) = x := by have := h.out; unfold neg; omega
theorem neg_inj {x y : Nat} (hx : W x) (hy : W y) (h : neg x = neg y) : x = y := by rw [← neg_neg hx, h, neg_neg hy]
theorem neg_xor {x : Nat} (h : W x) : neg x = x ^^^ 4294967295 := by
  have e : (BitVec.ofNat 32 x ^^^ BitVec.allOnes 32).toNat = (~~~ BitVec.ofNat 32 x).toNat := by rw [BitVec.xor_allOnes]
  have h := h.out
  rw [BitVec.toNat_xor, BitVec.toNat_not, BitVec.toNat_ofNat, BitVec.toNat_allOnes, Nat.mod_eq_of_lt h] at e
  exact e.symm
theorem more_W (s : Nat) (bs : List Nat) : W (more s bs) := neg_W _
theorem sum_W (bs : List Nat) : W (sum bs) := neg_W _
theorem more_nil {s : Nat} (h : W s) : more s [] = s := neg_neg h
theorem more_append (s : Nat) (a b : List Nat) (ha : Oct a) : more s (a ++ b) = more (more s a) b := by
  unfold more; rw [run_append, neg_neg (run_W (neg_W s) ha)]
theorem sum_append (a b : List Nat) (ha : Oct a) : sum (a ++ b) = more (sum a) b := more_append 0 a b ha
theorem sum_nil : sum [] = 0 := rfl

/-- xored, byte by byte -/
def xors : List Nat → List Nat → List Nat → List Nat
  | x :: a, y :: b, z :: c => (x ^^^ y ^^^ z) :: xors a b c
  | _, _, _ => []
theorem run_xors (a b c : List Nat) (x y z : Nat) (h1 : b.length = a.length) (h2 : c.length = a.length) : run (x ^^^ y ^^^ z) (xors a b c) = run x a ^^^ run y b ^^^ run z c := by
  induction a generalizing b c x y z with
  | nil =>
    obtain rfl : b = [] := List.eq_nil_of_length_eq_zero h1
    obtain rfl : c = [] := List.eq_nil_of_length_eq_zero h2
    rfl
  | cons p a ih =>
    cases b with
    | nil => simp at h1
    | cons q b =>
      cases c with
      | nil => simp at h2
      | cons r c =>
        simp only [List.length_cons, Nat.add_right_cancel_iff] at h1 h2
        rw [xors, run_cons, run_cons, run_cons, run_cons, tk_xor, tk_xor, ih b c _ _ _ h1 h2]
theorem sum_xors (a b c : List Nat) (ha : Oct a) (hb : Oct b) (hc : Oct c) (h1 : b.length = a.length) (h2 : c.length = a.length) (ho : Oct (xors a b c)) :
    sum (xors a b c) = sum a ^^^ sum b ^^^ sum c := by
  have e : neg 0 = neg 0 ^^^ neg 0 ^^^ neg 0 := by decide
  have hr := run_xors a b c (neg 0) (neg 0) (neg 0) h1 h2
  rw [← e] at hr
  unfold sum more
  rw [neg_xor (run_W (neg_W 0) ho), neg_xor (run_W (neg_W 0) ha), neg_xor (run_W (neg_W 0) hb), neg_xor (run_W (neg_W 0) hc), hr, xor_swap (run (neg 0) a) 4294967295 (run (neg 0) b) 4294967295, Nat.xor_self, Nat.xor_zero, ← Nat.xor_assoc (run (neg 0) a ^^^ run (neg 0) b)]
theorem xors_len (a b c : List Nat) (h1 : b.length = a.length) (h2 : c.length = a.length) : (xors a b c).length = a.length := by
  induction a generalizing b c with
  | nil => rfl
  | cons p a ih =>
    cases b with
    | nil => simp at h1
    | cons q b =>
      cases c with
      | nil => simp at h2
      | cons r c =>
        simp only [List.length_cons, Nat.add_right_cancel_iff] at h1 h2
        rw [xors, List.length_cons, List.length_cons, ih b c h1 h2]
theorem xors_getD (a b c : List Nat) (h1 : b.length = a.length) (h2 : c.length = a.length) (i : Nat) (hi : i < a.length) : (xors a b c).getD i 0 = a.getD i 0 ^^^ b.getD i 0 ^^^ c.getD i 0 := by
  induction a generalizing b c i with
  | nil => simp at hi
  | cons p a ih =>
    cases b with
    | nil => simp at h1
    | cons q b =>
      cases c with
      | nil => simp at h2
      | cons r c =>
        simp only [List.length_cons, Nat.add_right_cancel_iff] at h1 h2
        cases i with
        | zero => rfl
        | succ i => exact ih b c h1 h2 i (by simpa using hi)
theorem byte_xor {a b : Nat} (ha : a < 256) (hb : b < 256) : a ^^^ b < 256 := Nat.xor_lt_two_pow (n := 8) ha hb
theorem xors_oct (a b c : List Nat) (ha : Oct a) (hb : Oct b) (hc : Oct c) : Oct (xors a b c) := by
  induction a generalizing b c with
  | nil => intro x hx; simp [xors] at hx
  | cons p a ih =>
    cases b with
    | nil => intro x hx; simp [xors] at hx
    | cons q b =>
      cases c with
      | nil => intro x hx; simp [xors] at hx
      | cons r c =>
        intro x hx
        rcases List.mem_cons.1 hx with rfl | hx
        · exact byte_xor (byte_xor (oct_cons ha).1 (oct_cons hb).1) (oct_cons hc).1
        · exact ih b c (oct_cons ha).2 (oct_cons hb).2 (oct_cons hc).2 x hx

/-! ### up to four bytes at once -/
def stN : Nat → Nat → Nat
  | 0, x => x
  | n + 1, x => stN n (st8 x)
theorem stN_xor (n a b : Nat) : stN n (a ^^^ b) = stN n a ^^^ stN n b := by
  induction n generalizing a b with
  | zero => rfl
  | succ n ih => rw [stN, stN, stN, st8_xor, ih]
theorem stN_inj (n : Nat) {a b : Nat} (ha : W a) (hb : W b) (h : stN n a = stN n b) : a = b := by
  induction n generalizing a b with
  | zero => exact h
  | succ n ih => exact st8_inj ha hb (ih (st8_W ha) (st8_W hb) h)
/-- bytes taken in, all at once: their number is laid into the register -/
theorem run_val (bs : List Nat) (x : Nat) (ho : Oct bs) : run x bs = stN bs.length (x ^^^ val8 bs) := by
  induction bs generalizing x with
  | nil => rw [val8, Nat.xor_zero]; rfl
  | cons c r ih =>
    have hc := (oct_cons ho).1
    have e : val8 (c :: r) = c ^^^ 256 * val8 r := by
      rw [val8, Nat.xor_comm]
      have := xor_above 8 (val8 r) c (by omega)
      simp only [show (2 : Nat) ^ 8 = 256 by decide] at this
      rw [this]; omega
    rw [run_cons, ih _ (oct_cons ho).2, e, List.length_cons, stN, ← Nat.xor_assoc, st8_xor, st8_even]
    rfl
theorem val8_W {bs : List Nat} (ho : Oct bs) (hl : bs.length ≤ 4) : W (val8 bs) := by
  have h1 := val8_lt bs ho
  have h2 : 256 ^ bs.length ≤ 256 ^ 4 := Nat.pow_le_pow_right (by omega) hl
  exact W.mk (by simp only [show (256 : Nat) ^ 4 = 4294967296 by decide] at h2; omega)
theorem val8_inj {a b : List Nat} (ha : Oct a) (hb : Oct b) (hl : a.length = b.length) (h : val8 a = val8 b) : a = b := by
  induction a generalizing b with
  | nil => cases b with
    | nil => rfl
    | cons c r => simp at hl
  | cons p a ih => cases b with
    | nil => simp at hl
    | cons q b =>
      have h1 := (oct_cons ha).1
      have h2 := (oct_cons hb).1
      simp only [val8] at h
      have e1 : p = q := by omega
      have e2 : val8 a = val8 b := by omega
      rw [e1, ih (oct_cons ha).2 (oct_cons hb).2 (by simpa using hl) e2]
theorem run_inj4 {x : Nat} {a b : List Nat} (hx : W x) (ha : Oct a) (hb : Oct b) (hl : a.length = b.length) (h4 : a.length ≤ 4) (h : run x a = run x b) : a = b := by
  rw [run_val a x ha, run_val b x hb, hl] at h
  exact val8_inj ha hb hl (xor_inj (stN_inj _ (W_xor hx (val8_W ha h4)) (W_xor hx (val8_W hb (by omega))) h))
theorem more_inj4 {s : Nat} {a b : List Nat} (ha : Oct a) (hb : Oct b) (hl : a.length = b.length) (h4 : a.length ≤ 4) : more s a = more s b ↔ a = b := by
  refine ⟨fun h => ?_, fun h => by rw [h]⟩
  exact run_inj4 (neg_W s) ha hb hl h4 (neg_inj (run_W (neg_W s) ha) (run_W (neg_W s) hb) h)
theorem lay_val8 (n : Nat) (h : W n) : val8 (lay 4 n) = n := by
  rw [val8_lay, Nat.mod_eq_of_lt (by have := h.out; simp only [show (256 : Nat) ^ 4 = 4294967296 by decide]; exact this)]
theorem lay_inj {m n : Nat} (hm : W m) (hn : W n) (h : lay 4 m = lay 4 n) : m = n := by rw [← lay_val8 m hm, h, lay_val8 n hn]
/-- a frame -/
def mark (bs : List Nat) : List Nat := bs ++ lay 4 (sum bs)
theorem mark_len (bs : List Nat) : (mark bs).length = bs.length + 4 := by unfold mark; rw [List.length_append, len_lay]
theorem mark_oct {bs : List Nat} (h : Oct bs) : Oct (mark bs) := oct_append h (oct_lay _ _)
/-- every sum, with its own bytes behind -/
theorem more_own (s : Nat) (h : W s) : more s (lay 4 s) = 558161692 := by
  unfold more
  have e : neg s ^^^ s = 4294967295 := by rw [neg_xor h, Nat.xor_comm, xor_cancel_left]
  rw [run_val _ _ (oct_lay _ _), len_lay, lay_val8 s h, e]
  decide
theorem sum_mark {bs : List Nat} (h : Oct bs) : sum (mark bs) = 558161692 := by
  unfold mark
  rw [sum_append _ _ h, more_own _ (sum_W bs)]
theorem run_other {x c d : Nat} {pre post : List Nat} (hx : W x) (hp : Oct pre) (hc : c < 256) (hd : d < 256) (hq : Oct post) (h : run x (pre ++ c :: post) = run x (pre ++ d :: post)) : c = d := by
  rw [run_append, run_append, run_cons, run_cons] at h
  have hr := run_W hx hp
  exact tk_other hr hc hd (run_inj (tk_W hr hc) (tk_W hr hd) hq h)
/-- one byte turned -/
theorem sum_other {bs : List Nat} (ho : Oct bs) (i x : Nat) (hi : i < bs.length) (hx : x < 256) (h : sum (bs.set i x) = sum bs) : x = bs.getD i 0 := by
  have e1 : bs.set i x = bs.take i ++ (x :: bs.drop (i + 1)) := by rw [List.set_eq_take_append_cons_drop, if_pos hi]
  have e2 : bs = bs.take i ++ (bs.getD i 0 :: bs.drop (i + 1)) := by
    conv => lhs; rw [← List.take_append_drop i bs]
    rw [List.drop_eq_getElem_cons hi, List.getD_eq_getElem?_getD, List.getElem?_eq_getElem hi]; rfl
  have hs : Oct (bs.set i x) := fun y hy => by
    rcases List.mem_or_eq_of_mem_set hy with hy | rfl
    · exact ho y hy
    · exact hx
  have h1 := neg_inj (run_W (neg_W 0) hs) (run_W (neg_W 0) ho) h
  have h2 : run (neg 0) (bs.take i ++ (x :: bs.drop (i + 1))) = run (neg 0) (bs.take i ++ (bs.getD i 0 :: bs.drop (i + 1))) := by rw [← e1, ← e2]; exact h1
  exact run_other (neg_W 0) (oct_take ho i) hx (oct_getD ho i) (oct_drop ho (i + 1)) h2
end Go.Proofs.YtghllmdbhhaofaaDoor.Pl
