/-
  Texts and their bytes stand in one order; what copybooklaw04.UtfOrder's own closure makes of a text. Conditions: those that each states.
-/
import Derived.Test.YtillndchojaniaaDoorUtfK
import Derived.Laws.Bits128
namespace Go.Proofs.YtillndchojaniaaDoor.Pl

/-- bytes, in the order of strings -/
def lessN : List Nat → List Nat → Bool
  | _, [] => false
  | [], _ :: _ => true
  | a :: x, b :: y => if a < b then true else if b < a then false else lessN x y
/-- code points, one by one -/
def lessC : List Int → List Int → Bool
  | _, [] => false
  | [], _ :: _ => true
  | a :: x, b :: y => if a < b then true else if b < a then false else lessC x y
theorem lessN_cons (a b : Nat) (x y : List Nat) : lessN (a :: x) (b :: y) = if a < b then true else if b < a then false else lessN x y := rfl
theorem lessN_same (p x y : List Nat) : lessN (p ++ x) (p ++ y) = lessN x y := by
  induction p with
  | nil => rfl
  | cons a p ih => rw [List.cons_append, List.cons_append, lessN_cons, if_neg (Nat.lt_irrefl _), if_neg (Nat.lt_irrefl _), ih]
theorem less_one {n m : Nat} (hn : n ≤ 1114111) (hm : m ≤ 1114111) (hne : n ≠ m) (X Y : List Nat) : lessN (one n ++ X) (one m ++ Y) = decide (n < m) := by
  unfold one
  by_cases h1 : n < 128
  all_goals by_cases h2 : n < 2048
  all_goals by_cases h3 : n < 65536
  all_goals by_cases k1 : m < 128
  all_goals by_cases k2 : m < 2048
  all_goals by_cases k3 : m < 65536
  all_goals first
    | (exfalso; omega)
    | (simp only [h1, h2, h3, k1, k2, k3, if_true, if_false, List.cons_append, List.nil_append, lessN_cons]
       repeat' split
       all_goals first
         | exact (decide_eq_true (by omega)).symm
         | exact (decide_eq_false (by omega)).symm
         | (exfalso; omega))
theorem less_encs : ∀ (xs ys : List Int), AllMay xs → AllMay ys → lessN (encs xs) (encs ys) = lessC xs ys
  | [], [], _, _ => rfl
  | _ :: _, [], _, _ => by rw [encs_nil]; simp [lessN, lessC]
  | [], d :: ys, _, _ => by
    rw [encs_nil, encs_cons]
    have h := (len_uno d).1
    match h2 : uno d with
    | [] => rw [h2] at h; simp at h
    | a :: r => rfl
  | c :: xs, d :: ys, h, k => by
    have hc := (h c (by simp)).le
    have hd := (k d (by simp)).le
    have ih := less_encs xs ys (fun x hx => h x (by simp [hx])) (fun x hx => k x (by simp [hx]))
    rw [encs_cons, encs_cons]
    show _ = if c < d then true else if d < c then false else lessC xs ys
    by_cases hcd : c = d
    · subst hcd
      rw [lessN_same, ih, if_neg (by omega), if_neg (by omega)]
    · have h1 := less_one (n := c.toNat) (m := d.toNat) (by omega) (by omega) (by omega) (encs xs) (encs ys)
      rw [show one c.toNat = uno c from rfl, show one d.toNat = uno d from rfl] at h1
      rw [h1]
      by_cases h2 : c < d
      · rw [if_pos h2, decide_eq_true (by omega)]
      · rw [if_neg h2, if_pos (by omega), decide_eq_false (by omega)]
theorem lessC_at : ∀ (j : Nat) (xs ys : List Int), (∀ t, t < j → xs.getD t 0 = ys.getD t 0) → j < xs.length → j < ys.length → xs.getD j 0 ≠ ys.getD j 0 → lessC xs ys = decide (xs.getD j 0 < ys.getD j 0)
  | _, [], _, _, h, _, _ => by simp at h
  | _, _ :: _, [], _, _, h, _ => by simp at h
  | 0, a :: xs, b :: ys, _, _, _, hne => by
    have hne' : a ≠ b := hne
    show (if a < b then true else if b < a then false else lessC xs ys) = decide (a < b)
    by_cases h : a < b
    · rw [if_pos h, decide_eq_true h]
    · rw [if_neg h, if_pos (by omega), decide_eq_false h]
  | j + 1, a :: xs, b :: ys, heq, h1, h2, hne => by
    have h0 : a = b := heq 0 (by omega)
    subst h0
    show (if a < a then true else if a < a then false else lessC xs ys) = decide (xs.getD j 0 < ys.getD j 0)
    rw [if_neg (by omega), if_neg (by omega)]
    exact lessC_at j xs ys (fun t ht => heq (t + 1) (by omega)) (by simpa using h1) (by simpa using h2) hne
theorem lessC_len : ∀ (xs ys : List Int), (∀ t, t < xs.length → t < ys.length → xs.getD t 0 = ys.getD t 0) → lessC xs ys = decide (xs.length < ys.length)
  | [], [], _ => rfl
  | _ :: _, [], _ => by simp [lessC]
  | [], _ :: _, _ => by simp [lessC]
  | a :: xs, b :: ys, h => by
    have h0 : a = b := h 0 (by simp) (by simp)
    subst h0
    show (if a < a then true else if a < a then false else lessC xs ys) = _
    rw [if_neg (by omega), if_neg (by omega), lessC_len xs ys (fun t h1 h2 => h (t + 1) (by simpa using h1) (by simpa using h2))]
    simp
theorem encs_inj {xs ys : List Int} (h : AllMay xs) (k : AllMay ys) : encs xs = encs ys ↔ xs = ys :=
  ⟨fun e => by rw [← dec_encs h, ← dec_encs k, e], fun e => by rw [e]⟩
/-- what the closure makes of a code point -/
def fit1 (x : Int) : Int := if May x then x else x % 32768
def fit (cs : List Int) : List Int := cs.map fit1
theorem fit1_may (x : Int) : May (fit1 x) := by
  unfold fit1
  split
  · assumption
  · exact Or.inl (by omega)
theorem fit_may (cs : List Int) : AllMay (fit cs) := fun c hc => by
  obtain ⟨x, _, rfl⟩ := List.mem_map.1 hc
  exact fit1_may x
end Go.Proofs.YtillndchojaniaaDoor.Pl
namespace Go.Proofs.YtillndchojaniaaDoor
open Go.RowKit
theorem and15 (n : Int) : bits .and .i32 n 32767 = n % 32768 := by
  have h127 : (BitVec.ofInt 32 32767).toNat = 2 ^ 15 - 1 := by decide
  have key : (BitVec.ofInt 32 n &&& BitVec.ofInt 32 32767).toNat = (n % ((2 ^ 32 : Nat) : Int)).toNat % 2 ^ 15 := by
    rw [BitVec.toNat_and, BitVec.toNat_ofInt, h127, Nat.and_two_pow_sub_one_eq_mod]
  show IntKind.i32.wrap ((BitVec.ofInt 32 n &&& BitVec.ofInt 32 32767).toNat : Nat) = n % 32768
  rw [key, IntKind.wrap_i32]
  omega
theorem str_list (xs : List Nat) : (strOfNums (ints xs)).toList = xs.map UInt8.ofNat := by
  rw [ByteArray.toList_eq]
  simp [strOfNums, ints]
theorem bytesLess_eq : ∀ (xs ys : List Nat), Pl.Oct xs → Pl.Oct ys → Op.bytesLess (xs.map UInt8.ofNat) (ys.map UInt8.ofNat) = Pl.lessN xs ys
  | [], [], _, _ => rfl
  | _ :: _, [], _, _ => rfl
  | [], _ :: _, _, _ => rfl
  | a :: xs, b :: ys, h, k => by
    have ha := (Pl.oct_cons h).1
    have hb := (Pl.oct_cons k).1
    have ih := bytesLess_eq xs ys (Pl.oct_cons h).2 (Pl.oct_cons k).2
    have e1 : (UInt8.ofNat a < UInt8.ofNat b) ↔ a < b := by
      rw [UInt8.lt_iff_toNat_lt, UInt8.toNat_ofNat', UInt8.toNat_ofNat', Nat.mod_eq_of_lt ha, Nat.mod_eq_of_lt hb]
    have e2 : (UInt8.ofNat a = UInt8.ofNat b) ↔ a = b := by
      rw [← UInt8.toNat_inj, UInt8.toNat_ofNat', UInt8.toNat_ofNat', Nat.mod_eq_of_lt ha, Nat.mod_eq_of_lt hb]
    show (decide (UInt8.ofNat a < UInt8.ofNat b) || ((UInt8.ofNat a == UInt8.ofNat b) && Op.bytesLess (xs.map UInt8.ofNat) (ys.map UInt8.ofNat))) = _
    rw [ih, Pl.lessN_cons]
    by_cases h1 : a < b
    · rw [if_pos h1, decide_eq_true (e1.2 h1)]; rfl
    · rw [if_neg h1, decide_eq_false (fun h => h1 (e1.1 h))]
      by_cases h2 : b < a
      · rw [if_pos h2]
        have : (UInt8.ofNat a == UInt8.ofNat b) = false := by rw [beq_eq_false_iff_ne]; exact fun h => by have := e2.1 h; omega
        rw [this]; rfl
      · rw [if_neg h2]
        have : (UInt8.ofNat a == UInt8.ofNat b) = true := by rw [beq_iff_eq]; exact e2.2 (by omega)
        rw [this]; simp
theorem str_less {xs ys : List Int} (h : Pl.AllMay xs) (k : Pl.AllMay ys) : Op.bytesLess (strOfNums (ints (Pl.encs xs))).toList (strOfNums (ints (Pl.encs ys))).toList = Pl.lessC xs ys := by
  rw [str_list, str_list, bytesLess_eq _ _ (Pl.oct_encs h) (Pl.oct_encs k), Pl.less_encs _ _ h k]
end Go.Proofs.YtillndchojaniaaDoor
