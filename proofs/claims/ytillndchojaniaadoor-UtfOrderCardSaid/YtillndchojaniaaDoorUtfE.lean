/-
  Parts of slices as run equations (b[k:m] of bytes, of code points); contract of utf.first. Conditions: the tables stand.
-/
import Derived.Test.YtillndchojaniaaDoorUtfC
namespace Go.Proofs.YtillndchojaniaaDoor
open Go.RowKit

/-- b[k:m] of bytes -/
theorem Bys.mid {w : World} {B n c k m : Nat} {A : Option Addr} {bs : List Nat} (h : Bys w B A n c bs) (hk : k ≤ m) (hm : m ≤ n) (l u : Int) (hl : l = (k : Int)) (hu : u = (m : Int)) :
    ∃ A2, Bys w B A2 (m - k) (c - k) ((bs.drop k).take (m - k)) ∧ ∀ w', (Instr.sliceAt 23 (.slice A n c) (some (.int .i64 l)) (some (.int .i64 u)) none).run Tryd.prog w' = .ok (.slice A2 (m - k) (c - k)) w' := by
  subst hl hu
  have hle := h.le
  obtain ⟨i0, hi, _⟩ := info_parts infoByte
  have hu : Tryd.prog.underlying 23 = some (.slice (Tryd.prog.elem 23)) := by rw [Tryd.underlying23]; rfl
  have he : Tryd.prog.elem 23 = 5 := by kernel_rfl
  have hrun : ∀ w', (Instr.sliceAt 23 (.slice A n c) (some (.int .i64 (k : Int))) (some (.int .i64 (m : Int))) none).run Tryd.prog w' = .ok (sliced A k m c 1) w' := by
    intro w'
    rw [run_sliceAt_slice w' _ _ _ _ _ hu, run_slice_lh w' 23 A n c hu .i64 .i64 (k : Int) (m : Int) (by omega) (by omega) (by omega), he, run_sizeOf w' hi]
    simp [Result.andThen, cellsByte]
  have hl := h.len
  have hc := h.cap
  by_cases hck : c = k
  · refine ⟨A, ?_, fun w' => by rw [hrun]; simp [sliced, hck]⟩
    have h0 : m - k = 0 := by omega
    rw [h0, show c - k = 0 by omega, List.take_zero]
    exact ⟨rfl, Nat.le_refl _, Nat.zero_le _, (fun _ => rfl), (fun x hx => by cases hx), fun h => absurd h (by omega)⟩
  · refine ⟨A.map (·.add k), ?_, fun w' => by rw [hrun]; simp [sliced, hck]⟩
    refine ⟨by rw [List.length_take, List.length_drop, hl]; omega, by omega, Nat.le_trans (Nat.sub_le _ _) hc, (fun e => ?_), Pl.oct_take (Pl.oct_drop h.oct k) _, fun h0 => ?_⟩
    · cases A with
      | none => have := h.nil_ rfl; omega
      | some ad => cases e
    · obtain ⟨g, o, e, hg, hcell⟩ := h.at_ (i := k) (by omega)
      subst e
      refine ⟨g, o + k, by rw [← Addr.add_lit g o k]; rfl, hg, fun i hi => ?_⟩
      rw [Nat.add_assoc, hcell (k + i) (by omega), List.getD_eq_getElem?_getD, List.getD_eq_getElem?_getD, List.getElem?_take, if_pos hi, List.getElem?_drop]
theorem cellsChar : Tryd.prog.cellsOf 24 = 1 := by kernel_rfl
/-- t[k:m] of code points -/
theorem Crs.mid {w : World} {B n c k m : Nat} {A : Option Addr} {bs : List Int} (h : Crs w B A n c bs) (hk : k ≤ m) (hm : m ≤ n) (l u : Int) (hl : l = (k : Int)) (hu : u = (m : Int)) :
    ∃ A2, Crs w B A2 (m - k) (c - k) ((bs.drop k).take (m - k)) ∧ ∀ w', (Instr.sliceAt 22 (.slice A n c) (some (.int .i64 l)) (some (.int .i64 u)) none).run Tryd.prog w' = .ok (.slice A2 (m - k) (c - k)) w' := by
  subst hl hu
  have hle := h.le
  obtain ⟨i0, hi, _⟩ := info_parts infoChar
  have hu : Tryd.prog.underlying 22 = some (.slice (Tryd.prog.elem 22)) := by rw [Tryd.underlying22]; rfl
  have he : Tryd.prog.elem 22 = 24 := by kernel_rfl
  have hrun : ∀ w', (Instr.sliceAt 22 (.slice A n c) (some (.int .i64 (k : Int))) (some (.int .i64 (m : Int))) none).run Tryd.prog w' = .ok (sliced A k m c 1) w' := by
    intro w'
    rw [run_sliceAt_slice w' _ _ _ _ _ hu, run_slice_lh w' 22 A n c hu .i64 .i64 (k : Int) (m : Int) (by omega) (by omega) (by omega), he, run_sizeOf w' hi]
    simp [Result.andThen, cellsChar]
  have hl := h.len
  have hc := h.cap
  by_cases hck : c = k
  · refine ⟨A, ?_, fun w' => by rw [hrun]; simp [sliced, hck]⟩
    have h0 : m - k = 0 := by omega
    rw [h0, show c - k = 0 by omega, List.take_zero]
    exact ⟨rfl, Nat.le_refl _, Nat.zero_le _, (fun _ => rfl), (fun x hx => by cases hx), fun h => absurd h (by omega)⟩
  · refine ⟨A.map (·.add k), ?_, fun w' => by rw [hrun]; simp [sliced, hck]⟩
    refine ⟨by rw [List.length_take, List.length_drop, hl]; omega, by omega, Nat.le_trans (Nat.sub_le _ _) hc, (fun e => ?_), (fun x hx => h.js x (List.mem_of_mem_drop (List.mem_of_mem_take hx))), fun h0 => ?_⟩
    · cases A with
      | none => have := h.nil_ rfl; omega
      | some ad => cases e
    · obtain ⟨g, o, e, hg, hcell⟩ := h.at_ (i := k) (by omega)
      subst e
      refine ⟨g, o + k, by rw [← Addr.add_lit g o k]; rfl, hg, fun i hi => ?_⟩
      rw [Nat.add_assoc, hcell (k + i) (by omega), List.getD_eq_getElem?_getD, List.getD_eq_getElem?_getD, List.getElem?_take, if_pos hi, List.getElem?_drop]

namespace Pl
/-- how many bytes a first byte says -/
def sb (b : Nat) : Nat := szTab.getD (b / 8) 0
def mb (b : Nat) : Nat := mkTab.getD (sb b) 0
def acc (c : Nat) (l : List Nat) : Nat := l.foldl (fun c x => c * 64 + x % 64) c
theorem sb_cases {b : Nat} (hb : b < 256) : b < 128 ∧ sb b = 1 ∧ mb b = 0 ∨ 128 ≤ b ∧ b < 192 ∧ sb b = 0 ∧ mb b = 0 ∨ 192 ≤ b ∧ b < 224 ∧ sb b = 2 ∧ mb b = 192 ∨ 224 ≤ b ∧ b < 240 ∧ sb b = 3 ∧ mb b = 224 ∨
    240 ≤ b ∧ b < 248 ∧ sb b = 4 ∧ mb b = 240 ∨ 248 ≤ b ∧ sb b = 0 ∧ mb b = 0 := by
  have h : ∀ b, b < 256 → b < 128 ∧ sb b = 1 ∧ mb b = 0 ∨ 128 ≤ b ∧ b < 192 ∧ sb b = 0 ∧ mb b = 0 ∨ 192 ≤ b ∧ b < 224 ∧ sb b = 2 ∧ mb b = 192 ∨ 224 ≤ b ∧ b < 240 ∧ sb b = 3 ∧ mb b = 224 ∨
    240 ≤ b ∧ b < 248 ∧ sb b = 4 ∧ mb b = 240 ∨ 248 ≤ b ∧ sb b = 0 ∧ mb b = 0 := by decide +kernel
  exact h b hb
theorem xor_mb {b : Nat} (hb : b < 256) (h : sb b ≠ 0) : b ^^^ mb b = b - mb b := by
  have : ∀ b, b < 256 → sb b ≠ 0 → b ^^^ mb b = b - mb b := by decide +kernel
  exact this b hb h
theorem cont_and {x : Nat} (hx : x < 256) : (x &&& 192 = 128) ↔ Cont x := by
  have : ∀ x, x < 256 → ((x &&& 192 = 128) ↔ Cont x) := by decide +kernel
  exact this x hx
theorem fst_bad (b : Nat) (r : List Nat) (hb : b < 256) (h : sb b = 0 ∨ r.length + 1 < sb b) : fst (b :: r) = (0, 0) := by
  rcases sb_cases hb with h1 | h1 | h1 | h1 | h1 | h1
  · omega
  · simp only [fst]; rw [if_neg (by omega), if_pos (by omega)]
  · have : r = [] := List.eq_nil_of_length_eq_zero (by omega)
    subst this
    simp only [fst]; rw [if_neg (by omega), if_neg (by omega), if_pos (by omega)]
  · simp only [fst]; rw [if_neg (by omega), if_neg (by omega), if_neg (by omega), if_pos (by omega)]
    match r with
    | [] => rfl
    | [x] => rfl
    | x :: y :: r => simp at h; omega
  · simp only [fst]; rw [if_neg (by omega), if_neg (by omega), if_neg (by omega), if_neg (by omega), if_pos (by omega)]
    match r with
    | [] => rfl
    | [x] => rfl
    | [x, y] => rfl
    | x :: y :: z :: r => simp at h; omega
  · simp only [fst]; rw [if_neg (by omega), if_neg (by omega), if_neg (by omega), if_neg (by omega), if_neg (by omega)]
theorem fst_notcont (b : Nat) (r : List Nat) (hb : b < 256) (i : Nat) (hi : i + 1 < sb b) (hl : sb b ≤ r.length + 1) (hc : ¬ Cont (r.getD i 0)) : fst (b :: r) = (0, 0) := by
  rcases sb_cases hb with h1 | h1 | h1 | h1 | h1 | h1
  · omega
  · omega
  · simp only [fst]; rw [if_neg (by omega), if_neg (by omega), if_pos (by omega)]
    match r with
    | [] => rfl
    | x :: r =>
      obtain rfl : i = 0 := by omega
      simp at hc
      simp only; rw [if_neg (fun h => hc h.1)]
  · simp only [fst]; rw [if_neg (by omega), if_neg (by omega), if_neg (by omega), if_pos (by omega)]
    match r with
    | [] => rfl
    | [x] => rfl
    | x :: y :: r =>
      simp only
      rcases (show i = 0 ∨ i = 1 by omega) with rfl | rfl
      · simp at hc; rw [if_neg (fun h => hc h.1)]
      · simp at hc; rw [if_neg (fun h => hc h.2.1)]
  · simp only [fst]; rw [if_neg (by omega), if_neg (by omega), if_neg (by omega), if_neg (by omega), if_pos (by omega)]
    match r with
    | [] => rfl
    | [x] => rfl
    | [x, y] => rfl
    | x :: y :: z :: r =>
      simp only
      rcases (show i = 0 ∨ i = 1 ∨ i = 2 by omega) with rfl | rfl | rfl
      · simp at hc; rw [if_neg (fun h => hc h.1)]
      · simp at hc; rw [if_neg (fun h => hc h.2.1)]
      · simp at hc; rw [if_neg (fun h => hc h.2.2.1)]
  · omega
/-- all the further bytes are such: the code point that they make decides -/
theorem fst_made (b : Nat) (r : List Nat) (hb : b < 256) (h0 : sb b ≠ 0) (hl : sb b ≤ r.length + 1) (hc : ∀ i, i + 1 < sb b → Cont (r.getD i 0)) (c : Nat) (hcc : c = acc (b - mb b) (r.take (sb b - 1))) :
    fst (b :: r) = if size c = sb b then (c, sb b) else (0, 0) := by
  rcases sb_cases hb with h1 | h1 | h1 | h1 | h1 | h1
  · obtain ⟨h1, h2, h3⟩ := h1
    rw [h2, h3] at hcc
    simp [acc] at hcc
    subst hcc
    have hm : May (c : Int) := Or.inl (by omega)
    have := size_cases hm
    rw [h2, if_pos (by omega)]
    simp [fst, h1]
  · omega
  · obtain ⟨h1, h2, h3, h4⟩ := h1
    match r with
    | [] => simp at hl; omega
    | x :: r =>
      rw [h3, h4] at hcc
      simp [acc] at hcc
      have hx := hc 0 (by omega)
      simp [Cont] at hx
      have e : (b - 192) * 64 + (x - 128) = c := by omega
      simp only [fst]; rw [if_neg (by omega), if_neg (by omega), if_pos (by omega), h3, e]
      have hm : May (c : Int) := Or.inl (by omega)
      have := size_cases hm
      by_cases h5 : 128 ≤ c
      · rw [if_pos ⟨⟨hx.1, hx.2⟩, h5⟩, if_pos (by omega)]
      · rw [if_neg (fun h => h5 h.2), if_neg (by omega)]
  · obtain ⟨h1, h2, h3, h4⟩ := h1
    match r with
    | [] => simp at hl; omega
    | [x] => simp at hl; omega
    | x :: y :: r =>
      rw [h3, h4] at hcc
      simp [acc] at hcc
      have hx := hc 0 (by omega)
      have hy := hc 1 (by omega)
      simp [Cont] at hx hy
      have e : (b - 224) * 4096 + (x - 128) * 64 + (y - 128) = c := by omega
      simp only [fst]; rw [if_neg (by omega), if_neg (by omega), if_neg (by omega), if_pos (by omega), h3, e]
      by_cases h5 : 2048 ≤ c ∧ ¬ (55296 ≤ c ∧ c ≤ 57343)
      · have hm : May (c : Int) := by unfold May; omega
        have := size_cases hm
        rw [if_pos ⟨⟨hx.1, hx.2⟩, ⟨hy.1, hy.2⟩, h5⟩, if_pos (by omega)]
      · rw [if_neg (fun h => h5 h.2.2)]
        by_cases hm : May (c : Int)
        · have := size_cases hm
          rw [if_neg (by unfold May at hm; omega)]
        · rw [size_not hm, if_neg (by omega)]
  · obtain ⟨h1, h2, h3, h4⟩ := h1
    match r with
    | [] => simp at hl; omega
    | [x] => simp at hl; omega
    | [x, y] => simp at hl; omega
    | x :: y :: z :: r =>
      rw [h3, h4] at hcc
      simp [acc] at hcc
      have hx := hc 0 (by omega)
      have hy := hc 1 (by omega)
      have hz := hc 2 (by omega)
      simp [Cont] at hx hy hz
      have e : (b - 240) * 262144 + (x - 128) * 4096 + (y - 128) * 64 + (z - 128) = c := by omega
      simp only [fst]; rw [if_neg (by omega), if_neg (by omega), if_neg (by omega), if_neg (by omega), if_pos (by omega), h3, e]
      by_cases h5 : 65536 ≤ c ∧ c ≤ 1114111
      · have hm : May (c : Int) := by unfold May; omega
        have := size_cases hm
        rw [if_pos ⟨⟨hx.1, hx.2⟩, ⟨hy.1, hy.2⟩, ⟨hz.1, hz.2⟩, h5⟩, if_pos (by omega)]
      · rw [if_neg (fun h => h5 h.2.2.2)]
        by_cases hm : May (c : Int)
        · have := size_cases hm
          rw [if_neg (by unfold May at hm; omega)]
        · rw [size_not hm, if_neg (by omega)]
  · omega
theorem acc_snoc (c : Nat) (l : List Nat) (i : Nat) (h : i < l.length) : acc c (l.take (i + 1)) = acc c (l.take i) * 64 + l.getD i 0 % 64 := by
  rw [List.take_add_one, List.getElem?_eq_getElem h, List.getD_eq_getElem?_getD, List.getElem?_eq_getElem h]
  unfold acc
  rw [List.foldl_append]
  rfl
end Pl
end Go.Proofs.YtillndchojaniaaDoor
