/-
  Rows of units in plain words: the grid, what a row leaves, both ways one text, row by row; rows in parts. Nothing of a program is named here.
-/
import Derived.Test.YtfjnliebgndemaaUniBothP
namespace Go.Proofs.Ytfjnliebgndemaa
open Go.RowKit
open Pl (Un)
namespace Pl
/-- one unit carried over a row: what it is then, what the row is then -/
def thru (x : Un) : List Un → Un × List Un
  | [] => (x, [])
  | y :: bs => ((thru (over x y) bs).1, over y x :: (thru (over x y) bs).2)
/-- the grid: a behind b, b behind a -/
def bothR : List Un → List Un → List Un × List Un
  | [], bs => ([], bs)
  | x :: as, bs => ((thru x bs).1 :: (bothR as (thru x bs).2).1, (bothR as (thru x bs).2).2)
/-- the text that a row leaves -/
def leave : List Un → List Int → List Int
  | [], cs => cs
  | x :: r, cs => leave r (behind x cs)
/-- it fits a text -/
def FitR : List Un → List Int → Prop
  | [], _ => True
  | x :: r, cs => Fit x cs.length ∧ FitR r (behind x cs)
theorem leave_append : ∀ (a b : List Un) (cs : List Int), leave (a ++ b) cs = leave b (leave a cs)
  | [], _, _ => rfl
  | x :: a, b, cs => leave_append a b (behind x cs)
theorem len_thru (x : Un) (bs : List Un) : (thru x bs).2.length = bs.length := by
  induction bs generalizing x with
  | nil => rfl
  | cons y bs ih => simp [thru, ih]
theorem len_both (as bs : List Un) : (bothR as bs).1.length = as.length ∧ (bothR as bs).2.length = bs.length := by
  induction as generalizing bs with
  | nil => exact ⟨rfl, rfl⟩
  | cons x as ih => exact ⟨by simp [bothR, (ih _).1], by simp [bothR, (ih _).2, len_thru]⟩
theorem over_id (a b : Un) : (over a b).x = a.x ∧ (over a b).y = a.y := by
  unfold over pastIns pastDel
  repeat' split
  all_goals exact ⟨rfl, rfl⟩
theorem thru_id (x : Un) (bs : List Un) : (thru x bs).1.x = x.x ∧ (thru x bs).1.y = x.y := by
  induction bs generalizing x with
  | nil => exact ⟨rfl, rfl⟩
  | cons y bs ih =>
    have h := ih (over x y)
    have h2 := over_id x y
    exact ⟨h.1.trans h2.1, h.2.trans h2.2⟩
/-- all of one client, and all of another -/
def Of (c : Int) (l : List Un) : Prop := ∀ u ∈ l, u.x = c
theorem thru_of {c : Int} (x : Un) (bs : List Un) (h : Of c bs) : Of c (thru x bs).2 := by
  induction bs generalizing x with
  | nil => exact h
  | cons y bs ih =>
    intro u hu
    rcases List.mem_cons.1 hu with rfl | hu
    · exact (over_id y x).1.trans (h y (List.mem_cons_self ..))
    · exact ih (over x y) (fun v hv => h v (List.mem_cons_of_mem _ hv)) u hu
theorem len_behind_le {u : Un} {cs : List Int} (h : Fit u cs.length) : (behind u cs).length ≤ cs.length + 1 := by
  have := len_behind h
  have e : grows u.k ≤ 1 := by unfold grows; split <;> (try split) <;> omega
  omega
/-- one unit over a row: both ways one text -/
theorem thru_square (x : Un) (bs : List Un) (cs : List Int) (hn : cs.length + bs.length ≤ 999) (hx : Fit x cs.length) (hb : FitR bs cs) (hid : ∀ y ∈ bs, x.x ≠ y.x) :
    Fit (thru x bs).1 (leave bs cs).length ∧ FitR (thru x bs).2 (behind x cs) ∧ leave (thru x bs).2 (behind x cs) = behind (thru x bs).1 (leave bs cs) := by
  induction bs generalizing x cs with
  | nil => exact ⟨hx, trivial, rfl⟩
  | cons y bs ih =>
    simp only [List.length_cons] at hn
    have hne : x.x ≠ y.x := hid y (List.mem_cons_self ..)
    obtain ⟨h1, h2, h3⟩ := both (a := x) (b := y) (cs := cs) (by omega) hx hb.1 (fun h => hne h.2.2.1)
    have hl := len_behind_le hb.1
    obtain ⟨g1, g2, g3⟩ := ih (over x y) (behind y cs) (by omega) h2 hb.2 (fun z hz => by rw [(over_id x y).1]; exact hid z (List.mem_cons_of_mem _ hz))
    refine ⟨g1, ⟨h1, ?_⟩, ?_⟩
    · rw [h3]; exact g2
    · show leave (thru (over x y) bs).2 (behind (over y x) (behind x cs)) = _
      rw [h3]; exact g3
theorem len_leave_le {r : List Un} {cs : List Int} (h : FitR r cs) : (leave r cs).length ≤ cs.length + r.length := by
  induction r generalizing cs with
  | nil => exact Nat.le_refl _
  | cons x r ih =>
    have h1 := len_behind_le h.1
    have h2 := ih h.2
    simp only [List.length_cons]
    show (leave r (behind x cs)).length ≤ _
    omega
/-- THE SQUARE, ROW BY ROW -/
theorem square (as bs : List Un) (cs : List Int) (hn : cs.length + as.length + bs.length ≤ 999) (ha : FitR as cs) (hb : FitR bs cs) (hid : ∀ x ∈ as, ∀ y ∈ bs, x.x ≠ y.x) :
    FitR (bothR as bs).1 (leave bs cs) ∧ FitR (bothR as bs).2 (leave as cs) ∧ leave (bothR as bs).2 (leave as cs) = leave (bothR as bs).1 (leave bs cs) := by
  induction as generalizing bs cs with
  | nil => exact ⟨trivial, hb, rfl⟩
  | cons x as ih =>
    simp only [List.length_cons] at hn
    obtain ⟨h1, h2, h3⟩ := thru_square x bs cs (by omega) ha.1 hb (hid x (List.mem_cons_self ..))
    have hl := len_behind_le ha.1
    have hbl := len_thru x bs
    obtain ⟨g1, g2, g3⟩ := ih (thru x bs).2 (behind x cs) (by omega) ha.2 h2 (fun z hz y hy => by
      have : ∀ (x : Un) (bs : List Un) (y : Un), y ∈ (thru x bs).2 → ∃ y0 ∈ bs, y.x = y0.x := by
        intro x bs
        induction bs generalizing x with
        | nil => intro y hy; cases hy
        | cons y0 bs ih2 =>
          intro y hy
          rcases List.mem_cons.1 hy with rfl | hy
          · exact ⟨y0, List.mem_cons_self .., (over_id y0 x).1⟩
          · obtain ⟨y1, h1, h2⟩ := ih2 (over x y0) y hy
            exact ⟨y1, List.mem_cons_of_mem _ h1, h2⟩
      obtain ⟨y0, hy0, e⟩ := this x bs y hy
      rw [e]
      exact hid z (List.mem_cons_of_mem _ hz) y0 hy0)
    refine ⟨⟨h1, ?_⟩, g2, ?_⟩
    · rw [← h3]; exact g1
    · show leave (bothR as (thru x bs).2).2 (leave as (behind x cs)) = leave (bothR as (thru x bs).2).1 (behind (thru x bs).1 (leave bs cs))
      rw [← h3]; exact g3
/-! ### rows in parts -/
theorem thru_append (x : Un) (b1 b2 : List Un) : thru x (b1 ++ b2) = ((thru (thru x b1).1 b2).1, (thru x b1).2 ++ (thru (thru x b1).1 b2).2) := by
  induction b1 generalizing x with
  | nil => rfl
  | cons y b1 ih => simp [thru, ih]
theorem both_append_right (as b1 b2 : List Un) : bothR as (b1 ++ b2) = ((bothR (bothR as b1).1 b2).1, (bothR as b1).2 ++ (bothR (bothR as b1).1 b2).2) := by
  induction as generalizing b1 b2 with
  | nil => rfl
  | cons x as ih => simp [bothR, thru_append, ih]
theorem both_append_left (a1 a2 bs : List Un) : bothR (a1 ++ a2) bs = ((bothR a1 bs).1 ++ (bothR a2 (bothR a1 bs).2).1, (bothR a2 (bothR a1 bs).2).2) := by
  induction a1 generalizing bs with
  | nil => rfl
  | cons x a1 ih => simp [bothR, ih]
/-- a behind one row after another -/
def pastR (a : List Un) : List (List Un) → List Un
  | [] => a
  | b :: r => pastR (bothR a b).1 r
theorem past_two (a b1 b2 : List Un) : pastR a [b1, b2] = (bothR a (b1 ++ b2)).1 := by
  rw [both_append_right]; rfl
/-- a place behind a row -/
def placeR (pos : Int) : List Un → Int
  | [] => pos
  | u :: r => placeR (if u.k = 1 ∧ u.p ≤ pos then wrap64 (pos + 1) else if u.k = 2 ∧ u.p < pos then wrap64 (pos - 1) else pos) r
/-! ### what stands on either side of a place -/
/-- of the code points 1000 to 1999 those below 1000 + at stand ahead of pos, the others behind -/
def Cut (at_ : Int) (cs : List Int) (pos : Nat) : Prop := ∀ (i : Nat) (x : Int), cs[i]? = some x → 1000 ≤ x → x < 2000 → (x < 1000 + at_ ↔ i < pos)
theorem cut_ins {at_ : Int} {cs : List Int} {p pos pos' : Nat} {c : Int} (h : Cut at_ cs pos) (hp : p ≤ cs.length) (hc : ¬ (1000 ≤ c ∧ c < 2000)) (h' : p < pos ∧ pos' = pos + 1 ∨ p = pos ∧ (pos' = pos ∨ pos' = pos + 1) ∨ pos < p ∧ pos' = pos) : Cut at_ (insL p c cs) pos' := by
  intro i x hi h1 h2
  rw [get_insL hp] at hi
  by_cases a1 : i < p
  · rw [if_pos a1] at hi
    rw [h i x hi h1 h2]; omega
  · rw [if_neg a1] at hi
    by_cases a2 : i = p
    · rw [if_pos a2] at hi
      injection hi with hi
      subst hi
      exact absurd ⟨h1, h2⟩ hc
    · rw [if_neg a2] at hi
      rw [h (i - 1) x hi h1 h2]; omega
theorem cut_del {at_ : Int} {cs : List Int} {p pos pos' : Nat} (h : Cut at_ cs pos) (hp : p ≤ cs.length) (h' : p < pos ∧ pos' + 1 = pos ∨ pos ≤ p ∧ pos' = pos) : Cut at_ (delL p cs) pos' := by
  intro i x hi h1 h2
  rw [get_delL hp] at hi
  by_cases a1 : i < p
  · rw [if_pos a1] at hi
    rw [h i x hi h1 h2]; omega
  · rw [if_neg a1] at hi
    rw [h (i + 1) x hi h1 h2]; omega
/-- no unit of the row brings a code point of 1000 to 1999 -/
def Strange (b : List Un) : Prop := ∀ u ∈ b, u.k = 1 → ¬ (1000 ≤ u.c ∧ u.c < 2000)
theorem place_cut (b : List Un) (at_ : Int) (cs : List Int) (pos : Nat) (hn : cs.length + b.length ≤ 100000) (hb : FitR b cs) (hs : Strange b) (h : Cut at_ cs pos) (hp : pos ≤ cs.length) :
    ∃ q : Nat, placeR (pos : Int) b = (q : Int) ∧ q ≤ (leave b cs).length ∧ Cut at_ (leave b cs) q := by
  induction b generalizing cs pos with
  | nil => exact ⟨pos, rfl, hp, h⟩
  | cons u b ih =>
    simp only [List.length_cons] at hn
    have hl := len_behind_le hb.1
    have hs' : Strange b := fun v hv => hs v (List.mem_cons_of_mem _ hv)
    have hsu := hs u (List.mem_cons_self ..)
    rcases fit_cases hb.1 with ⟨x, y, rfl⟩ | ⟨p, c, x, y, rfl, hpl, hc⟩ | ⟨p, c, x, y, rfl, hpl, hc⟩
    · have hb2 := hb.2
      rw [behind_nop] at hb2
      have := ih cs pos (by omega) hb2 hs' h hp
      simpa [placeR, leave, behind_nop] using this
    · have hb2 := hb.2
      rw [behind_ins] at hb2 hl
      have hlen := len_insL (c := c) hpl
      by_cases hq : p ≤ pos
      · have := ih (insL p c cs) (pos + 1) (by omega) hb2 hs' (cut_ins h hpl (hsu rfl) (by omega)) (by omega)
        show ∃ q : Nat, placeR (if (1 : Int) = 1 ∧ (p : Int) ≤ (pos : Int) then wrap64 ((pos : Int) + 1) else if (1 : Int) = 2 ∧ (p : Int) < (pos : Int) then wrap64 ((pos : Int) - 1) else (pos : Int)) b = _ ∧ _ ≤ (leave b (behind ⟨1, (p : Int), c, x, y⟩ cs)).length ∧ Cut at_ (leave b (behind ⟨1, (p : Int), c, x, y⟩ cs)) q
        rw [if_pos ⟨rfl, by omega⟩, wrap_up (by omega), behind_ins]
        exact this
      · have := ih (insL p c cs) pos (by omega) hb2 hs' (cut_ins h hpl (hsu rfl) (by omega)) (by omega)
        show ∃ q : Nat, placeR (if (1 : Int) = 1 ∧ (p : Int) ≤ (pos : Int) then wrap64 ((pos : Int) + 1) else if (1 : Int) = 2 ∧ (p : Int) < (pos : Int) then wrap64 ((pos : Int) - 1) else (pos : Int)) b = _ ∧ _ ≤ (leave b (behind ⟨1, (p : Int), c, x, y⟩ cs)).length ∧ Cut at_ (leave b (behind ⟨1, (p : Int), c, x, y⟩ cs)) q
        rw [if_neg (by omega), if_neg (by omega), behind_ins]
        exact this
    · have hb2 := hb.2
      rw [behind_del] at hb2 hl
      have hlen := len_delL hpl
      by_cases hq : p < pos
      · have := ih (delL p cs) (pos - 1) (by omega) hb2 hs' (cut_del h (by omega) (by omega)) (by omega)
        show ∃ q : Nat, placeR (if (2 : Int) = 1 ∧ (p : Int) ≤ (pos : Int) then wrap64 ((pos : Int) + 1) else if (2 : Int) = 2 ∧ (p : Int) < (pos : Int) then wrap64 ((pos : Int) - 1) else (pos : Int)) b = _ ∧ _ ≤ (leave b (behind ⟨2, (p : Int), c, x, y⟩ cs)).length ∧ Cut at_ (leave b (behind ⟨2, (p : Int), c, x, y⟩ cs)) q
        rw [if_neg (by omega), if_pos ⟨rfl, by omega⟩, wrap_dn (by omega) (by omega), behind_del]
        exact this
      · have := ih (delL p cs) pos (by omega) hb2 hs' (cut_del h (by omega) (by omega)) (by omega)
        show ∃ q : Nat, placeR (if (2 : Int) = 1 ∧ (p : Int) ≤ (pos : Int) then wrap64 ((pos : Int) + 1) else if (2 : Int) = 2 ∧ (p : Int) < (pos : Int) then wrap64 ((pos : Int) - 1) else (pos : Int)) b = _ ∧ _ ≤ (leave b (behind ⟨2, (p : Int), c, x, y⟩ cs)).length ∧ Cut at_ (leave b (behind ⟨2, (p : Int), c, x, y⟩ cs)) q
        rw [if_neg (by omega), if_neg (by omega), behind_del]
        exact this
/-- an Ins carried over a row: where it stands then -/
theorem side_cut (b : List Un) (at_ c x y : Int) (hc : May c) (cs : List Int) (pos : Nat) (hn : cs.length + b.length ≤ 100000) (hb : FitR b cs) (hs : Strange b) (h : Cut at_ cs pos) (hp : pos ≤ cs.length) :
    ∃ q : Nat, (thru ⟨1, (pos : Int), c, x, y⟩ b).1 = ⟨1, (q : Int), c, x, y⟩ ∧ q ≤ (leave b cs).length ∧ Cut at_ (leave b cs) q := by
  induction b generalizing cs pos with
  | nil => exact ⟨pos, rfl, hp, h⟩
  | cons u b ih =>
    simp only [List.length_cons] at hn
    have hl := len_behind_le hb.1
    have hs' : Strange b := fun v hv => hs v (List.mem_cons_of_mem _ hv)
    have hsu := hs u (List.mem_cons_self ..)
    rcases fit_cases hb.1 with ⟨x', y', rfl⟩ | ⟨p, d, x', y', rfl, hpl, hd⟩ | ⟨p, d, x', y', rfl, hpl, hd⟩
    · have hb2 := hb.2
      rw [behind_nop] at hb2
      have := ih cs pos (by omega) hb2 hs' h hp
      show ∃ q : Nat, (thru (over ⟨1, (pos : Int), c, x, y⟩ ⟨0, 0, 0, x', y'⟩) b).1 = _ ∧ _ ≤ (leave b (behind ⟨0, 0, 0, x', y'⟩ cs)).length ∧ Cut at_ (leave b (behind ⟨0, 0, 0, x', y'⟩ cs)) q
      rw [over_nop_right, behind_nop]
      exact this
    · have hb2 := hb.2
      rw [behind_ins] at hb2 hl
      have hlen := len_insL (c := d) hpl
      show ∃ q : Nat, (thru (over ⟨1, (pos : Int), c, x, y⟩ ⟨1, (p : Int), d, x', y'⟩) b).1 = _ ∧ _ ≤ (leave b (behind ⟨1, (p : Int), d, x', y'⟩ cs)).length ∧ Cut at_ (leave b (behind ⟨1, (p : Int), d, x', y'⟩ cs)) q
      rw [over_ins_ins hc hd (by omega), behind_ins]
      by_cases hq : p < pos ∨ pos = p ∧ First x' y' x y
      · rw [if_pos hq]
        exact ih (insL p d cs) (pos + 1) (by omega) hb2 hs' (cut_ins h hpl (hsu rfl) (by omega)) (by omega)
      · rw [if_neg hq]
        exact ih (insL p d cs) pos (by omega) hb2 hs' (cut_ins h hpl (hsu rfl) (by omega)) (by omega)
    · have hb2 := hb.2
      rw [behind_del] at hb2 hl
      have hlen := len_delL hpl
      show ∃ q : Nat, (thru (over ⟨1, (pos : Int), c, x, y⟩ ⟨2, (p : Int), d, x', y'⟩) b).1 = _ ∧ _ ≤ (leave b (behind ⟨2, (p : Int), d, x', y'⟩ cs)).length ∧ Cut at_ (leave b (behind ⟨2, (p : Int), d, x', y'⟩ cs)) q
      rw [over_ins_del hc hd (by omega), behind_del]
      by_cases hq : p < pos
      · rw [if_pos hq]
        exact ih (delL p cs) (pos - 1) (by omega) hb2 hs' (cut_del h (by omega) (by omega)) (by omega)
      · rw [if_neg hq]
        exact ih (delL p cs) pos (by omega) hb2 hs' (cut_del h (by omega) (by omega)) (by omega)
/-! ### rows that are brought to fit -/
/-- a row of one client that fits a length, the code points of its Ins as P says -/
def Br (c : Int) (P : Int → Prop) : List Un → Nat → Prop
  | [], _ => True
  | u :: r, n => u.x = c ∧ (u.k = 0 ∧ u.p = 0 ∧ u.c = 0 ∧ Br c P r n ∨ (u.k = 1 ∧ (∃ p : Nat, u.p = (p : Int) ∧ p ≤ n) ∧ May u.c ∧ P u.c ∧ Br c P r (n + 1)) ∨ (u.k = 2 ∧ (∃ p : Nat, u.p = (p : Int) ∧ p < n) ∧ May u.c ∧ Br c P r (n - 1)))
theorem br_fit {c : Int} {P : Int → Prop} : ∀ {l : List Un} {n : Nat} {cs : List Int}, Br c P l n → cs.length = n → FitR l cs
  | [], _, _, _, _ => trivial
  | ⟨k, p, ch, x, y⟩ :: r, n, cs, h, hn => by
    obtain ⟨_, h⟩ := h
    simp only at h
    rcases h with ⟨rfl, rfl, rfl, h⟩ | ⟨rfl, ⟨q, rfl, hq⟩, hm, _, h⟩ | ⟨rfl, ⟨q, rfl, hq⟩, hm, h⟩
    · exact ⟨fit_nop x y _, by rw [behind_nop]; exact br_fit h hn⟩
    · exact ⟨fit_ins x y (by omega) hm, by rw [behind_ins]; exact br_fit h (by rw [len_insL (by omega)]; omega)⟩
    · have hl := len_delL (p := q) (l := cs) (by omega)
      exact ⟨fit_del x y (by omega) hm, by rw [behind_del]; exact br_fit h (by omega)⟩
theorem br_of {c : Int} {P : Int → Prop} : ∀ {l : List Un} {n : Nat}, Br c P l n → Of c l
  | [], _, _ => fun _ h => by cases h
  | u :: r, n, h => by
    intro v hv
    rcases List.mem_cons.1 hv with rfl | hv
    · exact h.1
    · rcases h.2 with ⟨_, _, _, h⟩ | ⟨_, _, _, _, h⟩ | ⟨_, _, _, h⟩
      · exact br_of h v hv
      · exact br_of h v hv
      · exact br_of h v hv
theorem br_okay {c : Int} {P : Int → Prop} : ∀ {l : List Un} {n : Nat}, Br c P l n → ∀ u ∈ l, Okay u
  | [], _, _ => fun _ h => by cases h
  | u :: r, n, h => by
    intro v hv
    rcases List.mem_cons.1 hv with rfl | hv
    · rcases h.2 with ⟨h1, h2, h3, _⟩ | ⟨h1, ⟨p, h2, _⟩, h3, _⟩ | ⟨h1, ⟨p, h2, _⟩, h3, _⟩
      · exact Or.inl ⟨h1, h2, h3⟩
      · exact Or.inr ⟨Or.inl h1, by omega, h3⟩
      · exact Or.inr ⟨Or.inr h1, by omega, h3⟩
    · rcases h.2 with ⟨_, _, _, h⟩ | ⟨_, _, _, _, h⟩ | ⟨_, _, _, h⟩
      · exact br_okay h v hv
      · exact br_okay h v hv
      · exact br_okay h v hv
theorem br_strange {c : Int} {P : Int → Prop} (hP : ∀ x, P x → ¬ (1000 ≤ x ∧ x < 2000)) : ∀ {l : List Un} {n : Nat}, Br c P l n → Strange l
  | [], _, _ => fun _ h => by cases h
  | u :: r, n, h => by
    intro v hv hk
    rcases List.mem_cons.1 hv with rfl | hv
    · rcases h.2 with ⟨h1, _⟩ | ⟨_, _, _, h3, _⟩ | ⟨h1, _⟩
      · rw [h1] at hk; cases hk
      · exact hP _ h3
      · rw [h1] at hk; cases hk
    · rcases h.2 with ⟨_, _, _, h⟩ | ⟨_, _, _, _, h⟩ | ⟨_, _, _, h⟩
      · exact br_strange hP h v hv hk
      · exact br_strange hP h v hv hk
      · exact br_strange hP h v hv hk
/-- the square of two rows brought to fit, of two clients -/
theorem br_square {P Q : Int → Prop} {a b : List Un} {n : Nat} {cs : List Int} (hn : cs.length = n) (hs : n + a.length + b.length ≤ 999) (ha : Br 1 P a n) (hb : Br 2 Q b n) :
    FitR a cs ∧ FitR b cs ∧ FitR (bothR a b).1 (leave b cs) ∧ FitR (bothR a b).2 (leave a cs) ∧ leave (bothR a b).2 (leave a cs) = leave (bothR a b).1 (leave b cs) := by
  have h1 := br_fit ha hn
  have h2 := br_fit hb hn
  exact ⟨h1, h2, square a b cs (by omega) h1 h2 (fun x hx y hy => by rw [br_of ha x hx, br_of hb y hy]; decide)⟩
/-! ### the grid, step by step -/
theorem thru_take (x : Un) (bs : List Un) (k : Nat) (y : Un) (h : bs[k]? = some y) : (thru x (bs.take (k + 1))).1 = over (thru x (bs.take k)).1 y ∧ (thru x (bs.take (k + 1))).2 = (thru x (bs.take k)).2 ++ [over y (thru x (bs.take k)).1] := by
  rw [List.take_add_one, h, show (some y).toList = [y] from rfl, thru_append]
  exact ⟨rfl, rfl⟩
theorem both_take (as bs : List Un) (i : Nat) (x : Un) (h : as[i]? = some x) : (bothR (as.take (i + 1)) bs).1 = (bothR (as.take i) bs).1 ++ [(thru x (bothR (as.take i) bs).2).1] ∧ (bothR (as.take (i + 1)) bs).2 = (thru x (bothR (as.take i) bs).2).2 := by
  rw [List.take_add_one, h, show (some x).toList = [x] from rfl, both_append_left]
  exact ⟨rfl, rfl⟩
theorem leave_take (r : List Un) (cs : List Int) (i : Nat) (x : Un) (h : r[i]? = some x) : leave (r.take (i + 1)) cs = behind x (leave (r.take i) cs) := by
  rw [List.take_add_one, h, show (some x).toList = [x] from rfl, leave_append]
  rfl
theorem fit_take (r : List Un) (cs : List Int) (h : FitR r cs) (i : Nat) (x : Un) (hx : r[i]? = some x) : Fit x (leave (r.take i) cs).length := by
  induction r generalizing cs i with
  | nil => cases hx
  | cons u r ih =>
    cases i with
    | zero => injection hx with hx; subst hx; exact h.1
    | succ i => exact ih (behind u cs) h.2 i (by simpa using hx)
theorem place_take (r : List Un) (pos : Int) (i : Nat) (u : Un) (h : r[i]? = some u) : placeR pos (r.take (i + 1)) = if u.k = 1 ∧ u.p ≤ placeR pos (r.take i) then wrap64 (placeR pos (r.take i) + 1) else if u.k = 2 ∧ u.p < placeR pos (r.take i) then wrap64 (placeR pos (r.take i) - 1) else placeR pos (r.take i) := by
  induction r generalizing pos i with
  | nil => cases h
  | cons v r ih =>
    cases i with
    | zero => injection h with h; subst h; rfl
    | succ i => exact ih _ i (by simpa using h)
end Pl
end Go.Proofs.Ytfjnliebgndemaa
