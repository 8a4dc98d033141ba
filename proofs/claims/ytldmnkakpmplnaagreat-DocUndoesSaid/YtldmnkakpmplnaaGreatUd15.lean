/-
  Leases in plain words (clients and ticks, a rising list: MkP's words): where a client stands, one laid in its place, who is there, many made; as a map's datum at uint64. Nothing of a program is named. Conditions: those that each states.
  A document (layer 13) in plain words: its text, its past, leases, marks, how often it was touched; each call as a plain function; what stays with every call.
  Lengths and places behind rows, in plain words: rows one by one or as one row, places within the text, in order. Conditions: the length and the row together at most 2^40.
  What layer 9's statements ask, in plain words, ahead of the code: there and back, selective, what stands apart, both in either order. Nothing of a program is named here. Conditions: those that each lemma states.
-/
import Derived.Test.YtldmnkakpmplnaaGreatUd14
import Derived.Test.YtldmnkakpmplnaaGreatUd13
import Derived.Test.YtldmnkakpmplnaaGreatUd10
set_option maxRecDepth 100000
namespace Go.Proofs.YtldmnkakpmplnaaGreat
open Go.RowKit
namespace Pl
theorem getD_mem {L : Mks} {i : Nat} (h : i < L.length) : L.getD i default ∈ L := by
  rw [List.getD_eq_getElem?_getD, List.getElem?_eq_getElem h]
  exact List.getElem_mem _
def layL (x : Int × Int) : Mks → Bool → Mks
  | [], d => if d then [] else [x]
  | y :: r, d => if y.1 = x.1 then layL x r d else if d = false ∧ x.1 < y.1 then x :: y :: layL x r true else y :: layL x r d
theorem lay_done (x : Int × Int) : ∀ L : Mks, layL x L true = delM L x.1
  | [] => rfl
  | y :: r => by
    unfold layL delM
    rw [List.filter_cons]
    by_cases e : y.1 = x.1
    · rw [if_pos e, lay_done x r]
      have e2 : (!(y.1 == x.1)) = false := by simpa using e
      rw [e2]
      rfl
    · rw [if_neg e, if_neg (by simp), lay_done x r]
      have e2 : (!(y.1 == x.1)) = true := by simpa using e
      rw [e2]
      rfl
theorem lay_put (x : Int × Int) : ∀ L : Mks, layL x L false = putM L x.1 x.2
  | [] => rfl
  | y :: r => by
    unfold layL putM delM
    rw [List.filter_cons]
    by_cases e : y.1 = x.1
    · rw [if_pos e, lay_put x r]
      have e2 : (!(y.1 == x.1)) = false := by simpa using e
      rw [e2]
      rfl
    · have e2 : (!(y.1 == x.1)) = true := by simpa using e
      rw [if_neg e, e2, if_pos rfl]
      show _ = insM (x.1, x.2) (y :: delM r x.1)
      unfold insM
      by_cases h : x.1 < y.1
      · rw [if_pos ⟨rfl, h⟩, if_pos h, lay_done]
      · rw [if_neg (fun hh => h hh.2), if_neg h, lay_put x r]
        rfl
def liveM (L : Mks) (x now : Int) : Bool := match getM L x with | some v => decide (now < v) | none => false
theorem live_some {L : Mks} {x v : Int} (h : getM L x = some v) (now : Int) : liveM L x now = decide (now < v) := by unfold liveM; rw [h]
theorem live_none {L : Mks} {x : Int} (h : getM L x = none) (now : Int) : liveM L x now = false := by unfold liveM; rw [h]
def whichM (live : Bool) (now : Int) (L : Mks) : List Int := (L.filter fun p => decide (now < p.2) == live).map (·.1)
def thereM (now : Int) (L : Mks) : Mks := L.filter fun p => decide (now < p.2)
theorem rising_there {L : Mks} (h : Rising L) (now : Int) : Rising (thereM now L) := List.Pairwise.filter _ h
def dropsM (L : Mks) (cs : List Int) : Mks := cs.foldl delM L
theorem drops_mem (cs : List Int) : ∀ (L : Mks) (p : Int × Int), p ∈ dropsM L cs ↔ p ∈ L ∧ p.1 ∉ cs := by
  induction cs with
  | nil => intro L p; simp [dropsM]
  | cons c r ih =>
    intro L p
    show p ∈ dropsM (delM L c) r ↔ _
    rw [ih, mem_del, List.mem_cons]
    constructor
    · rintro ⟨⟨h1, h2⟩, h3⟩; exact ⟨h1, fun h => h.elim h2 h3⟩
    · rintro ⟨h1, h2⟩; exact ⟨⟨h1, fun h => h2 (.inl h)⟩, fun h => h2 (.inr h)⟩
theorem rising_drops (cs : List Int) : ∀ {L : Mks}, Rising L → Rising (dropsM L cs) := by
  induction cs with
  | nil => intro L h; exact h
  | cons c r ih => intro L h; exact ih (rising_del h c)
theorem rising_mem_ext {M N : Mks} (hM : Rising M) (hN : Rising N) (h : ∀ p, p ∈ M ↔ p ∈ N) : M = N :=
  mks_ext hM hN fun c => opt_ext fun v => by rw [get_iff hM, get_iff hN]; exact h (c, v)
theorem drops_which {L : Mks} (h : Rising L) (now : Int) : dropsM L (whichM false now L) = thereM now L := by
  refine rising_mem_ext (rising_drops _ h) (rising_there h now) fun p => ?_
  unfold thereM
  rw [drops_mem, List.mem_filter]
  refine ⟨fun ⟨h1, h2⟩ => ⟨h1, ?_⟩, fun ⟨h1, h2⟩ => ⟨h1, fun h3 => ?_⟩⟩
  · cases hd : decide (now < p.2) with
    | true => rfl
    | false =>
      refine absurd (List.mem_map.2 ⟨p, List.mem_filter.2 ⟨h1, ?_⟩, rfl⟩) h2
      rw [hd]
      rfl
  · obtain ⟨q, hq, e⟩ := List.mem_map.1 h3
    obtain ⟨g1, g2⟩ := List.mem_filter.1 hq
    have e2 : q = p := by
      have a1 := (get_iff h).2 (show (q.1, q.2) ∈ L from g1)
      have a2 := (get_iff h).2 (show (p.1, p.2) ∈ L from h1)
      rw [e, a2] at a1
      exact Prod.ext e (Option.some.inj a1).symm
    subst e2
    rw [h2] at g2
    cases g2
def tickM (L : Mks) (x now : Int) : Int := match getM L x with | some u => if now + 64 < u then u else now + 64 | none => now + 64
def setL (L : Mks) (x now : Int) : Int × Mks := if 1099511627776 < now then (1, L) else if getM L x = none ∧ 16 ≤ L.length then (7, L) else (0, putM L x (tickM L x now))
theorem setL_late {L : Mks} {x now : Int} (h : 1099511627776 < now) : setL L x now = (1, L) := if_pos h
theorem setL_full {L : Mks} {x now : Int} (h : ¬ 1099511627776 < now) (h1 : getM L x = none) (h2 : 16 ≤ L.length) : setL L x now = (7, L) := by unfold setL; rw [if_neg h, if_pos ⟨h1, h2⟩]
theorem setL_new {L : Mks} {x now : Int} (h : ¬ 1099511627776 < now) (h1 : getM L x = none) (h2 : ¬ 16 ≤ L.length) : setL L x now = (0, putM L x (now + 64)) := by
  unfold setL tickM
  rw [if_neg h, if_neg (fun hh => h2 hh.2), h1]
theorem setL_old {L : Mks} {x now u : Int} (h : ¬ 1099511627776 < now) (h1 : getM L x = some u) : setL L x now = (0, putM L x (if now + 64 < u then u else now + 64)) := by
  unfold setL tickM
  rw [if_neg h, if_neg (fun hh => by rw [h1] at hh; cases hh.1), h1]
def makeM : Mks → Mks → Int × Mks
  | [], M => (0, M)
  | y :: r, M => if (getM M y.1).isSome = true ∨ 1099511627840 < y.2 then (1, M) else makeM r (putM M y.1 y.2)
theorem len_del_le (M : Mks) (c : Int) : (delM M c).length ≤ M.length := List.length_filter_le _ _
theorem len_ins (x : Int × Int) : ∀ M : Mks, (insM x M).length = M.length + 1
  | [] => rfl
  | y :: r => by
    unfold insM
    split
    · rfl
    · rw [List.length_cons, len_ins x r, List.length_cons]
theorem len_put_le (M : Mks) (c v : Int) : (putM M c v).length ≤ M.length + 1 := by
  unfold putM
  rw [len_ins]
  have := len_del_le M c
  omega
end Pl
section
variable {H : Type}
def entL (p : Int × Int) : Lit × DataW H := (Lit.int .u32 p.1, DataW.lit (Lit.int .u64 p.2))
def datL (M : Pl.Mks) : DataW H := .map (M.map entL)
theorem findL_dat (M : Pl.Mks) (c : Int) : (M.map (entL (H := H))).find? (fun p => p.1.sameKey (.int .u32 c)) = (M.find? (fun p => p.1 == c)).map entL := by
  rw [List.find?_map]
  congr 2
  funext p
  exact same_u32 p.1 c
theorem hasL_dat (M : Pl.Mks) (c : Int) : Maps.has (datL M : DataW H) (.int .u32 c) = (Pl.getM M c).isSome := by
  unfold datL Pl.getM
  rw [Maps.has_eq, Option.isSome_map]
  induction M with
  | nil => rfl
  | cons y r ih =>
    rw [List.map_cons, List.any_cons, ih, List.find?_cons]
    have e : (entL (H := H) y).1.sameKey (.int .u32 c) = (y.1 == c) := same_u32 y.1 c
    rw [e]
    cases h : (y.1 == c) <;> simp
theorem atL_dat (M : Pl.Mks) (c : Int) (z : DataW H) : (datL M).atKey (.int .u32 c) z = ((Pl.getM M c).map fun v => DataW.lit (Lit.int .u64 v)).getD z := by
  unfold datL DataW.atKey Pl.getM
  simp only
  rw [findL_dat, Option.map_map]
  cases M.find? (fun p => p.1 == c) <;> rfl
theorem delL_dat (M : Pl.Mks) (c : Int) : (datL M : DataW H).del (.int .u32 c) = datL (Pl.delM M c) := by
  unfold datL DataW.del Pl.delM
  simp only
  rw [List.filter_map]
  congr 3
  funext p
  show (!(Lit.int .u32 p.1).sameKey (.int .u32 c)) = _
  rw [same_u32]
theorem insL_dat (x : Int × Int) : ∀ M : Pl.Mks, DataW.insert (entL (H := H) x) (M.map entL) = (Pl.insM x M).map entL
  | [] => rfl
  | y :: r => by
    rw [List.map_cons]
    unfold DataW.insert Pl.insM
    have e : (entL (H := H) x).1.before (entL (H := H) y).1 = decide (x.1 < y.1) := before_u32 x.1 y.1
    rw [e, insL_dat x r]
    by_cases h : x.1 < y.1
    · rw [decide_eq_true h, if_pos rfl, if_pos h]; rfl
    · rw [decide_eq_false h, if_neg (by simp), if_neg h]; rfl
theorem putL_dat (M : Pl.Mks) (c v : Int) : (datL M : DataW H).put (.int .u32 c) (.lit (.int .u64 v)) = datL (Pl.putM M c v) := by
  have h := delL_dat (H := H) M c
  unfold datL DataW.del at h
  simp only [DataW.map.injEq] at h
  unfold datL DataW.put Pl.putM
  simp only
  rw [h]
  exact congrArg _ (insL_dat (c, v) (Pl.delM M c))
theorem sizeL_dat (M : Pl.Mks) : Maps.size (datL M : DataW H) = M.length := by
  unfold datL
  rw [Maps.size_eq, List.length_map]
end
end Go.Proofs.YtldmnkakpmplnaaGreat
namespace Go.Proofs.YtldmnkakpmplnaaGreat
open Go.RowKit
open Pl (Un)
namespace Pl
structure Dc where
  cs : List Int
  fr : Nat
  n : Int
  P : List Op
  L : Mks
  M : Mks
  t : Nat
structure An where
  e : Int
  rev : Nat
  whole : Bool
  text : List Int
  ops : List Op
  seats : List (Int × Int × Int)
def fails (e : Int) : An := ⟨e, 0, false, [], [], []⟩
def rowsO (l : List Op) : List (List Un) := l.map (·.l)
def backR (x y : Int) (a : List Un) (rows : List (List Un)) : List Un := cleanL (pastR (invR x y a) rows)
namespace Dc
def zero : Dc := ⟨[], 0, 0, [], [], [], 0⟩
def now (d : Dc) : Nat := d.fr + d.P.length
def long (d : Dc) (rev : Nat) : Int := d.n + total (d.P.take (rev - d.fr))
def later (d : Dc) (rev : Nat) : List Op := d.P.drop (rev - d.fr)
def touched (d : Dc) (t : Int) : Dc := { d with L := thereM t d.L, M := dropsM d.M (whichM false t d.L), t := d.t + 1 }
def renewed (d : Dc) (c t : Int) : Dc := { d with L := (setL d.L c t).2 }
def call (d : Dc) (t : Int) (f : Dc → Dc × An) : Dc × An :=
  if 1099511627776 < t then (d, fails 1) else ((f (d.touched t)).1, if (f (d.touched t)).2.e = 0 then { (f (d.touched t)).2 with rev := (f (d.touched t)).1.now } else (f (d.touched t)).2)
def at_ (d : Dc) (c t : Int) (f : Dc → Dc × An) : Dc × An :=
  d.call t fun d => if liveM d.L c t = true then (if (f d).2.e = 0 then ((f d).1.renewed c t, (f d).2) else f d) else (d, fails 36)
def tells (d : Dc) (rev : Nat) (whole : Bool) : An :=
  if d.now < rev then fails 31 else if whole = true ∨ rev < d.fr then ⟨0, 0, true, d.cs, [], []⟩ else ⟨0, 0, false, [], d.later rev, []⟩
def open_ (d : Dc) (c : Int) (rev : Nat) (t : Int) : Dc × An :=
  d.call t fun d => if (d.tells rev (rev == 0)).e ≠ 0 then (d, d.tells rev (rev == 0)) else
    if (setL d.L c t).1 ≠ 0 then (d, fails (setL d.L c t).1) else
    ({ d with L := (setL d.L c t).2, M := if getM d.M c = none then putM d.M c 0 else d.M }, d.tells rev (rev == 0))
def ripe (d : Dc) (row : List Un) : List Un := fillL (cleanL row) d.cs
def bars (d : Dc) (row : List Un) : Int :=
  if (longL (cleanL row) d.cs.length).2 ≠ 0 then (longL (cleanL row) d.cs.length).2 else
  if 4096 < (leave (cleanL row) d.cs).length ∨ 256 ≤ d.P.length then 35 else if 1099511627776 ≤ d.now then 7 else 0
def newOp (d : Dc) (x y : Int) (row : List Un) : Op := ⟨x, y, d.ripe row, false⟩
def behind (d : Dc) (x y : Int) (row : List Un) : Dc := { d with cs := leave (cleanL row) d.cs, P := d.P ++ [d.newOp x y row], M := goM (fun p => placeR p (d.ripe row)) d.M }
def editRow (d : Dc) (base : Nat) (row : List Un) : List Un := pastR row (rowsO (d.later base))
def editE (d : Dc) (x y : Int) (base : Nat) (row : List Un) : Int :=
  if ∃ u ∈ row, ¬ Okay u ∨ u.x ≠ x ∨ u.y ≠ y then 1 else if (place d.fr d.P.length 0 base).2 ≠ 0 then (place d.fr d.P.length 0 base).2 else
  if 256 < row.length then 35 else if (longL row (d.long base)).2 ≠ 0 then (longL row (d.long base)).2 else d.bars (d.editRow base row)
def edit (d : Dc) (x y : Int) (base : Nat) (row : List Un) (t : Int) : Dc × An :=
  d.at_ x t fun d => if d.editE x y base row ≠ 0 then (d, fails (d.editE x y base row)) else
    (d.behind x y (d.editRow base row), ⟨0, 0, false, [], d.later base ++ [d.newOp x y (d.editRow base row)], []⟩)
def opAt (d : Dc) (rev : Nat) : Op := d.P.getD (rev - d.fr - 1) default
def undoRow (d : Dc) (x y : Int) (rev : Nat) : List Un := backR x y (d.opAt rev).l (rowsO (d.later rev))
def undoE (d : Dc) (x y : Int) (rev : Nat) : Int :=
  if rev = 0 then 6 else if (place d.fr d.P.length 1 rev).2 ≠ 0 then (place d.fr d.P.length 1 rev).2 else
  if (d.opAt rev).x ≠ x then 33 else if (d.opAt rev).b = true then 34 else d.bars (d.undoRow x y rev)
def mark (d : Dc) (k : Nat) : Dc := { d with P := d.P.set k { d.P.getD k default with b := true } }
def undo (d : Dc) (x y : Int) (rev : Nat) (t : Int) : Dc × An :=
  d.at_ x t fun d => if d.undoE x y rev ≠ 0 then (d, fails (d.undoE x y rev)) else
    ((d.behind x y (d.undoRow x y rev)).mark (rev - d.fr - 1), ⟨0, 0, false, [], [d.newOp x y (d.undoRow x y rev)], []⟩)
def seats (d : Dc) : List (Int × Int × Int) := d.L.map fun p => (p.1, (getM d.M p.1).getD 0, p.2)
def who (d : Dc) (c t : Int) : Dc × An := d.at_ c t fun d => (d, { fails 0 with seats := (d.renewed c t).seats })
end Dc
end Pl
end Go.Proofs.YtldmnkakpmplnaaGreat
namespace Go.Proofs.YtldmnkakpmplnaaGreat
open Go.RowKit
open Pl (Un)
namespace Pl
theorem place_keeps : ∀ (l : List Un) (n x y : Int), 0 ≤ x → x ≤ y → y ≤ n → n + l.length ≤ 1099511627776 → (goL l n).2 = 0 → 0 ≤ placeR x l ∧ placeR x l ≤ placeR y l ∧ placeR y l ≤ (goL l n).1
  | [], n, x, y, h0, h1, h2, _, _ => by
    unfold placeR goL
    exact ⟨h0, h1, h2⟩
  | u :: r, n, x, y, h0, h1, h2, hb, e => by
    rw [List.length_cons] at hb
    unfold goL at e ⊢
    unfold placeR
    by_cases hf : Fit u n
    · rw [if_pos hf] at e ⊢
      have hp : u.k = 1 ∨ u.k = 2 → 0 ≤ u.p := fun hk => by rcases hf.1 with h | h <;> omega
      have f1 := hf.2.1
      have f2 := hf.2.2
      by_cases k1 : u.k = 1
      · have hp1 := hp (Or.inl k1)
        have hg : grows u.k = 1 := by unfold grows; rw [if_pos k1]
        have k2 : ¬ u.k = 2 := by omega
        have w1 : ∀ z, 0 ≤ z → z ≤ n → wrap64 (z + 1) = z + 1 := fun z h h' => by unfold wrap64; omega
        have ex : (if u.k = 1 ∧ u.p ≤ x then wrap64 (x + 1) else if u.k = 2 ∧ u.p < x then wrap64 (x - 1) else x) = if u.p ≤ x then x + 1 else x := by
          by_cases hx : u.p ≤ x
          · rw [if_pos ⟨k1, hx⟩, if_pos hx, w1 x h0 (by omega)]
          · rw [if_neg (fun h => hx h.2), if_neg (fun h => k2 h.1), if_neg hx]
        have ey : (if u.k = 1 ∧ u.p ≤ y then wrap64 (y + 1) else if u.k = 2 ∧ u.p < y then wrap64 (y - 1) else y) = if u.p ≤ y then y + 1 else y := by
          by_cases hy : u.p ≤ y
          · rw [if_pos ⟨k1, hy⟩, if_pos hy, w1 y (by omega) h2]
          · rw [if_neg (fun h => hy h.2), if_neg (fun h => k2 h.1), if_neg hy]
        rw [ex, ey]
        rw [hg] at e ⊢
        exact place_keeps r (n + 1) _ _ (by split <;> omega) (by split <;> split <;> omega) (by split <;> omega) (by omega) e
      · by_cases k2 : u.k = 2
        · have hp2 := hp (Or.inr k2)
          have f22 := f2 k2
          have hg : grows u.k = -1 := by unfold grows; rw [if_neg k1, if_pos k2]
          have w1 : ∀ z, 0 ≤ z → z ≤ n → wrap64 (z - 1) = z - 1 := fun z h h' => by unfold wrap64; omega
          have ex : (if u.k = 1 ∧ u.p ≤ x then wrap64 (x + 1) else if u.k = 2 ∧ u.p < x then wrap64 (x - 1) else x) = if u.p < x then x - 1 else x := by
            rw [if_neg (fun h => k1 h.1)]
            by_cases hx : u.p < x
            · rw [if_pos ⟨k2, hx⟩, if_pos hx, w1 x h0 (by omega)]
            · rw [if_neg (fun h => hx h.2), if_neg hx]
          have ey : (if u.k = 1 ∧ u.p ≤ y then wrap64 (y + 1) else if u.k = 2 ∧ u.p < y then wrap64 (y - 1) else y) = if u.p < y then y - 1 else y := by
            rw [if_neg (fun h => k1 h.1)]
            by_cases hy : u.p < y
            · rw [if_pos ⟨k2, hy⟩, if_pos hy, w1 y (by omega) h2]
            · rw [if_neg (fun h => hy h.2), if_neg hy]
          rw [ex, ey]
          rw [hg] at e ⊢
          exact place_keeps r (n + -1) _ _ (by split <;> omega) (by split <;> split <;> omega) (by split <;> omega) (by omega) e
        · have hg : grows u.k = 0 := by unfold grows; rw [if_neg k1, if_neg k2]
          rw [if_neg (fun h => k1 h.1), if_neg (fun h => k2 h.1), if_neg (fun h => k1 h.1), if_neg (fun h => k2 h.1)]
          rw [hg] at e ⊢
          exact place_keeps r (n + 0) _ _ h0 h1 (by omega) (by omega) e
    · rw [if_neg hf] at e
      exact absurd e (by decide)
theorem placeR_keeps {l : List Un} {n m x y : Int} (h : longL l n = (m, 0)) (h0 : 0 ≤ x) (h1 : x ≤ y) (h2 : y ≤ n) (hb : n + l.length ≤ 1099511627776) : 0 ≤ placeR x l ∧ placeR x l ≤ placeR y l ∧ placeR y l ≤ m := by
  unfold longL at h
  by_cases hc : 0 ≤ n ∧ ∀ u ∈ l, Okay u
  · rw [if_pos hc] at h
    have := place_keeps l n x y h0 h1 h2 hb (by rw [h])
    rw [h] at this
    exact this
  · rw [if_neg hc] at h
    cases h
end Pl
end Go.Proofs.YtldmnkakpmplnaaGreat
namespace Go.Proofs.YtldmnkakpmplnaaGreat
open Go.RowKit
open Pl (Un)
namespace Pl
theorem OnlyR.mono {P Q : Int → Prop} (hPQ : ∀ c, P c → Q c) : ∀ {r : List Un} {cs : List Int}, OnlyR P r cs → OnlyR Q r cs
  | [], _, _ => trivial
  | _ :: _, _, h => ⟨⟨fun hk => hPQ _ (h.1.1 hk), fun hk c hc => hPQ _ (h.1.2 hk c hc)⟩, OnlyR.mono hPQ h.2⟩
def Brings (Q : Int → Prop) (r : List Un) : Prop := ∀ u ∈ r, u.k = 1 → Q u.c
theorem fill_brings {Q : Int → Prop} {r : List Un} {cs : List Int} (h : Brings Q r) : Brings Q (fillL r cs) := by
  induction r generalizing cs with
  | nil => intro u hu; cases hu
  | cons u r ih =>
    intro v hv hk
    rcases List.mem_cons.1 hv with rfl | hv
    · have hk2 := (fillU_k u cs).1
      rw [hk2] at hk
      have e : fillU u cs = u := by unfold fillU; rw [if_neg (by omega)]
      rw [e]; exact h u (List.mem_cons_self ..) hk
    · exact ih (fun z hz => h z (List.mem_cons_of_mem _ hz)) v hv hk
def Once (Q : Int → Prop) [DecidablePred Q] (cs : List Int) : Prop := (cs.filter (fun c => !decide (Q c))).Nodup
theorem once_gone {Q : Int → Prop} [DecidablePred Q] {cs : List Int} {p : Nat} {c : Int} (h : Once Q cs) (hc : cs[p]? = some c) (hq : ¬ Q c) : c ∉ delL p cs := by
  have hp : p < cs.length := (List.getElem?_eq_some_iff.1 hc).1
  have e : cs[p] = c := (List.getElem?_eq_some_iff.1 hc).2
  have e2 : cs = cs.take p ++ c :: cs.drop (p + 1) := by rw [← e, ← List.drop_eq_getElem_cons hp, List.take_append_drop]
  unfold Once at h
  rw [e2, List.filter_append, List.filter_cons_of_pos (by simpa using hq), List.nodup_append] at h
  obtain ⟨_, h2, h3⟩ := h
  rw [List.nodup_cons] at h2
  intro hm
  unfold delL at hm
  rcases List.mem_append.1 hm with hm | hm
  · exact h3 c (List.mem_filter.2 ⟨hm, by simpa using hq⟩) c (List.mem_cons_self ..) rfl
  · exact h2.1 (List.mem_filter.2 ⟨hm, by simpa using hq⟩)
theorem once_behind {Q : Int → Prop} [DecidablePred Q] {u : Un} {cs : List Int} (h : Once Q cs) (hb : u.k = 1 → Q u.c) : Once Q (behind u cs) := by
  unfold Once at *
  unfold behind
  split
  · rename_i hk
    rw [List.filter_append, List.filter_cons_of_neg (by simpa using hb hk), ← List.filter_append, List.take_append_drop]
    exact h
  · split
    · refine List.Nodup.sublist (List.Sublist.filter _ ?_) h
      conv => rhs; rw [← List.take_append_drop u.p.toNat cs]
      exact List.Sublist.append (List.Sublist.refl _) (List.drop_sublist_drop_left cs (Nat.le_succ _))
    · exact h
theorem took_only {Q : Int → Prop} [DecidablePred Q] : ∀ {r : List Un} {cs : List Int}, FitR r cs → Brings Q r → Once Q cs → OnlyR (fun c => Q c ∨ c ∈ cs ∧ c ∉ leave r cs) r cs
  | [], _, _, _, _ => trivial
  | u :: r, cs, hf, hb, ho => by
    have hbr : Brings Q r := fun v hv => hb v (List.mem_cons_of_mem _ hv)
    have ih := took_only hf.2 hbr (once_behind ho (hb u (List.mem_cons_self ..)))
    refine ⟨⟨fun hk => Or.inl (hb u (List.mem_cons_self ..) hk), fun hk c hc => ?_⟩, OnlyR.mono (fun c h => ?_) ih⟩
    · by_cases hq : Q c
      · exact Or.inl hq
      · refine Or.inr ⟨List.mem_of_getElem? hc, fun hm => ?_⟩
        have hg := once_gone ho hc hq
        have hall := all_leave (Q := fun d => d ≠ c) (r := r) (cs := behind u cs) (fun d hd e => by
          rw [e] at hd
          rcases mem_behind hd with h1 | ⟨h1, _⟩
          · apply hg
            have e3 : behind u cs = delL u.p.toNat cs := by unfold behind delL; rw [if_neg (by omega), if_pos hk]
            rw [e3] at hd; exact hd
          · omega) (fun v hv hk2 e => hq (e ▸ hbr v hv hk2))
        exact hall c hm rfl
    · rcases h with h | ⟨h1, h2⟩
      · exact Or.inl h
      · rcases mem_behind h1 with h3 | ⟨h3, h4⟩
        · exact Or.inr ⟨h3, h2⟩
        · exact Or.inl (h4 ▸ hb u (List.mem_cons_self ..) h3)
theorem leave_sub {Q : Int → Prop} [DecidablePred Q] : ∀ {r : List Un} {cs : List Int}, Brings Q r → ((leave r cs).filter (fun c => !decide (Q c))).Sublist (cs.filter (fun c => !decide (Q c)))
  | [], _, _ => List.Sublist.refl _
  | u :: r, cs, hb => by
    refine (leave_sub (r := r) (cs := behind u cs) fun v hv => hb v (List.mem_cons_of_mem _ hv)).trans ?_
    unfold behind
    split
    · rename_i hk
      rw [List.filter_append, List.filter_cons_of_neg (by simpa using hb u (List.mem_cons_self ..) hk), ← List.filter_append, List.take_append_drop]
      exact List.Sublist.refl _
    · split
      · refine List.Sublist.filter _ ?_
        conv => rhs; rw [← List.take_append_drop u.p.toNat cs]
        exact List.Sublist.append (List.Sublist.refl _) (List.drop_sublist_drop_left cs (Nat.le_succ _))
      · exact List.Sublist.refl _
def R2 (c : Int) : Prop := 2000 ≤ c ∧ c < 3000
instance : DecidablePred R2 := fun c => by unfold R2; infer_instance
def back1 (x y : Int) (a b : List Un) : List Un := cleanL (bothR (invR x y a) b).1
theorem selects {A B : List Un} {T : List Int} {x y : Int} (hn : T.length + 2 * A.length + B.length ≤ 999) (hfA : FitR A T) (hc : Filled A T) (hbA : Brings R2 A) (hfB : FitR B (leave A T)) (hbB : Brings (fun c => 3000 ≤ c) B) (hid : ∀ v ∈ B, v.x ≠ x)
    (hT : ∀ c ∈ T, 1000 ≤ c ∧ c < 2000) (hT1 : T.Nodup) :
    FitR (back1 x y A B) (leave B (leave A T)) ∧ (∀ c ∈ leave (back1 x y A B) (leave B (leave A T)), ¬ R2 c) ∧
      (leave (back1 x y A B) (leave B (leave A T))).filter (fun c => !decide (c ∈ T ∧ c ∉ leave A T)) = (leave B (leave A T)).filter (fun c => !decide (R2 c)) ∧
      (leave (back1 x y A B) (leave B (leave A T))).filter (fun c => decide (c ∈ T ∧ c ∉ leave A T)) = T.filter (fun c => decide (c ∈ T ∧ c ∉ leave A T)) ∧
      ((leave (back1 x y A B) (leave B (leave A T))).filter (fun c => decide (c < 2000))).Sublist (T.filter (fun c => decide (c < 2000))) := by
  obtain ⟨N, hN⟩ : ∃ N, N = leave A T := ⟨_, rfl⟩
  obtain ⟨g1, g2, _⟩ := inv_back hfA hc x y
  rw [← hN] at g1 g2 hfB ⊢
  have hNl : N.length ≤ T.length + A.length := by rw [hN]; exact len_leave_le hfA
  have hlen : N.length + (invR x y A).length + B.length ≤ 999 := by rw [inv_len]; omega
  have hids : ∀ u ∈ invR x y A, ∀ v ∈ B, u.x ≠ v.x := fun u hu v hv => by rw [(inv_ids x y A u hu).1]; exact fun e => hid v hv e.symm
  obtain ⟨s1, s2, s3⟩ := square (invR x y A) B N hlen g1 hfB hids
  rw [g2] at s2 s3
  obtain ⟨E, hE⟩ : ∃ E, E = leave (back1 x y A B) (leave B N) := ⟨_, rfl⟩
  have hE1 : E = leave (bothR (invR x y A) B).1 (leave B N) := by rw [hE]; exact leave_clean _ _
  have hE2 : E = leave (bothR (invR x y A) B).2 T := hE1.trans s3.symm
  have hb2 : Brings (fun c => 3000 ≤ c) (bothR (invR x y A) B).2 := (both_c (invR x y A) B).2 hbB
  rw [← hE]
  have hno : ∀ c ∈ E, ¬ R2 c := by
    rw [hE2]
    exact all_leave (Q := fun c => ¬ R2 c) (fun c hc h => by have := hT c hc; unfold R2 at h; omega) (fun u hu hk h => by have := hb2 u hu hk; unfold R2 at h; omega)
  have hR2T : ∀ c ∈ T, ¬ R2 c := fun c hc h => by have := hT c hc; unfold R2 at h; omega
  have hth : ∀ c ∈ leave B N, c ∈ N ∨ 3000 ≤ c := all_leave (Q := fun c => c ∈ N ∨ 3000 ≤ c) (fun c hc => Or.inl hc) (fun u hu hk => Or.inr (hbB u hu hk))
  refine ⟨fit_clean _ _ s1, hno, ?_, ?_, ?_⟩
  · have ho : OnlyR (fun c => R2 c ∨ c ∈ T ∧ c ∉ N) A T := by
      have := took_only (Q := R2) hfA hbA (List.Nodup.sublist List.filter_sublist hT1)
      rw [← hN] at this; exact this
    have ho2 := inv_only hfA hc ho x y
    rw [← hN] at ho2
    have ho3 := (both_only (P := fun c => R2 c ∨ c ∈ T ∧ c ∉ N) (invR x y A) B N hlen g1 hfB hids).1 ho2
    have hfl := onlyR_filter s1 ho3
    rw [← hE1] at hfl
    have e1 : E.filter (fun c => !decide (c ∈ T ∧ c ∉ N)) = E.filter (fun c => !decide (R2 c ∨ c ∈ T ∧ c ∉ N)) := List.filter_congr fun c hc => by
      have := hno c hc
      simp [this]
    have e2 : (leave B N).filter (fun c => !decide (R2 c)) = (leave B N).filter (fun c => !decide (R2 c ∨ c ∈ T ∧ c ∉ N)) := List.filter_congr fun c hc => by
      have hnt : ¬ (c ∈ T ∧ c ∉ N) := fun h => by
        rcases hth c hc with h1 | h1
        · exact h.2 h1
        · have := hT c h.1; omega
      simp [hnt]
    rw [e1, e2, hfl]
  · have ho : OnlyR (fun c => ¬ (c ∈ T ∧ c ∉ N)) B N := only_all (fun c hc h => h.2 hc) (fun u hu hk h => by have := hbB u hu hk; have := hT _ h.1; omega)
    have ho2 := (both_only (P := fun c => ¬ (c ∈ T ∧ c ∉ N)) (invR x y A) B N hlen g1 hfB hids).2 ho
    rw [g2] at ho2
    have hfl := onlyR_filter s2 ho2
    rw [← hE2] at hfl
    have hd : ∀ l : List Int, l.filter (fun c => decide (c ∈ T ∧ c ∉ N)) = l.filter (fun c => !decide (¬ (c ∈ T ∧ c ∉ N))) := fun l => List.filter_congr fun c _ => by simp
    rw [hd, hd, hfl]
  · have hs := leave_sub (Q := fun c => ¬ c < 2000) (r := (bothR (invR x y A) B).2) (cs := T) (fun u hu hk => by have := hb2 u hu hk; omega)
    rw [← hE2] at hs
    have hd : ∀ l : List Int, l.filter (fun c => decide (c < 2000)) = l.filter (fun c => !decide (¬ c < 2000)) := fun l => List.filter_congr fun c _ => by by_cases h : c < 2000 <;> simp [h]
    rw [hd, hd]; exact hs
def R3 (c : Int) : Prop := 3000 ≤ c
instance : DecidablePred R3 := fun c => by unfold R3; infer_instance
theorem clean_mem {r : List Un} {u : Un} (h : u ∈ cleanL r) : u ∈ r := (List.mem_filter.1 h).1
end Pl
end Go.Proofs.YtldmnkakpmplnaaGreat
