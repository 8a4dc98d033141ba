/-
  A unit in plain words: which may be, which fits, what becomes of one behind another, what it does to a text. Nothing of a program is named here.
-/
import Derived.RowKit
namespace Go.Proofs.Ytfjnliebgndemaa
open Go.RowKit

namespace Pl
/-- a number of 64 bits with a sign -/
def I (x : Int) : Prop := -9223372036854775808 ≤ x ∧ x ≤ 9223372036854775807
theorem I.out {x : Int} (h : I x) : -9223372036854775808 ≤ x ∧ x ≤ 9223372036854775807 := h
theorem I.mk {x : Int} (h : -9223372036854775808 ≤ x ∧ x ≤ 9223372036854775807) : I x := h
/-- a code point that may be -/
def May (c : Int) : Prop := 0 ≤ c ∧ c < 55296 ∨ 57343 < c ∧ c ≤ 1114111
instance (c : Int) : Decidable (May c) := by unfold May; infer_instance
/-- a unit -/
structure Un where
  k : Int
  p : Int
  c : Int
  x : Int
  y : Int
deriving DecidableEq
/-- it may be -/
def Okay (u : Un) : Prop := u.k = 0 ∧ u.p = 0 ∧ u.c = 0 ∨ (u.k = 1 ∨ u.k = 2) ∧ 0 ≤ u.p ∧ May u.c
instance (u : Un) : Decidable (Okay u) := by unfold Okay; infer_instance
/-- it fits a length -/
def Fit (u : Un) (n : Int) : Prop := Okay u ∧ (u.k = 1 → u.p ≤ n) ∧ (u.k = 2 → u.p < n)
instance (u : Un) (n : Int) : Decidable (Fit u n) := by unfold Fit; infer_instance
/-- of two Ids the first is ahead -/
def First (x y x' y' : Int) : Prop := x < x' ∨ x = x' ∧ y < y'
instance (x y x' y' : Int) : Decidable (First x y x' y') := by unfold First; infer_instance
/-- by how much a text grows -/
def grows (k : Int) : Int := if k = 1 then 1 else if k = 2 then -1 else 0
end Pl
open Pl (Un)
/-- behind an Ins -/
def Pl.pastIns (a b : Un) : Un := if b.p < a.p ∨ a.p = b.p ∧ (a.k = 2 ∨ Pl.First b.x b.y a.x a.y) then ⟨a.k, wrap64 (a.p + 1), a.c, a.x, a.y⟩ else a
/-- behind a Del -/
def Pl.pastDel (a b : Un) : Un := if b.p < a.p then ⟨a.k, wrap64 (a.p - 1), a.c, a.x, a.y⟩ else if a.p = b.p ∧ a.k = 2 then ⟨0, 0, 0, a.x, a.y⟩ else a
/-- behind another -/
def Pl.over (a b : Un) : Un := if Pl.Okay a ∧ Pl.Okay b ∧ a.k ≠ 0 then (if b.k = 1 then Pl.pastIns a b else if b.k = 2 then Pl.pastDel a b else a) else a

namespace Pl
/-- the error of Apply -/
def applyE (u : Un) (n : Int) : Int := if Okay u then if Fit u n then 0 else 30 else 1
/-- the text behind a unit that fits -/
def behind (u : Un) (cs : List Int) : List Int := if u.k = 1 then cs.take u.p.toNat ++ u.c :: cs.drop u.p.toNat else if u.k = 2 then cs.take u.p.toNat ++ cs.drop (u.p.toNat + 1) else cs
def applyT (u : Un) (cs : List Int) : List Int := if Fit u cs.length then behind u cs else []
end Pl
end Go.Proofs.Ytfjnliebgndemaa
