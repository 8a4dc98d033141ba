/-
  A table in memory ('Tb'): its struct, its second buffer, its pieces; what keeps it. Contracts of the small functions of piece: none, Len, reach, follows, and of slices.Clone at code points and at pieces. Conditions: the table is one, or none; the buffers have at most 2^30 code points.
-/
import Derived.Test.YtogmddneimhpeaaPceM
import Derived.Test.YtogmddneimhpeaaPcePlain
import Derived.Test.YtogmddneimhpeaaBaseR
import Derived.StillTailTactics
import Derived.Deep.RegionHeld3
import Derived.BigQuiet
import Derived.Deep.QuietTactic
namespace Go.Proofs.Ytogmddneimhpeaa
open Go.RowKit
open Pl (Pc Plc Tab)

def encP (p : Pc) : List Value := [.bool p.s, .int .i64 (p.at_ : Int), .int .i64 (p.len : Int)]
def aggP (p : Pc) : Value := .agg #[.bool p.s, .int .i64 (p.at_ : Int), .int .i64 (p.len : Int)]
theorem encP_len (p : Pc) : (encP p).length = 3 := rfl
theorem encP_one (p : Pc) : ∀ u ∈ encP p, u.oneCell' = true := by
  intro u hu
  simp [encP] at hu
  rcases hu with rfl | rfl | rfl <;> rfl
theorem infoPc : (Try.prog.info? 59).map (fun i => (i.zero, i.size, i.bytes)) = some (some (.agg #[.bool false, .int .i64 0, .int .i64 0]), 3, 24) := by kernel_rfl
/-- the pieces ps of the call's own, as a value -/
abbrev OwnP (w : World) (base : Nat) (v : Value) (ps : List Pc) : Prop := OwnR encP 3 59 w base v ps
abbrev Pcs (w : World) (B : Nat) (A : Option Addr) (n c : Nat) (ps : List Pc) : Prop := Rws encP w B A n c ps
theorem Pcs.at_ {w : World} {B : Nat} {A : Option Addr} {n c : Nat} {ps : List Pc} (h : Pcs w B A n c ps) {i : Nat} (hi : i < n) :
    ∃ g o, A = some ⟨g, o, none⟩ ∧ g < B ∧ ∀ i, i < n → w.cell? ⟨g, o + i * 3, none⟩ = some (.bool (ps.getD i default).s) ∧ w.cell? ⟨g, o + i * 3 + 1, none⟩ = some (.int .i64 ((ps.getD i default).at_ : Int)) ∧ w.cell? ⟨g, o + i * 3 + 2, none⟩ = some (.int .i64 ((ps.getD i default).len : Int)) := by
  obtain ⟨g, o, e, hg, hc⟩ := Rws.at_ encP_len h hi
  exact ⟨g, o, e, hg, fun i hi => ⟨hc i hi 0 _ (by decide) rfl, hc i hi 1 _ (by decide) rfl, hc i hi 2 _ (by decide) rfl⟩⟩

/-- the table at block p, made of blocks of F, reads as t; at most m code points -/
def Tb (w : World) (F : Nat → Prop) (p : Nat) (t : Tab) (m : Nat) : Prop :=
  (∀ b, F b → b < w.heap.size) ∧ t.Ok m ∧ m ≤ 1073741824 ∧ F p ∧
    ∃ (A1 : Option Addr) (c1 q : Nat) (A2 : Option Addr) (c2 : Nat) (A3 : Option Addr) (c3 : Nat),
      w.heap[p]? = some (.cells #[.slice A1 t.fst.length c1, .pointer (some ⟨q, 0, none⟩), .int .i64 ((t.snd.length : Nat) : Int), .slice A3 (Pl.group t.L).length c3] 81 (0, 0)) ∧
      w.heap[q]? = some (.cells #[.slice A2 t.snd.length c2] 79 (0, 0)) ∧
      OwnC w 0 (.slice A1 t.fst.length c1) t.fst ∧ OwnC w 0 (.slice A2 t.snd.length c2) t.snd ∧ OwnP w 0 (.slice A3 (Pl.group t.L).length c3) (Pl.group t.L) ∧ F q ∧ p ≠ q ∧
      (∀ g, Value.ownBlock (.slice A1 t.fst.length c1) = some g → F g ∧ g ≠ p ∧ g ≠ q ∧ some g ≠ Value.ownBlock (.slice A2 t.snd.length c2)) ∧
      (∀ g, Value.ownBlock (.slice A2 t.snd.length c2) = some g → F g ∧ g ≠ p ∧ g ≠ q) ∧
      (∀ g, Value.ownBlock (.slice A3 (Pl.group t.L).length c3) = some g → F g ∧ g ≠ p ∧ g ≠ q ∧ some g ≠ Value.ownBlock (.slice A2 t.snd.length c2))
section
variable {w w' : World} {T F : Nat → Prop} {p : Nat} {t : Tab} {m : Nat}
theorem Tb.lt (h : Tb w F p t m) : ∀ b, F b → b < w.heap.size := h.1
theorem Tb.ok (h : Tb w F p t m) : t.Ok m := h.2.1
theorem Tb.le (h : Tb w F p t m) : m ≤ 1073741824 := h.2.2.1
theorem Tb.mem (h : Tb w F p t m) : F p := h.2.2.2.1
theorem Tb.keep (h : Tb w F p t m) (ht : Tn T w w') (hT : ∀ b, F b → ¬ T b) : Tb w' F p t m := by
  obtain ⟨hl, ho, hm, hp, A1, c1, q, A2, c2, A3, c3, h1, h2, h3, h4, h5, h6, h7, h8, h9, h10⟩ := h
  exact ⟨fun b hb => Nat.lt_of_lt_of_le (hl b hb) ht.size, ho, hm, hp, A1, c1, q, A2, c2, A3, c3, ht.old h1 (hT p hp), ht.old h2 (hT q h6), h3.tn ht (fun g hg => hT g (h8 g hg).1), h4.tn ht (fun g hg => hT g (h9 g hg).1), OwnR.tn h5 ht (fun g hg => hT g (h10 g hg).1), h6, h7, h8, h9, h10⟩
theorem Tb.below {B : Nat} (h : Tb w F p t m) (hb : Below B w w') (hB : ∀ b, F b → b < B) : Tb w' F p t m :=
  h.keep (Tn.byBelow (T := fun b => B ≤ b) hb (fun _ x => x)) (fun b hb h => by have := hB b hb; omega)
theorem Tb.then_ (h : Tb w F p t m) (hb : Below w.heap.size w w') : Tb w' F p t m := h.below hb h.lt
theorem Tb.mono {k : Nat} (h : Tb w F p t m) (hk : m ≤ k) (hb : k ≤ 1073741824) : Tb w F p t k := ⟨h.1, h.2.1.mono hk, hb, h.2.2.2⟩
theorem Tb.wider {G : Nat → Prop} (h : Tb w F p t m) (hG : ∀ b, F b → G b) (hl : ∀ b, G b → b < w.heap.size) : Tb w G p t m := by
  obtain ⟨_, ho, hm, hp, A1, c1, q, A2, c2, A3, c3, h1, h2, h3, h4, h5, h6, h7, h8, h9, h10⟩ := h
  exact ⟨hl, ho, hm, hG p hp, A1, c1, q, A2, c2, A3, c3, h1, h2, h3, h4, h5, hG q h6, h7, fun g hg => ⟨hG g (h8 g hg).1, (h8 g hg).2⟩, fun g hg => ⟨hG g (h9 g hg).1, (h9 g hg).2⟩, fun g hg => ⟨hG g (h10 g hg).1, (h10 g hg).2⟩⟩
end
/-- what a call of a table leaves: it reads as t now; of what was there, blocks of F alone may have turned -/
def Did (w : World) (F : Nat → Prop) (p : Nat) (t : Tab) (m : Nat) (w' : World) : Prop := ∃ F', Tb w' F' p t m ∧ Tn F w w' ∧ (∀ b, F' b → F b ∨ w.heap.size ≤ b) ∧ ∀ b, F b → F' b
/-- a pointer to no table that New made -/
def NoTb (w : World) (A : Option Addr) : Prop := A = none ∨ ∃ p a c d, A = some ⟨p, 0, none⟩ ∧ w.heap[p]? = some (.cells #[a, .pointer none, c, d] 81 (0, 0))

set_option maxRecDepth 100000 in
set_option maxHeartbeats 400000 in
theorem none_tb {w : World} {F : Nat → Prop} {p : Nat} {t : Tab} {m : Nat} (h : Tb w F p t m) :
    Calls Try.prog 51 #[.pointer (some ⟨p, 0, none⟩)] w fun e w' => e = .returned (.bool false) ∧ w = w' := by
  obtain ⟨hl, ho, hm, hp, A1, c1, q, A2, c2, A3, c3, h1, h2, h3, h4, h5, h6, h7, h8, h9, h10⟩ := h
  have d1 := cell1 h1
  clear h1 h2 h3 h4 h5 h6 h7 h8 h9 h10 hl ho hm hp
  go_enter Try.func51, Try.ntmps51
  go_wp2_with fail
  go_ret
  exact ⟨rfl, rfl⟩
set_option maxRecDepth 100000 in
set_option maxHeartbeats 400000 in
theorem none_no {w : World} {A : Option Addr} (h : NoTb w A) :
    Calls Try.prog 51 #[.pointer A] w fun e w' => e = .returned (.bool true) ∧ w = w' := by
  rcases h with rfl | ⟨p, a, c, d, rfl, h1⟩
  · go_enter Try.func51, Try.ntmps51
    go_wp2_with fail
    go_ret
    exact ⟨rfl, rfl⟩
  · have d1 := cell1 h1
    clear h1
    go_enter Try.func51, Try.ntmps51
    go_wp2_with fail
    go_ret
    exact ⟨rfl, rfl⟩

/-- Len's loop -/
def LenRel (w : World) (ps : List Pc) (s i : Value) (wr : World) : Prop :=
  ∃ j : Nat, i = .int .i64 (j : Int) ∧ j ≤ ps.length ∧ s = .int .i64 ((Pl.total (ps.take j) : Nat) : Int) ∧ Below w.heap.size w wr
set_option maxRecDepth 100000 in
set_option maxHeartbeats 400000 in
theorem len_tb {w : World} {F : Nat → Prop} {p : Nat} {t : Tab} {m : Nat} (h : Tb w F p t m) :
    Calls Try.prog 24 #[.pointer (some ⟨p, 0, none⟩)] w fun e w' => e = .returned (.int .i64 ((t.L.length : Nat) : Int)) ∧ Below w.heap.size w w' := by
  have HN := Lib.hid (none_tb h)
  have hlen := h.ok.len
  have hmm := h.le
  have HP := Lib.hid (lt_of_block h.2.2.2.2.choose_spec.choose_spec.choose_spec.choose_spec.choose_spec.choose_spec.choose_spec.1)
  obtain ⟨hl, ho, hm, hp, A1, c1, q, A2, c2, A3, c3, h1, h2, h3, h4, h5, h6, h7, h8, h9, h10⟩ := h
  have d3 := cell3 h1
  have HT := Lib.hid (Pl.total_group t.L)
  have hps := Pl.group_len t.L
  obtain ⟨ps, hps0⟩ : ∃ ps, ps = Pl.group t.L := ⟨_, rfl⟩
  rw [← hps0] at d3 h5 HT hps
  have HR := Lib.hid (OwnR.rws encP_len h5).2
  clear h1 h2 h3 h4 h5 h6 h7 h8 h9 h10 hl ho hp hps0
  go_enter Try.func24, Try.ntmps24
  go_wp2_with fail
  refine HN.out.mono ?_
  rintro e w' ⟨rfl, rfl⟩
  go_wp2_with fail
  go_loopw [3, 13] (fun s i wr => LenRel w ps s i wr) (fun _ i _ => ps.length - (intOf i).toNat)
  case atStart => exact ⟨0, rfl, Nat.zero_le _, rfl, Below.refl _ _⟩
  case round =>
    obtain ⟨j, rfl, hj, rfl, hb⟩ := hrel
    have HB := Lib.hid hb
    by_cases hlt : j < ps.length
    · have hR := Rws.below HR.out hb (Nat.le_refl _)
      obtain ⟨g, o, rfl, hg, hc⟩ := Pcs.at_ hR hlt
      obtain ⟨c0, cc1, cc2⟩ := hc j hlt
      have hs := Pl.total_take ps j hlt
      have hs2 := Pl.total_take_le ps (j + 1)
      rw [HT.out] at hs2
      have HS := Lib.hid hs
      obtain ⟨x, hx⟩ : ∃ x, x = (ps.getD j default).len := ⟨_, rfl⟩
      obtain ⟨y, hy⟩ : ∃ y, y = Pl.total (ps.take j) := ⟨_, rfl⟩
      rw [← hx] at cc2 HS hs
      rw [← hy] at HS hs
      rw [← hy]
      have hbd : y + x ≤ 1073741824 := by omega
      clear hc hs hs2 hx hy hb hR
      go_wp2_with fail
      go_roundw
      case rel => exact ⟨j + 1, by go_num, by omega, by rw [HS.out]; go_num, HB.out.alloc HB.out.size _⟩
      case measure => simp [intOf]; omega
    · have hjn : j = ps.length := by omega
      have hs : Pl.total (ps.take j) = t.L.length := by rw [hjn, List.take_length, HT.out]
      clear hb
      rw [hs]
      clear hs hjn
      go_wp2_with fail
      go_ret
      exact ⟨rfl, HB.out⟩
end Go.Proofs.Ytogmddneimhpeaa
