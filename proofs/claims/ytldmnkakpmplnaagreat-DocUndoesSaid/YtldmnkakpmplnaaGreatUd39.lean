/-
  A document in memory: its block, its past, its table, its leases, its marks, each block told apart by a colour; what keeps it, and how one part is laid anew. Conditions: those that each states.
  A document's answer in memory; what a call leaves; the small calls (none, Rev, From, Text), and what all calls have in common (touched). Conditions: those that each states.
-/
import Derived.Test.YtldmnkakpmplnaaGreatUd16
import Derived.Test.YtldmnkakpmplnaaGreatUd20
import Derived.Test.YtldmnkakpmplnaaGreatUd28
import Derived.Test.YtldmnkakpmplnaaGreatUd35
import Derived.Test.YtldmnkakpmplnaaGreatUd38
set_option maxRecDepth 100000
namespace Go.Proofs.YtldmnkakpmplnaaGreat
open Go.RowKit
open Pl (Un)
structure DocM (w : World) (D pa tx ls mk : Nat) (k : Nat → Nat) (N : Int) (d : Pl.Dc) (m : Nat) : Prop where
  blk : w.heap[D]? = some (.cells #[.int .u64 (d.t : Int), .pointer (some ⟨pa, 0, none⟩), .pointer (some ⟨tx, 0, none⟩), .pointer (some ⟨ls, 0, none⟩), .pointer (some ⟨mk, 0, none⟩)] 93 (0, 0))
  past : PastAt w pa (fun b => k b = 2) d.fr d.n d.P
  tab : ∃ t, Tbl.Tb w (fun b => k b = 3) tx t m ∧ t.text = d.cs
  les : ∃ lb, Ls.LeasesW w ls lb d.L ∧ k lb = 6
  mks : ∃ mb, MarksW w mk mb N d.M ∧ k mb = 8
  kD : k D = 1
  kp : k pa = 4
  kl : k ls = 5
  km : k mk = 7
  lt : ∀ b, k b ≠ 0 → b < w.heap.size
structure Mv (k : Nat → Nat) (w : World) (k' : Nat → Nat) (w' : World) : Prop where
  tn : Tn (fun b => k b ≠ 0) w w'
  eq : ∀ b, b < w.heap.size → k' b = k b
section
variable {w w' w1 : World} {D pa tx ls mk m : Nat} {k k' k1 : Nat → Nat} {N : Int} {d : Pl.Dc} {T : Nat → Prop}
theorem Mv.refl (k : Nat → Nat) (w : World) : Mv k w k w := ⟨Tn.refl _ _, fun _ _ => rfl⟩
theorem Mv.of (k : Nat → Nat) (hb : Below w.heap.size w w') : Mv k w k w' := ⟨Tn.of _ hb, fun _ _ => rfl⟩
theorem Mv.trans (h : Mv k w k1 w1) (h' : Mv k1 w1 k' w') : Mv k w k' w' :=
  ⟨h.tn.trans h'.tn fun b hb hn => by rw [h.eq b hb] at hn; exact hn, fun b hb => (h'.eq b (Nat.lt_of_lt_of_le hb h.tn.size)).trans (h.eq b hb)⟩
theorem Mv.then_ (h : Mv k w k1 w1) (hb : Below w1.heap.size w1 w') : Mv k w k1 w' := h.trans (Mv.of k1 hb)
theorem Mv.no (h : Mv k w k' w') {b : Nat} (hb : b < w.heap.size) (hk : k b = 0) : k' b = 0 := (h.eq b hb).trans hk
theorem Mv.old (h : Mv k w k' w') {b : Nat} {o : Obj} (hb : w.heap[b]? = some o) (hk : k b = 0) : w'.heap[b]? = some o := h.tn.old hb fun hn => hn hk
theorem DocM.tn (h : DocM w D pa tx ls mk k N d m) (ht : Tn T w w') (hT : ∀ b, k b ≠ 0 → ¬ T b) : DocM w' D pa tx ls mk k N d m := by
  obtain ⟨t, h1, h2⟩ := h.tab
  obtain ⟨lb, h3, h4⟩ := h.les
  obtain ⟨mb, h5, h6⟩ := h.mks
  have hz : ∀ {b c : Nat}, k b = c → c ≠ 0 → ¬ T b := fun e hc => hT _ (by rw [e]; exact hc)
  exact ⟨ht.old h.blk (hz h.kD (by decide)), h.past.tn ht (fun b hb => hz hb (by decide)) (hz h.kp (by decide)), ⟨t, h1.keep ht fun b hb => hz hb (by decide), h2⟩,
    ⟨lb, h3.tn ht (hz h.kl (by decide)) (hz h4 (by decide)), h4⟩, ⟨mb, h5.tn ht (hz h.km (by decide)) (hz h6 (by decide)), h6⟩, h.kD, h.kp, h.kl, h.km, fun b hb => Nat.lt_of_lt_of_le (h.lt b hb) ht.size⟩
theorem DocM.then_ (h : DocM w D pa tx ls mk k N d m) (hb : Below w.heap.size w w') : DocM w' D pa tx ls mk k N d m := h.tn (Tn.of (fun _ => False) hb) fun _ _ h => h
theorem DocM.cells (h : DocM w D pa tx ls mk k N d m) : w.cell? ⟨D, 0, none⟩ = some (.int .u64 (d.t : Int)) ∧ w.cell? ⟨D, 1, none⟩ = some (.pointer (some ⟨pa, 0, none⟩)) ∧ w.cell? ⟨D, 2, none⟩ = some (.pointer (some ⟨tx, 0, none⟩)) ∧ w.cell? ⟨D, 3, none⟩ = some (.pointer (some ⟨ls, 0, none⟩)) ∧ w.cell? ⟨D, 4, none⟩ = some (.pointer (some ⟨mk, 0, none⟩)) :=
  ⟨by rw [cell_of_row w D 0 _ _ _ h.blk]; rfl, by rw [cell_of_row w D 1 _ _ _ h.blk]; rfl, by rw [cell_of_row w D 2 _ _ _ h.blk]; rfl, by rw [cell_of_row w D 3 _ _ _ h.blk]; rfl, by rw [cell_of_row w D 4 _ _ _ h.blk]; rfl⟩
theorem DocM.frozen (h : DocM w D pa tx ls mk k N d m) (j : Nat) : w.frozen? ⟨D, j, none⟩ = false := frozen_of_row w D j _ _ h.blk
theorem DocM.setL (h : DocM w D pa tx ls mk k N d m) {L' : Pl.Mks} {lb : Nat} (h4 : k lb = 6) (h7 : Ls.LeasesW w' ls lb L') (ht : Tn (fun i => i = lb) w w') : DocM w' D pa tx ls mk k N { d with L := L' } m ∧ Mv k w k w' := by
  obtain ⟨t, h1, h2⟩ := h.tab
  obtain ⟨mb, h5, h6⟩ := h.mks
  have hz : ∀ {b c : Nat}, k b = c → c ≠ 6 → ¬ b = lb := fun e hc he => hc (by rw [← e, he, h4])
  exact ⟨⟨ht.old h.blk (hz h.kD (by decide)), h.past.tn ht (fun b hb => hz hb (by decide)) (hz h.kp (by decide)), ⟨t, h1.keep ht fun b hb => hz hb (by decide), h2⟩,
    ⟨lb, h7, h4⟩, ⟨mb, h5.tn ht (hz h.km (by decide)) (hz h6 (by decide)), h6⟩, h.kD, h.kp, h.kl, h.km, fun b hb => Nat.lt_of_lt_of_le (h.lt b hb) ht.size⟩,
    ht.more fun b _ e => by rw [e, h4]; decide, fun _ _ => rfl⟩
theorem DocM.setM (h : DocM w D pa tx ls mk k N d m) {M' : Pl.Mks} {mb : Nat} (h6 : k mb = 8) (h7 : MarksW w' mk mb N M') (ht : Tn (fun i => i = mb) w w') : DocM w' D pa tx ls mk k N { d with M := M' } m ∧ Mv k w k w' := by
  obtain ⟨t, h1, h2⟩ := h.tab
  obtain ⟨lb, h3, h4⟩ := h.les
  have hz : ∀ {b c : Nat}, k b = c → c ≠ 8 → ¬ b = mb := fun e hc he => hc (by rw [← e, he, h6])
  exact ⟨⟨ht.old h.blk (hz h.kD (by decide)), h.past.tn ht (fun b hb => hz hb (by decide)) (hz h.kp (by decide)), ⟨t, h1.keep ht fun b hb => hz hb (by decide), h2⟩,
    ⟨lb, h3.tn ht (hz h.kl (by decide)) (hz h4 (by decide)), h4⟩, ⟨mb, h7, h6⟩, h.kD, h.kp, h.kl, h.km, fun b hb => Nat.lt_of_lt_of_le (h.lt b hb) ht.size⟩,
    ht.more fun b _ e => by rw [e, h6]; decide, fun _ _ => rfl⟩
theorem DocM.setT (h : DocM w D pa tx ls mk k N d m) (t' : Nat) : DocM (w.setCell ⟨D, 0, none⟩ (.int .u64 (t' : Int))) D pa tx ls mk k N { d with t := t' } m ∧ Mv k w k (w.setCell ⟨D, 0, none⟩ (.int .u64 (t' : Int))) := by
  obtain ⟨t, h1, h2⟩ := h.tab
  obtain ⟨lb, h3, h4⟩ := h.les
  obtain ⟨mb, h5, h6⟩ := h.mks
  have ht : Tn (fun b => b = D) w (w.setCell ⟨D, 0, none⟩ (.int .u64 (t' : Int))) := (Tn.refl (fun b => b = D) w).set_ (p := ⟨D, 0, none⟩) (Or.inr rfl) _
  have hz : ∀ {b c : Nat}, k b = c → c ≠ 1 → ¬ b = D := fun e hc he => hc (by rw [← e, he, h.kD])
  exact ⟨⟨blk_set h.blk _, h.past.tn ht (fun b hb => hz hb (by decide)) (hz h.kp (by decide)), ⟨t, h1.keep ht fun b hb => hz hb (by decide), h2⟩,
    ⟨lb, h3.tn ht (hz h.kl (by decide)) (hz h4 (by decide)), h4⟩, ⟨mb, h5.tn ht (hz h.km (by decide)) (hz h6 (by decide)), h6⟩, h.kD, h.kp, h.kl, h.km, fun b hb => Nat.lt_of_lt_of_le (h.lt b hb) ht.size⟩,
    ht.more fun b _ e => by rw [e, h.kD]; decide, fun _ _ => rfl⟩
noncomputable def paint_ (k : Nat → Nat) (X : Nat → Prop) (c : Nat) : Nat → Nat := fun b => @ite _ (X b) (Classical.propDecidable _) c (k b)
theorem paint_on {X : Nat → Prop} {c b : Nat} (h : X b) : paint_ k X c b = c := if_pos h
theorem paint_off {X : Nat → Prop} {c b : Nat} (h : ¬ X b) : paint_ k X c b = k b := if_neg h
theorem paint_is {X : Nat → Prop} {c b e : Nat} (h : k b = e) (hX : ¬ X b) : paint_ k X c b = e := (paint_off hX).trans h
theorem paint_lt {X : Nat → Prop} {c : Nat} (h : ∀ b, k b ≠ 0 → b < w.heap.size) (hs : w.heap.size ≤ w'.heap.size) (hX : ∀ b, X b → b < w'.heap.size) : ∀ b, paint_ k X c b ≠ 0 → b < w'.heap.size := fun b hb => by
  by_cases hx : X b
  · exact hX b hx
  · rw [paint_off hx] at hb; exact Nat.lt_of_lt_of_le (h b hb) hs
theorem DocM.setP (h : DocM w D pa tx ls mk k N d m) {fr' : Nat} {n' : Int} {P' : List Pl.Op} (hp : PastAt w' pa (fun b => k b = 2 ∨ w.heap.size ≤ b) fr' n' P') (ht : Tn (fun b => b = pa) w w') :
    ∃ k', DocM w' D pa tx ls mk k' N { d with fr := fr', n := n', P := P' } m ∧ Mv k w k' w' := by
  obtain ⟨t, h1, h2⟩ := h.tab
  obtain ⟨lb, h3, h4⟩ := h.les
  obtain ⟨mb, h5, h6⟩ := h.mks
  have hz : ∀ {b c : Nat}, k b = c → c ≠ 4 → ¬ b = pa := fun e hc he => hc (by rw [← e, he, h.kp])
  have hX : ∀ {b c : Nat}, k b = c → c ≠ 0 → ¬ (w.heap.size ≤ b ∧ b < w'.heap.size) := fun {b c} e hc hx => by have := h.lt b (by rw [e]; exact hc); omega
  refine ⟨paint_ k (fun b => w.heap.size ≤ b ∧ b < w'.heap.size) 2, ⟨ht.old h.blk (hz h.kD (by decide)), hp.old.more (fun b hb => ?_) (by rw [paint_is h.kp (hX h.kp (by decide))]; decide), ⟨t, (h1.keep ht fun b hb => hz hb (by decide)).wider (fun b hb => paint_is hb (hX hb (by decide))) (fun b hb => ?_), h2⟩,
    ⟨lb, h3.tn ht (hz h.kl (by decide)) (hz h4 (by decide)), paint_is h4 (hX h4 (by decide))⟩, ⟨mb, h5.tn ht (hz h.km (by decide)) (hz h6 (by decide)), paint_is h6 (hX h6 (by decide))⟩,
    paint_is h.kD (hX h.kD (by decide)), paint_is h.kp (hX h.kp (by decide)), paint_is h.kl (hX h.kl (by decide)), paint_is h.km (hX h.km (by decide)), paint_lt h.lt ht.size fun b hb => hb.2⟩,
    ht.more fun b _ e => by rw [e, h.kp]; decide, fun b hb => paint_off fun hx => by omega⟩
  · by_cases hx : w.heap.size ≤ b
    · exact paint_on ⟨hx, hb.2⟩
    · exact paint_is (hb.1.resolve_right hx) fun h => hx h.1
  · by_cases hx : w.heap.size ≤ b ∧ b < w'.heap.size
    · exact hx.2
    · have hb' : paint_ k (fun b => w.heap.size ≤ b ∧ b < w'.heap.size) 2 b = 3 := hb
      rw [paint_off hx] at hb'
      exact Nat.lt_of_lt_of_le (h.lt b (by rw [hb']; decide)) ht.size
theorem DocM.setC (h : DocM w D pa tx ls mk k N d m) {cs' : List Int} {m' : Nat} {t' : Tbl.Tp.Tab} (hs : Tbl.Did w (fun b => k b = 3) tx t' m' w') (h8 : t'.text = cs') :
    ∃ k', DocM w' D pa tx ls mk k' N { d with cs := cs' } m' ∧ Mv k w k' w' := by
  obtain ⟨lb, h3, h4⟩ := h.les
  obtain ⟨mb, h5, h6⟩ := h.mks
  obtain ⟨F', h7, ht, hF1, hF2⟩ := hs
  have hz : ∀ {b c : Nat}, k b = c → c ≠ 3 → ¬ k b = 3 := fun e hc he => hc (by rw [← e, he])
  have hX : ∀ {b c : Nat}, k b = c → c ≠ 0 → ¬ (F' b ∧ w.heap.size ≤ b) := fun {b c} e hc hx => by have := h.lt b (by rw [e]; exact hc); omega
  refine ⟨paint_ k (fun b => F' b ∧ w.heap.size ≤ b) 3, ⟨ht.old h.blk (hz h.kD (by decide)), (h.past.tn ht (fun b hb => hz hb (by decide)) (hz h.kp (by decide))).more (fun b hb => paint_is hb (hX hb (by decide))) (by rw [paint_is h.kp (hX h.kp (by decide))]; decide), ⟨t', h7.wider (fun b hb => ?_) (fun b hb => ?_), h8⟩,
    ⟨lb, h3.tn ht (hz h.kl (by decide)) (hz h4 (by decide)), paint_is h4 (hX h4 (by decide))⟩, ⟨mb, h5.tn ht (hz h.km (by decide)) (hz h6 (by decide)), paint_is h6 (hX h6 (by decide))⟩,
    paint_is h.kD (hX h.kD (by decide)), paint_is h.kp (hX h.kp (by decide)), paint_is h.kl (hX h.kl (by decide)), paint_is h.km (hX h.km (by decide)), paint_lt h.lt ht.size fun b hb => h7.lt b hb.1⟩,
    ht.more fun b _ e => by rw [e]; decide, fun b hb => paint_off fun hx => by omega⟩
  · by_cases hx : w.heap.size ≤ b
    · exact paint_on ⟨hb, hx⟩
    · exact paint_is ((hF1 b hb).resolve_right hx) fun h => hx h.2
  · by_cases hx : F' b ∧ w.heap.size ≤ b
    · exact h7.lt b hx.1
    · have hb' : paint_ k (fun b => F' b ∧ w.heap.size ≤ b) 3 b = 3 := hb
      rw [paint_off hx] at hb'
      exact Nat.lt_of_lt_of_le (h.lt b (by rw [hb']; decide)) ht.size
theorem DocM.setG (h : DocM w D pa tx ls mk k N d m) {N' : Int} {M' : Pl.Mks} {b' : Nat} (hb0 : w.heap.size ≤ b') (h7 : MarksW w' mk b' N' M') (ht : Tn (fun i => i = mk) w w') :
    ∃ k', DocM w' D pa tx ls mk k' N' { d with M := M' } m ∧ Mv k w k' w' := by
  obtain ⟨t, h1, h2⟩ := h.tab
  obtain ⟨lb, h3, h4⟩ := h.les
  have hz : ∀ {b c : Nat}, k b = c → c ≠ 7 → ¬ b = mk := fun e hc he => hc (by rw [← e, he, h.km])
  have hX : ∀ {b c : Nat}, k b = c → c ≠ 0 → ¬ b = b' := fun {b c} e hc hx => by have := h.lt b (by rw [e]; exact hc); omega
  have hlt : b' < w'.heap.size := h7.own.lt
  refine ⟨paint_ k (fun b => b = b') 8, ⟨ht.old h.blk (hz h.kD (by decide)), (h.past.tn ht (fun b hb => hz hb (by decide)) (hz h.kp (by decide))).more (fun b hb => paint_is hb (hX hb (by decide))) (by rw [paint_is h.kp (hX h.kp (by decide))]; decide), ⟨t, (h1.keep ht fun b hb => hz hb (by decide)).wider (fun b hb => paint_is hb (hX hb (by decide))) (fun b hb => ?_), h2⟩,
    ⟨lb, h3.tn ht (hz h.kl (by decide)) (hz h4 (by decide)), paint_is h4 (hX h4 (by decide))⟩, ⟨b', h7, paint_on rfl⟩,
    paint_is h.kD (hX h.kD (by decide)), paint_is h.kp (hX h.kp (by decide)), paint_is h.kl (hX h.kl (by decide)), paint_is h.km (hX h.km (by decide)), paint_lt h.lt ht.size fun b hb => by rw [hb]; exact hlt⟩,
    ht.more fun b _ e => by rw [e, h.km]; decide, fun b hb => paint_off fun hx => by omega⟩
  have hb' : paint_ k (fun b => b = b') 8 b = 3 := hb
  by_cases hx : b = b'
  · have := (paint_on (k := k) (X := fun b => b = b') (c := 8) hx).symm.trans hb'; cases this
  · replace hb' := (paint_off (k := k) (X := fun b => b = b') (c := 8) hx).symm.trans hb'
    exact Nat.lt_of_lt_of_le (h.lt b (by rw [hb']; decide)) ht.size
end
end Go.Proofs.YtldmnkakpmplnaaGreat
namespace Go.Proofs.YtldmnkakpmplnaaGreat
open Go.RowKit
open Pl (Un)
def encSe (s : Int × Int × Int) : List Value := [.int .u32 s.1, .int .i64 s.2.1, .int .u64 s.2.2]
def aval (e rev : Int) (b : Bool) (A : Option Addr) (n c : Nat) (A2 : Option Addr) (n2 c2 : Nat) (A3 : Option Addr) (n3 c3 : Nat) : Value := .agg #[.int .i64 e, .int .u32 0, .int .u64 rev, .bool b, .slice A n c, .slice A2 n2 c2, .slice A3 n3 c3]
structure AnR (w : World) (F : Nat → Prop) (A : Option Addr) (n c : Nat) (A2 : Option Addr) (n2 c2 : Nat) (A3 : Option Addr) (n3 c3 : Nat) (a : Pl.An) : Prop where
  text : Crs w w.heap.size A n c a.text ∧ In F A n
  ops : ∃ L, OpsF w F A2 n2 c2 L ∧ L.map OpV.op = a.ops
  seats : Rws encSe w w.heap.size A3 n3 c3 a.seats ∧ In F A3 n3
def AnV (w : World) (F : Nat → Prop) (v : Value) (a : Pl.An) : Prop := ∃ A n c A2 n2 c2 A3 n3 c3, v = aval a.e (a.rev : Int) a.whole A n c A2 n2 c2 A3 n3 c3 ∧ AnR w F A n c A2 n2 c2 A3 n3 c3 a
def AnAt (w : World) (p : Nat) (e rev : Int) (b : Bool) (A : Option Addr) (n c : Nat) (A2 : Option Addr) (n2 c2 : Nat) (A3 : Option Addr) (n3 c3 : Nat) : Prop := w.heap[p]? = some (.cells #[.int .i64 e, .int .u32 0, .int .u64 rev, .bool b, .slice A n c, .slice A2 n2 c2, .slice A3 n3 c3] 37 (0, 0))
def AnB (w : World) (al : Nat) (F : Nat → Prop) (a : Pl.An) : Prop := ∃ A n c A2 n2 c2 A3 n3 c3, AnAt w al 0 0 a.whole A n c A2 n2 c2 A3 n3 c3 ∧ AnR w F A n c A2 n2 c2 A3 n3 c3 a
section
variable {w w' : World} {p : Nat} {e rev : Int} {b : Bool} {A : Option Addr} {n c : Nat} {A2 : Option Addr} {n2 c2 : Nat} {A3 : Option Addr} {n3 c3 : Nat}
theorem AnAt.cells (h : AnAt w p e rev b A n c A2 n2 c2 A3 n3 c3) : w.cell? ⟨p, 0, none⟩ = some (.int .i64 e) ∧ w.cell? ⟨p, 1, none⟩ = some (.int .u32 0) ∧ w.cell? ⟨p, 2, none⟩ = some (.int .u64 rev) ∧ w.cell? ⟨p, 3, none⟩ = some (.bool b) ∧ w.cell? ⟨p, 4, none⟩ = some (.slice A n c) ∧ w.cell? ⟨p, 5, none⟩ = some (.slice A2 n2 c2) ∧ w.cell? ⟨p, 6, none⟩ = some (.slice A3 n3 c3) := by
  unfold AnAt at h
  refine ⟨?_, ?_, ?_, ?_, ?_, ?_, ?_⟩ <;> (rw [cell_of_row w p _ _ _ _ h]; rfl)
theorem AnAt.lt (h : AnAt w p e rev b A n c A2 n2 c2 A3 n3 c3) : p < w.heap.size := lt_of_block h
theorem AnAt.frozen (h : AnAt w p e rev b A n c A2 n2 c2 A3 n3 c3) (j : Nat) : w.frozen? ⟨p, j, none⟩ = false := frozen_of_row w p j _ _ h
theorem AnAt.tn {T : Nat → Prop} (h : AnAt w p e rev b A n c A2 n2 c2 A3 n3 c3) (ht : Tn T w w') (hT : ¬ T p) : AnAt w' p e rev b A n c A2 n2 c2 A3 n3 c3 := ht.old h hT
theorem AnAt.then_ (h : AnAt w p e rev b A n c A2 n2 c2 A3 n3 c3) (hb : Below w.heap.size w w') : AnAt w' p e rev b A n c A2 n2 c2 A3 n3 c3 := below_old hb h h.lt
def seven (w : World) (p : Nat) (v0 v1 v2 v3 v4 v5 v6 : Value) : World := ((((((w.setCell ⟨p, 0, none⟩ v0).setCell ⟨p, 1, none⟩ v1).setCell ⟨p, 2, none⟩ v2).setCell ⟨p, 3, none⟩ v3).setCell ⟨p, 4, none⟩ v4).setCell ⟨p, 5, none⟩ v5).setCell ⟨p, 6, none⟩ v6
theorem tn_seven (w : World) (p : Nat) (v0 v1 v2 v3 v4 v5 v6 : Value) : Tn (fun b => b = p) w (seven w p v0 v1 v2 v3 v4 v5 v6) := by
  have h0 := (Tn.refl (fun b => b = p) w).set_ (p := ⟨p, 0, none⟩) (Or.inr rfl) v0
  have h1 := h0.set_ (p := ⟨p, 1, none⟩) (Or.inr rfl) v1
  have h2 := h1.set_ (p := ⟨p, 2, none⟩) (Or.inr rfl) v2
  have h3 := h2.set_ (p := ⟨p, 3, none⟩) (Or.inr rfl) v3
  have h4 := h3.set_ (p := ⟨p, 4, none⟩) (Or.inr rfl) v4
  have h5 := h4.set_ (p := ⟨p, 5, none⟩) (Or.inr rfl) v5
  exact h5.set_ (p := ⟨p, 6, none⟩) (Or.inr rfl) v6
theorem AnAt.sets (h : AnAt w p e rev b A n c A2 n2 c2 A3 n3 c3) (e' rev' : Int) (b' : Bool) (A' : Option Addr) (n' c' : Nat) (A2' : Option Addr) (n2' c2' : Nat) (A3' : Option Addr) (n3' c3' : Nat) :
    AnAt (seven w p (.int .i64 e') (.int .u32 0) (.int .u64 rev') (.bool b') (.slice A' n' c') (.slice A2' n2' c2') (.slice A3' n3' c3')) p e' rev' b' A' n' c' A2' n2' c2' A3' n3' c3' :=
  by
  have h0 := blk_set (i := 0) h (.int .i64 e')
  have h1 := blk_set (i := 1) h0 (.int .u32 0)
  have h2 := blk_set (i := 2) h1 (.int .u64 rev')
  have h3 := blk_set (i := 3) h2 (.bool b')
  have h4 := blk_set (i := 4) h3 (.slice A' n' c')
  have h5 := blk_set (i := 5) h4 (.slice A2' n2' c2')
  have h6 := blk_set (i := 6) h5 (.slice A3' n3' c3')
  clear h h0 h1 h2 h3 h4 h5
  simp only [List.setIfInBounds_toArray, List.set_cons_succ, List.set_cons_zero] at h6
  exact h6
theorem results_an {fn : Func} {t : Tmp} {tmps : Array Value} {Z : World} (h : fn.results = #[.cell t 37]) (ha : tmps.getD t undef = .pointer (some ⟨p, 0, none⟩)) (hZ : AnAt Z p e rev b A n c A2 n2 c2 A3 n3 c3) :
    (results fn tmps).run Tryz.prog Z = .ok (aval e rev b A n c A2 n2 c2 A3 n3 c3) Z := by
  obtain ⟨c0, c1, c2, c3, c4, c5, c6⟩ := hZ.cells
  have ha' : tmps[t]?.getD undef = .pointer (some ⟨p, 0, none⟩) := by simpa using ha
  simp [results, h, ha', go_sem, c0, c1, c2, c3, c4, c5, c6, aval]
end
section
variable {w w' : World} {F G T : Nat → Prop} {A : Option Addr} {n c : Nat} {A2 : Option Addr} {n2 c2 : Nat} {A3 : Option Addr} {n3 c3 : Nat} {a : Pl.An} {v : Value} {al : Nat}
theorem AnR.tn (h : AnR w F A n c A2 n2 c2 A3 n3 c3 a) (ht : Tn T w w') (hd : ∀ b, F b → ¬ T b) : AnR w' F A n c A2 n2 c2 A3 n3 c3 a := by
  obtain ⟨L, h2, h3⟩ := h.ops
  refine ⟨⟨?_, h.text.2⟩, ⟨L, h2.tn ht hd, h3⟩, ⟨Rws.tn h.seats.1 ht (h.seats.2.apart hd), h.seats.2⟩⟩
  have h1 := h.text.1
  exact ⟨h1.1, h1.2.1, h1.2.2.1, h1.2.2.2.1, h1.2.2.2.2.1, fun hn => by
    obtain ⟨g, o, e, hg, hc⟩ := h1.2.2.2.2.2 hn
    exact ⟨g, o, e, Nat.lt_of_lt_of_le hg ht.size, fun i hi => (ht.cell (p := ⟨g, o + i, none⟩) hg (hd g (h.text.2 hn ⟨g, o, none⟩ e))).trans (hc i hi)⟩⟩
theorem AnR.more (h : AnR w F A n c A2 n2 c2 A3 n3 c3 a) (hg : ∀ b, F b → G b) : AnR w G A n c A2 n2 c2 A3 n3 c3 a := by
  obtain ⟨L, h2, h3⟩ := h.ops
  exact ⟨⟨h.text.1, h.text.2.more hg⟩, ⟨L, h2.more hg, h3⟩, ⟨h.seats.1, h.seats.2.more hg⟩⟩
theorem AnR.old (h : AnR w F A n c A2 n2 c2 A3 n3 c3 a) : AnR w (fun b => F b ∧ b < w.heap.size) A n c A2 n2 c2 A3 n3 c3 a := by
  obtain ⟨L, h2, h3⟩ := h.ops
  refine ⟨⟨h.text.1, fun h0 ad e => ⟨h.text.2 h0 ad e, ?_⟩⟩, ⟨L, ⟨h2.1, fun h0 ad e => ⟨h2.2.1 h0 ad e, Rws.in_ h2.1 h0 ad e⟩, fun o ho => ⟨(h2.2.2 o ho).1, fun h0 ad e => ⟨(h2.2.2 o ho).2 h0 ad e, Rws.in_ (h2.2.2 o ho).1 h0 ad e⟩⟩⟩, h3⟩, ⟨h.seats.1, fun h0 ad e => ⟨h.seats.2 h0 ad e, Rws.in_ h.seats.1 h0 ad e⟩⟩⟩
  obtain ⟨g, o, e2, hg, _⟩ := h.text.1.2.2.2.2.2 h0
  rw [e] at e2; cases e2; exact hg
theorem AnR.none_ (w : World) (F : Nat → Prop) (e : Int) (rev : Nat) (b : Bool) : AnR w F none 0 0 none 0 0 none 0 0 ⟨e, rev, b, [], [], []⟩ :=
  ⟨⟨Crs.none_ _ _, fun h => absurd h (by decide)⟩, ⟨[], OpsF.none_ _ _, rfl⟩, ⟨Rws.none_ _ _ _, fun h => absurd h (by decide)⟩⟩
theorem AnV.fails (w : World) (F : Nat → Prop) (e : Int) : AnV w F (aval e 0 false none 0 0 none 0 0 none 0 0) (Pl.fails e) := ⟨none, 0, 0, none, 0, 0, none, 0, 0, rfl, AnR.none_ _ _ _ _ _⟩
theorem AnV.tn (h : AnV w F v a) (ht : Tn T w w') (hd : ∀ b, F b → ¬ T b) : AnV w' F v a := by
  obtain ⟨A, n, c, A2, n2, c2, A3, n3, c3, e, h⟩ := h
  exact ⟨A, n, c, A2, n2, c2, A3, n3, c3, e, h.tn ht hd⟩
theorem AnB.tn (h : AnB w al F a) (ht : Tn T w w') (hd : ∀ b, F b → ¬ T b) (ha : ¬ T al) : AnB w' al F a := by
  obtain ⟨A, n, c, A2, n2, c2, A3, n3, c3, e, h⟩ := h
  exact ⟨A, n, c, A2, n2, c2, A3, n3, c3, e.tn ht ha, h.tn ht hd⟩
end
def DocR (w : World) (D pa tx ls mk : Nat) (k : Nat → Nat) (m : Nat) (dd : Pl.Dc × Pl.An) (e : Ending) (w' : World) : Prop :=
  ∃ k' m' v, e = .returned v ∧ DocM w' D pa tx ls mk k' dd.1.cs.length dd.1 m' ∧ m' ≤ m + 256 ∧ Mv k w k' w' ∧ AnV w' (fun b => w.heap.size ≤ b ∧ k' b = 0) v dd.2
def OwnD (w : World) (D pa tx ls mk al : Nat) (k : Nat → Nat) (m : Nat) (dd : Pl.Dc × Pl.An) (e : Ending) (w' : World) : Prop :=
  ∃ k' m', e = .returned (.int .i64 dd.2.e) ∧ DocM w' D pa tx ls mk k' dd.1.cs.length dd.1 m' ∧ m' ≤ m + 256 ∧ Tn (fun b => k b ≠ 0 ∨ b = al) w w' ∧ (∀ b, b < w.heap.size → k' b = k b) ∧ (dd.2.e = 0 → AnB w' al (fun b => w.heap.size ≤ b ∧ k' b = 0) dd.2)
section
variable {w w' : World} {D pa tx ls mk m : Nat} {k : Nat → Nat} {N : Int} {d : Pl.Dc}
theorem DocM.drew (h : DocM w D pa tx ls mk k N d m) : DocM w.drew D pa tx ls mk k N d m := h.then_ (below_drawn (Below.refl _ _))
set_option maxHeartbeats 400000 in
theorem none_doc (h : DocM w D pa tx ls mk k N d m) :
    Calls Tryz.prog 61 #[.pointer (some ⟨D, 0, none⟩)] w fun e w' => e = .returned (.bool false) ∧ w' = w := by
  obtain ⟨c0, c1, c2, c3, c4⟩ := h.cells
  clear h
  go_enter Tryz.func61, Tryz.ntmps61
  go_wp2_with fail
  go_ret
  exact ⟨rfl, rfl⟩
set_option maxHeartbeats 400000 in
theorem rev_doc (h : DocM w D pa tx ls mk k N d m) :
    Calls Tryz.prog 18 #[.pointer (some ⟨D, 0, none⟩)] w fun e w' => e = .returned (.int .u64 (d.now : Int)) ∧ w' = w := by
  have HN := Lib.hid (none_doc h)
  obtain ⟨c0, c1, c2, c3, c4⟩ := h.cells
  have HP := Lib.hid (now_past h.past)
  clear h
  go_enter Tryz.func18, Tryz.ntmps18
  go_wp2_with fail
  refine HN.out.mono ?_
  rintro e w' ⟨rfl, hw⟩
  rw [hw]; clear hw w'
  go_wp2_with fail
  refine HP.out.mono ?_
  rintro e w' ⟨rfl, hw⟩
  rw [hw]; clear hw w'
  go_wp2_with fail
  go_ret
  exact ⟨rfl, rfl⟩
set_option maxHeartbeats 400000 in
theorem from_doc (h : DocM w D pa tx ls mk k N d m) :
    Calls Tryz.prog 27 #[.pointer (some ⟨D, 0, none⟩)] w fun e w' => e = .returned (.int .u64 (d.fr : Int)) ∧ w' = w := by
  have HN := Lib.hid (none_doc h)
  obtain ⟨c0, c1, c2, c3, c4⟩ := h.cells
  have HP := Lib.hid (from_past h.past)
  clear h
  go_enter Tryz.func27, Tryz.ntmps27
  go_wp2_with fail
  refine HN.out.mono ?_
  rintro e w' ⟨rfl, hw⟩
  rw [hw]; clear hw w'
  go_wp2_with fail
  refine HP.out.mono ?_
  rintro e w' ⟨rfl, hw⟩
  rw [hw]; clear hw w'
  go_wp2_with fail
  go_ret
  exact ⟨rfl, rfl⟩
set_option maxHeartbeats 400000 in
theorem text_doc (h : DocM w D pa tx ls mk k N d m) :
    Calls Tryz.prog 25 #[.pointer (some ⟨D, 0, none⟩)] w (RetC w d.cs) := by
  have HN := Lib.hid (none_doc h)
  obtain ⟨c0, c1, c2, c3, c4⟩ := h.cells
  obtain ⟨t, h1, h2⟩ := h.tab
  have HP := Lib.hid (Tbl.text_tb h1)
  rw [h2] at HP
  clear h h1 h2
  go_enter Tryz.func25, Tryz.ntmps25
  go_wp2_with fail
  refine HN.out.mono ?_
  rintro e w' ⟨rfl, hw⟩
  rw [hw]; clear hw w'
  go_wp2_with fail
  refine HP.out.mono ?_
  rintro e w' ⟨A, c, rfl, ho, hb⟩
  have HB := Lib.hid (And.intro ho hb)
  clear ho hb
  go_wp2_with fail
  go_ret
  exact ⟨A, c, rfl, HB.out.1, HB.out.2⟩
end
end Go.Proofs.YtldmnkakpmplnaaGreat
