/-
  The laws' own tables, more: Len, Text, Pieces, Read, Copy of 'Has'; a call of the list laid in memory. Conditions: the table is one; the buffers have at most 2^30 code points.
-/
import Derived.Test.YtogmddneimhpeaaPceQ
import Derived.Test.YtogmddneimhpeaaPceT
namespace Go.Proofs.Ytogmddneimhpeaa
open Go.RowKit
open Pl (Pc Plc Tab)
section
variable {base : Nat} {w0 w w' : World} {p : Nat} {t t' : Tab} {m m' : Nat}
theorem len_has (h : Has base w0 p t m w) : Calls Try.prog 24 #[.pointer (some ⟨p, 0, none⟩)] w fun e w' => e = .returned (.int .i64 (t.L.length : Int)) ∧ Below w.heap.size w w' := by
  obtain ⟨F, h1, _⟩ := h
  exact len_tb h1
theorem text_has (h : Has base w0 p t m w) : Calls Try.prog 25 #[.pointer (some ⟨p, 0, none⟩)] w (RetC w t.text) := by
  obtain ⟨F, h1, _⟩ := h
  exact text_tb h1
theorem pieces_has (h : Has base w0 p t m w) : Calls Try.prog 27 #[.pointer (some ⟨p, 0, none⟩)] w (RetP w (Pl.group t.L)) := by
  obtain ⟨F, h1, _⟩ := h
  exact pieces_tb h1
theorem read_has (h : Has base w0 p t m w) (pos n : Int) (hpos : Pl.I pos) : Calls Try.prog 17 #[.pointer (some ⟨p, 0, none⟩), .int .i64 pos, .int .i64 n] w (RetRead w (Pl.readT t pos n) (Pl.reachE t.L.length pos n)) := by
  obtain ⟨F, h1, _⟩ := h
  exact read_tb h1 pos n hpos
theorem Has.len (h : Has base w0 p t m w) : t.L.length ≤ m := h.ok.1.len
end
theorem OwnC.then_ {w w' : World} {base : Nat} {v : Value} {cs : List Int} (h : OwnC w base v cs) (hb : Below w.heap.size w w') : OwnC w' base v cs := h.below hb fun g hg => (h.lt g hg).2
theorem Pl.reach0 {L : Nat} {pos n : Int} (h1 : 0 ≤ pos) (h2 : 0 ≤ n) (h3 : n ≤ (L : Int) - pos) : Pl.reachE L pos n = 0 := by
  unfold Pl.reachE; rw [if_neg (by omega)]
theorem Pl.reach30 {L : Nat} {pos n : Int} (h : pos < 0 ∨ n < 0 ∨ n > (L : Int) - pos) : Pl.reachE L pos n = 30 := by
  unfold Pl.reachE; rw [if_pos h]
theorem Pl.read0 {t : Tab} {k n : Nat} (h : k + n ≤ t.L.length) : Pl.readT t (k : Int) (n : Int) = (t.text.drop k).take n := by
  unfold Pl.readT
  rw [if_pos (Pl.reach0 (by omega) (by omega) (by omega)), Int.toNat_natCast, Int.toNat_natCast]
/-- a number of 64 bits, counted round -/
theorem Pl.round (pos : Int) (n : Nat) (h0 : 0 < n) (hn : n ≤ 9223372036854775807) : ∃ U q : Nat, IntKind.u64.wrap pos = (U : Int) ∧ IntKind.u64.wrap (n : Int) = (n : Int) ∧ (U : Int) % (n : Int) = (q : Int) ∧ q < n ∧ IntKind.i64.wrap (q : Int) = (q : Int) := by
  obtain ⟨U, hU⟩ : ∃ U, U = (pos % 18446744073709551616).toNat := ⟨_, rfl⟩
  obtain ⟨q, hq⟩ : ∃ q, q = U % n := ⟨_, rfl⟩
  have hlt := Nat.mod_lt U h0
  rw [← hq] at hlt
  refine ⟨U, q, ?_, ?_, ?_, hlt, ?_⟩
  · rw [IntKind.wrap_u64]; omega
  · rw [IntKind.wrap_u64]; omega
  · rw [hq, Int.natCast_emod]
  · clear hq
    simp [IntKind.wrap, IntKind.bits, IntKind.signed]; omega
/-- a call of the list, laid in memory of its own -/
theorem act_new (w : World) (what pos n : Int) (A : Option Addr) (m c : Nat) : ∃ V, V = w.alloc (.cells #[.int .i64 what, .int .i64 pos, .int .i64 n, .slice A m c] 31) ∧ Below w.heap.size w V ∧
    V.heap[w.heap.size]? = some (.cells #[.int .i64 what, .int .i64 pos, .int .i64 n, .slice A m c] 31 (0, 0)) :=
  ⟨_, rfl, below_alloc (Below.refl _ w) _, heap_alloc_new w _⟩
end Go.Proofs.Ytogmddneimhpeaa
