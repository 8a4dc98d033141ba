/-
  Contracts of bytes.Equal; Put behind nothing; bytes that are written out. Conditions: those that each states.
-/
import Derived.Test.YtpakbpkcacdpbaaWNumC
import Derived.Test.YtpakbpkcacdpbaaWNumD
namespace Go.Proofs.Ytpakbpkcacdpbaa
open Go.RowKit

set_option maxRecDepth 100000 in
set_option maxHeartbeats 400000 in
theorem eq_any (A A' : Option Addr) (n c m c' : Nat) (bs cs : List Nat) (w : World) (h1 : Bys w w.heap.size A n c bs) (h2 : Bys w w.heap.size A' m c' cs) :
    Calls Try.prog 19 #[.slice A n c, .slice A' m c'] w fun e w' => e = .returned (.bool (decide (bs = cs))) ∧ w = w' := by
  have g1 := h1.bytesIn.convert (P := Try.prog) (by rw [ints, List.length_map, h1.len]) c 26 5 9 Try.underlying26 Try.underlying5 Try.underlying9
  have g2 := h2.bytesIn.convert (P := Try.prog) (by rw [ints, List.length_map, h2.len]) c' 26 5 9 Try.underlying26 Try.underlying5 Try.underlying9
  have hiff : strOfNums (ints bs) = strOfNums (ints cs) ↔ bs = cs := ⟨bytes_inj h1.oct h2.oct, fun h => by rw [h]⟩
  have HI := Lib.hid hiff
  obtain ⟨s1, e1⟩ : ∃ s, s = strOfNums (ints bs) := ⟨_, rfl⟩
  obtain ⟨s2, e2⟩ : ∃ s, s = strOfNums (ints cs) := ⟨_, rfl⟩
  rw [← e1, ← e2] at HI
  rw [← e1] at g1
  rw [← e2] at g2
  clear e1 e2 hiff h1 h2
  go_enter Try.func19, Try.ntmps19
  go_wp2
  go_ret
  refine ⟨ret_bool ?_, rfl⟩
  have h := HI.out
  rw [Bool.eq_iff_iff, beq_iff_eq, decide_eq_true_iff, ByteArray.toList_eq, ByteArray.toList_eq, ← h]
  exact ⟨fun e => WideShapes.bytes_inj e, fun e => by rw [e]⟩
theorem eq_yes (A A' : Option Addr) (n c m c' : Nat) (bs cs : List Nat) (w : World) (h1 : Bys w w.heap.size A n c bs) (h2 : Bys w w.heap.size A' m c' cs) (h : bs = cs) :
    Calls Try.prog 19 #[.slice A n c, .slice A' m c'] w fun e w' => e = .returned (.bool true) ∧ w = w' := by
  have := eq_any A A' n c m c' bs cs w h1 h2
  rw [decide_eq_true h] at this
  exact this
theorem eq_no (A A' : Option Addr) (n c m c' : Nat) (bs cs : List Nat) (w : World) (h1 : Bys w w.heap.size A n c bs) (h2 : Bys w w.heap.size A' m c' cs) (h : bs ≠ cs) :
    Calls Try.prog 19 #[.slice A n c, .slice A' m c'] w fun e w' => e = .returned (.bool false) ∧ w = w' := by
  have := eq_any A A' n c m c' bs cs w h1 h2
  rw [decide_eq_false h] at this
  exact this

/-- Put behind nothing -/
theorem put_new (n : Nat) (w : World) (hn : Pl.U n) :
    Calls Try.prog 47 #[.slice none 0 0, .int .u64 (n : Int)] w fun e w' => ∃ g cap, e = .returned (.slice (some ⟨g, 0, none⟩) (Pl.sz n) cap) ∧ Own w' w.heap.size g cap (Pl.enc n) ∧ Below w.heap.size w w' :=
  (put_any none 0 0 n [] w (Bys.none_ _ _) (by omega) hn).mono fun _ _ ⟨g, cap, h1, h2, h3⟩ => ⟨g, cap, by rw [h1, List.nil_append, Pl.len_enc], h2, h3⟩
theorem Own.bysz {w : World} {base g cap n : Nat} (h : Own w base g cap (Pl.enc n)) : Bys w w.heap.size (some ⟨g, 0, none⟩) (Pl.sz n) cap (Pl.enc n) := by
  have := h.bys
  rwa [Pl.len_enc] at this

theorem enc300 : Pl.enc 300 = [172, 2] := by rw [Pl.enc_ge (by omega), Pl.enc_lt (by omega)]
/-- Get at bytes that are written out -/
theorem get_lit (W : World) (bs : List Nat) (ho : bs.all (fun x => decide (x < 256)) = true) (hl : bs.length ≤ maxLen) (x k e : Nat) (h : Pl.get bs = (x, k, e)) :
    Calls Try.prog 52 #[.slice (some ⟨W.heap.size, 0, none⟩) bs.length bs.length] (W.alloc (.cells (cellsOf bs).toArray 5)) fun e' w' =>
      e' = .returned (.tuple #[.int .u64 (x : Int), .int .i64 (k : Int), .int .i64 (e : Int)]) ∧ Below W.heap.size W w' :=
  (get_at (some ⟨W.heap.size, 0, none⟩) bs.length bs.length bs _ ((bys_lit W bs (oct_lit bs ho) hl).more (by simp)) x k e h).mono fun _ _ ⟨h1, h2⟩ => ⟨h1, h2 ▸ (Below.refl _ _).alloc (Nat.le_refl _) _⟩
/-- Equal of what was returned and bytes that are written out -/
theorem eq_lit (W : World) (base g cap : Nat) (bs : List Nat) (cs : List Nat) (hO : Own W base g cap bs) (ho : cs.all (fun x => decide (x < 256)) = true) (hl : cs.length ≤ maxLen) (h : bs = cs) :
    Calls Try.prog 19 #[.slice (some ⟨g, 0, none⟩) bs.length cap, .slice (some ⟨W.heap.size, 0, none⟩) cs.length cs.length] (W.alloc (.cells (cellsOf cs).toArray 5)) fun e' w' =>
      e' = .returned (.bool true) ∧ Below W.heap.size W w' :=
  (eq_yes _ _ _ _ _ _ bs cs _ ((hO.bys.below ((Below.refl _ _).alloc (Nat.le_refl _) _) (Nat.le_refl _)).more (by simp)) ((bys_lit W cs (oct_lit cs ho) hl).more (by simp)) h).mono
    fun _ _ ⟨h1, h2⟩ => ⟨h1, h2 ▸ (Below.refl _ _).alloc (Nat.le_refl _) _⟩

end Go.Proofs.Ytpakbpkcacdpbaa
