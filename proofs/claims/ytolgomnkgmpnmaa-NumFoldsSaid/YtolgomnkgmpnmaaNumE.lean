/-
  Contracts of bytes.Equal and bytes.HasPrefix at slices of bytes, and of the statements' own 'awake': it returns true in every world.
-/
import Derived.Test.YtolgomnkgmpnmaaNumC
import Derived.Test.YtolgomnkgmpnmaaNumD
import Derived.Shelf.Bytes.SlEqualAll
namespace Go.Proofs.Ytolgomnkgmpnmaa
open Go.RowKit

/-- bytes as the library's word has them -/
def ints (bs : List Nat) : List Int := bs.map fun x : Nat => (x : Int)
theorem Bys.bytesIn {w : World} {B : Nat} {A : Option Addr} {n c : Nat} {bs : List Nat} (h : Bys w B A n c bs) : Lib.BytesIn w A n (ints bs) := by
  intro hn
  obtain ⟨g, o, rfl, _, hc⟩ := h.at_ hn
  refine ⟨g, o, rfl, fun i hi => ?_⟩
  have hl := h.len
  rw [hc i hi, ints, List.getD_eq_getElem?_getD, List.getD_eq_getElem?_getD, List.getElem?_map, List.getElem?_eq_getElem (by omega)]
  rfl
theorem bytes_inj {bs cs : List Nat} (h1 : Pl.Oct bs) (h2 : Pl.Oct cs) (h : strOfNums (ints bs) = strOfNums (ints cs)) : bs = cs := by
  have h' : (ints bs).map (fun n => UInt8.ofNat n.toNat) = (ints cs).map (fun n => UInt8.ofNat n.toNat) := by
    have := congrArg (fun s : ByteArray => s.data.toList) h
    simpa [strOfNums] using this
  rw [ints, ints, List.map_map, List.map_map] at h'
  clear h
  induction bs generalizing cs with
  | nil => cases cs with
    | nil => rfl
    | cons c cs => simp at h'
  | cons b bs ih => cases cs with
    | nil => simp at h'
    | cons c cs =>
      simp only [List.map_cons, List.cons.injEq] at h'
      have e1 := congrArg UInt8.toNat h'.1
      have hb := (Pl.oct_cons h1).1
      have hc := (Pl.oct_cons h2).1
      simp at e1
      rw [Nat.mod_eq_of_lt hb, Nat.mod_eq_of_lt hc] at e1
      rw [e1, ih (Pl.oct_cons h1).2 (Pl.oct_cons h2).2 h'.2]

set_option maxRecDepth 100000 in
set_option maxHeartbeats 400000 in
theorem eq_any (A A' : Option Addr) (n c m c' : Nat) (bs cs : List Nat) (w : World) (h1 : Bys w w.heap.size A n c bs) (h2 : Bys w w.heap.size A' m c' cs) :
    Calls Try.prog 18 #[.slice A n c, .slice A' m c'] w fun e w' => e = .returned (.bool (decide (bs = cs))) ∧ w = w' := by
  have g1 := h1.bytesIn.convert (P := Try.prog) (by rw [ints, List.length_map, h1.len]) c 22 5 9 Try.underlying22 Try.underlying5 Try.underlying9
  have g2 := h2.bytesIn.convert (P := Try.prog) (by rw [ints, List.length_map, h2.len]) c' 22 5 9 Try.underlying22 Try.underlying5 Try.underlying9
  have hiff : strOfNums (ints bs) = strOfNums (ints cs) ↔ bs = cs := ⟨bytes_inj h1.oct h2.oct, fun h => by rw [h]⟩
  have HI := Lib.hid hiff
  obtain ⟨s1, e1⟩ : ∃ s, s = strOfNums (ints bs) := ⟨_, rfl⟩
  obtain ⟨s2, e2⟩ : ∃ s, s = strOfNums (ints cs) := ⟨_, rfl⟩
  rw [← e1, ← e2] at HI
  rw [← e1] at g1
  rw [← e2] at g2
  clear e1 e2 hiff h1 h2
  go_enter Try.func18, Try.ntmps18
  go_wp2
  go_ret
  refine ⟨ret_bool ?_, rfl⟩
  have h := HI.out
  rw [Bool.eq_iff_iff, beq_iff_eq, decide_eq_true_iff, ByteArray.toList_eq, ByteArray.toList_eq, ← h]
  exact ⟨fun e => WideShapes.bytes_inj e, fun e => by rw [e]⟩
theorem eq_yes (A A' : Option Addr) (n c m c' : Nat) (bs cs : List Nat) (w : World) (h1 : Bys w w.heap.size A n c bs) (h2 : Bys w w.heap.size A' m c' cs) (h : bs = cs) :
    Calls Try.prog 18 #[.slice A n c, .slice A' m c'] w fun e w' => e = .returned (.bool true) ∧ w = w' := by
  have := eq_any A A' n c m c' bs cs w h1 h2
  rw [decide_eq_true h] at this
  exact this
theorem eq_no (A A' : Option Addr) (n c m c' : Nat) (bs cs : List Nat) (w : World) (h1 : Bys w w.heap.size A n c bs) (h2 : Bys w w.heap.size A' m c' cs) (h : bs ≠ cs) :
    Calls Try.prog 18 #[.slice A n c, .slice A' m c'] w fun e w' => e = .returned (.bool false) ∧ w = w' := by
  have := eq_any A A' n c m c' bs cs w h1 h2
  rw [decide_eq_false h] at this
  exact this

/-- Put behind nothing -/
theorem put_new (n : Nat) (w : World) (hn : Pl.U n) :
    Calls Try.prog 11 #[.slice none 0 0, .int .u64 (n : Int)] w fun e w' => ∃ g cap, e = .returned (.slice (some ⟨g, 0, none⟩) (Pl.sz n) cap) ∧ Own w' w.heap.size g cap (Pl.enc n) ∧ Below w.heap.size w w' :=
  (put_any none 0 0 n [] w (Bys.none_ _ _) (by omega) hn).mono fun _ _ ⟨g, cap, h1, h2, h3⟩ => ⟨g, cap, by rw [h1, List.nil_append, Pl.len_enc], h2, h3⟩
theorem Own.bysz {w : World} {base g cap n : Nat} (h : Own w base g cap (Pl.enc n)) : Bys w w.heap.size (some ⟨g, 0, none⟩) (Pl.sz n) cap (Pl.enc n) := by
  have := h.bys
  rwa [Pl.len_enc] at this

theorem enc300 : Pl.enc 300 = [172, 2] := by rw [Pl.enc_ge (by omega), Pl.enc_lt (by omega)]
theorem oct_lit (l : List Nat) (h : l.all (fun x => decide (x < 256)) = true) : Pl.Oct l := by
  intro x hx
  have := List.all_eq_true.1 h x hx
  simpa using this

/-- Get at bytes that are written out -/
theorem get_lit (W : World) (bs : List Nat) (ho : bs.all (fun x => decide (x < 256)) = true) (hl : bs.length ≤ maxLen) (x k e : Nat) (h : Pl.get bs = (x, k, e)) :
    Calls Try.prog 25 #[.slice (some ⟨W.heap.size, 0, none⟩) bs.length bs.length] (W.alloc (.cells (cellsOf bs).toArray 5)) fun e' w' =>
      e' = .returned (.tuple #[.int .u64 (x : Int), .int .i64 (k : Int), .int .i64 (e : Int)]) ∧ Below W.heap.size W w' :=
  (get_at (some ⟨W.heap.size, 0, none⟩) bs.length bs.length bs _ ((bys_lit W bs (oct_lit bs ho) hl).more (by simp)) x k e h).mono fun _ _ ⟨h1, h2⟩ => ⟨h1, h2 ▸ (Below.refl _ _).alloc (Nat.le_refl _) _⟩
/-- Equal of what was returned and bytes that are written out -/
theorem eq_lit (W : World) (base g cap : Nat) (bs : List Nat) (cs : List Nat) (hO : Own W base g cap bs) (ho : cs.all (fun x => decide (x < 256)) = true) (hl : cs.length ≤ maxLen) (h : bs = cs) :
    Calls Try.prog 18 #[.slice (some ⟨g, 0, none⟩) bs.length cap, .slice (some ⟨W.heap.size, 0, none⟩) cs.length cs.length] (W.alloc (.cells (cellsOf cs).toArray 5)) fun e' w' =>
      e' = .returned (.bool true) ∧ Below W.heap.size W w' :=
  (eq_yes _ _ _ _ _ _ bs cs _ ((hO.bys.below ((Below.refl _ _).alloc (Nat.le_refl _) _) (Nat.le_refl _)).more (by simp)) ((bys_lit W cs (oct_lit cs ho) hl).more (by simp)) h).mono
    fun _ _ ⟨h1, h2⟩ => ⟨h1, h2 ▸ (Below.refl _ _).alloc (Nat.le_refl _) _⟩

set_option maxRecDepth 100000 in
set_option maxHeartbeats 400000 in
theorem awake_any (w : World) : Calls Try.prog 19 #[] w fun e w' => e = .returned (.bool true) ∧ Below w.heap.size w w' := by
  go_enter Try.func19, Try.ntmps19
  go_wp2_with fail
  refine (get_lit w [172, 2, 9] (by decide) (by decide) 300 2 0 (by decide)).mono ?_
  rintro e w1 ⟨rfl, hb1⟩
  go_wp2_with fail
  refine (get_lit w1 [128] (by decide) (by decide) 0 0 4 (by decide)).mono ?_
  rintro e w2 ⟨rfl, hb2⟩
  go_wp2_with fail
  refine (get_lit w2 [128, 0] (by decide) (by decide) 0 0 5 (by decide)).mono ?_
  rintro e w3 ⟨rfl, hb3⟩
  go_wp2_with fail
  refine (put_any none 0 0 300 [] w3 (Bys.none_ _ _) (by omega) (Pl.U.mk (by omega))).mono ?_
  rintro e w4 ⟨g4, c4, rfl, hO4, hb4⟩
  go_wp2_with fail
  refine (eq_lit w4 _ g4 c4 _ [172, 2] hO4 (by decide) (by decide) (by rw [List.nil_append]; exact enc300)).mono ?_
  rintro e w5 ⟨rfl, hb5⟩
  go_wp2_with fail
  refine (fold_any (-2) w5 (Pl.I.mk (by omega))).mono ?_
  rintro e w5' ⟨rfl, rfl⟩
  have f2 : Pl.fold (-2) = 3 := by decide
  rw [f2]
  go_wp2_with fail
  refine (unfold_any 3 w5 (Pl.U.mk (by omega))).mono ?_
  rintro e w5' ⟨rfl, rfl⟩
  have f3 : Pl.unfold 3 = -2 := by decide
  rw [f3]
  go_wp2_with fail
  refine (put4_any none 0 0 16909060 [] w5 (Bys.none_ _ _) (by omega) (by omega)).mono ?_
  rintro e w6 ⟨g6, c6, rfl, hO6, hb6⟩
  go_wp2_with fail
  refine (eq_lit w6 _ g6 c6 _ [4, 3, 2, 1] hO6 (by decide) (by decide) (by decide)).mono ?_
  rintro e w7 ⟨rfl, hb7⟩
  go_wp2_with fail
  go_ret
  refine ⟨rfl, ?_⟩
  have s1 := hb1.size; have s2 := hb2.size; have s3 := hb3.size; have s4 := hb4.size; have s5 := hb5.size; have s6 := hb6.size
  exact (((((hb1.trans (hb2.mono (by omega))).trans (hb3.mono (by omega))).trans (hb4.mono (by omega))).trans (hb5.mono (by omega))).trans (hb6.mono (by omega))).trans (hb7.mono (by omega))
end Go.Proofs.Ytolgomnkgmpnmaa
