/-
  Contract of crc.Strip: what it returns for every input; new memory, nothing that was there turned. Condition: the table stands in crc.steps.
-/
import Derived.Test.YtghllmdbhhaofaaDoorCrcB
import Derived.Deep.RegionHeld3
import Derived.Laws.Cover3
import Derived.Laws.CopyOwn
import Derived.ChangeKeysEq
namespace Go.Proofs.YtghllmdbhhaofaaDoor
open Go.RowKit

theorem len4 {l : List Nat} (h : l.length = 4) : ∃ a b c d, l = [a, b, c, d] := by
  match l, h with
  | [a, b, c, d], _ => exact ⟨a, b, c, d, rfl⟩

theorem plainByte : Tryd.prog.plainKey 5 = true := by kernel_rfl
theorem cellsByte : Tryd.prog.cellsOf 5 = 1 := by kernel_rfl
theorem items_step (w : World) (i : Nat) (is : List Nat) (xs ys : Array Value) (a b : Nat) (ha : xs[i]? = some (.int .u8 (a : Int))) (hb : ys[i]? = some (.int .u8 (b : Int))) :
    (Op.eqItems 9999 5 1 xs ys (i :: is)).run Tryd.prog w = if a = b then (Op.eqItems 9999 5 1 xs ys is).run Tryd.prog w else .ok false w := by
  have p1 := run_part_plain w plainByte ha
  have p2 := run_part_plain w plainByte hb
  have p3 := run_equalIn_int w 9998 5 .u8 .u8 (a : Int) (b : Int) Tryd.underlying5
  simp only [Op.eqItems, Nat.mul_one, Sem.run_bind, p1, p2, p3, Result.andThen_ok]
  by_cases h : a = b
  · subst h; simp
  · have : ((a : Int) == (b : Int)) = false := by simp; omega
    simp [this, h]
theorem eq_arr4 (w : World) (a0 a1 a2 a3 b0 b1 b2 b3 : Nat) :
    (Op.equalIn 10000 41 (.agg #[.int .u8 (a0 : Int), .int .u8 (a1 : Int), .int .u8 (a2 : Int), .int .u8 (a3 : Int)]) (.agg #[.int .u8 (b0 : Int), .int .u8 (b1 : Int), .int .u8 (b2 : Int), .int .u8 (b3 : Int)])).run Tryd.prog w =
      .ok (decide ([a0, a1, a2, a3] = [b0, b1, b2, b3])) w := by
  obtain ⟨i0, hi, _⟩ := info_parts infoByte
  rw [run_equalIn_array w 9999 _ _ Tryd.underlying41 hi, cellsByte, show List.range 4 = [0, 1, 2, 3] from rfl,
    items_step w 0 _ _ _ a0 b0 rfl rfl, items_step w 1 _ _ _ a1 b1 rfl rfl, items_step w 2 _ _ _ a2 b2 rfl rfl, items_step w 3 _ _ _ a3 b3 rfl rfl]
  simp only [Op.eqItems, Sem.run_pure]
  by_cases h0 : a0 = b0 <;> by_cases h1 : a1 = b1 <;> by_cases h2 : a2 = b2 <;> by_cases h3 : a3 = b3 <;> simp [h0, h1, h2, h3]

/-- lay at a sum whose bytes are known -/
theorem lay_at (s b0 b1 b2 b3 : Nat) (w : World) (hs : Pl.W s) (h : Pl.lay 4 s = [b0, b1, b2, b3]) :
    Calls Tryd.prog 18 #[.int .u32 (s : Int)] w fun e w' => e = .returned (.agg #[.int .u8 (b0 : Int), .int .u8 (b1 : Int), .int .u8 (b2 : Int), .int .u8 (b3 : Int)]) ∧ Below w.heap.size w w' :=
  (lay_any s w hs).mono fun e w' ⟨a0, a1, a2, a3, h1, h2, h3⟩ => by
    rw [h] at h1
    simp only [List.cons.injEq, and_true] at h1
    obtain ⟨rfl, rfl, rfl, rfl⟩ := h1
    exact ⟨h2, h3⟩

theorem sizeByte : (Tryd.prog.info? 5).map (·.size) = some 1 := by kernel_rfl
theorem own_block {w : World} {base g n : Nat} {xs : List Value} (h : w.ownsRow base 5 1 (.slice (some ⟨g, 0, none⟩) n n) n xs) : ∃ cur : List Value, w.heap[g]? = some (.cells cur.toArray 5 (0, 0)) ∧ cur.length = n := by
  rcases h.2 with ⟨e, _⟩ | ⟨g', cap, cur, e, _, hh, _, _, hs, _⟩
  · cases e
  · simp only [Value.slice.injEq, Option.some.injEq, Addr.mk.injEq, and_true, true_and] at e
    obtain ⟨rfl, rfl⟩ := e
    exact ⟨cur.toList, by simpa using hh, by simpa using hs⟩
theorem own_of {w : World} {base g cap : Nat} {bs : List Nat} (hl : bs.length = cap) (hb : base ≤ g) (hg : w.heap[g]? = some (.cells (cellsOf bs).toArray 5 (0, 0))) (hm : bs.length ≤ maxLen) (ho : Pl.Oct bs) : Own w base g cap bs := by
  subst hl
  refine ⟨⟨by rw [len_cells, Nat.mul_one], .inr ⟨g, bs.length, _, rfl, hb, hg, Nat.le_refl _, hm, ?_, ?_⟩⟩, ho⟩
  · rw [List.size_toArray, len_cells, Nat.mul_one]
  · rw [Nat.mul_one]; exact List.take_of_length_le (by rw [len_cells]; exact Nat.le_refl _)
/-- what Strip answers of four bytes or more -/
def StripRet (w : World) (cs : List Nat) (d : Bool) (e : Ending) (w' : World) : Prop :=
  Below w.heap.size w w' ∧ (d = false → e = .returned (.tuple #[.slice none 0 0, .int .i64 20])) ∧ (d = true → ∃ g cap, e = .returned (.tuple #[.slice (some ⟨g, 0, none⟩) cs.length cap, .int .i64 0]) ∧ Own w' w.heap.size g cap cs)

set_option maxRecDepth 100000 in
set_option maxHeartbeats 1000000 in
theorem strip_long (g o n c k : Nat) (bs : List Nat) (w : World) (hT : Tab w) (h1 : Bys w w.heap.size (some ⟨g, o, none⟩) n c bs) (hk : n = k + 4) (hr : n ≤ 140737488355328) :
    Calls Tryd.prog 11 #[.slice (some ⟨g, o, none⟩) n c] w (StripRet w (bs.take k) (decide (Pl.lay 4 (Pl.sum (bs.take k)) = bs.drop k))) := by
  have hle := h1.le
  have hcap := h1.cap
  have HL := Lib.hid h1.len
  unfold maxLen at hcap
  obtain ⟨c0, c1, c2, c3, hd⟩ := len4 (l := bs.drop k) (by rw [List.length_drop, h1.len]; omega)
  have hg : g < w.heap.size := by
    obtain ⟨g', o', e, hg, _⟩ := h1.at_ (i := 0) (by omega)
    cases e; exact hg
  have hcell : ∀ i, i < 4 → w.cell? ⟨g, o + k + i, none⟩ = some (.int .u8 (([c0, c1, c2, c3].getD i 0 : Nat) : Int)) := by
    intro i hi
    obtain ⟨g', o', e, _, hc⟩ := h1.at_ (i := k + i) (by omega)
    cases e
    have := hc (k + i) (by omega)
    rw [Nat.add_assoc, this, ← hd, List.getD_eq_getElem?_getD, List.getD_eq_getElem?_getD, List.getElem?_drop]
  have q0 : w.cell? ⟨g, o + k, none⟩ = some (.int .u8 (c0 : Int)) := hcell 0 (by omega)
  have q1 : w.cell? ⟨g, o + k + 1, none⟩ = some (.int .u8 (c1 : Int)) := hcell 1 (by omega)
  have q2 : w.cell? ⟨g, o + k + 2, none⟩ = some (.int .u8 (c2 : Int)) := hcell 2 (by omega)
  have q3 : w.cell? ⟨g, o + k + 3, none⟩ = some (.int .u8 (c3 : Int)) := hcell 3 (by omega)
  clear hcell
  have HD := Lib.hid hd
  clear hd
  have e4 : (n : Int) - 4 = (k : Int) := by omega
  have hkc : k < c := by omega
  have hck : ¬ c = k := by omega
  have HK := Lib.hid hk
  clear hk
  have z1 : (0 : Int) ≤ (k : Int) := by omega
  have z2 : (k : Int) ≤ (c : Int) := by omega
  have z3 : (k : Int) ≤ (n : Int) := by omega
  have hTd : Tab w.drew := hT
  have hBd : Bys w.drew w.drew.heap.size (some ⟨g, o, none⟩) k c (bs.take k) := h1.upto (by omega)
  have HC := Lib.hid (sum_one w.drew (some ⟨g, o, none⟩) k c (bs.take k) hTd hBd)
  clear hTd hBd
  have e5 : ∀ w' : World, (Instr.arrayAt 41 (.slice (some ⟨g, o + k, none⟩) (n - k) (c - k))).run Tryd.prog w' = .ok (.pointer (some ⟨g, o + k, none⟩)) w' := fun w' => run_arrayAt _ _ _ 4 _ _ _ Tryd.underlying41 (by have := HK.out; omega)
  obtain ⟨b0, b1, b2, b3, hls⟩ := len4 (l := Pl.lay 4 (Pl.sum (bs.take k))) (Pl.len_lay _ _)
  have e6 := fun w' : World => eq_arr4 w' b0 b1 b2 b3 c0 c1 c2 c3
  have HY := fun w' : World => Lib.hid (lay_at (Pl.sum (bs.take k)) b0 b1 b2 b3 w' (Pl.sum_W _) hls)
  have HLS := Lib.hid hls
  clear hls
  rw [HLS.out, HD.out]
  obtain ⟨d, hd⟩ : ∃ d, d = decide ([b0, b1, b2, b3] = [c0, c1, c2, c3]) := ⟨_, rfl⟩
  simp only [← hd] at e6
  rw [← hd]
  clear hd
  obtain ⟨i0, hi, hz0, hz1, hz2⟩ := info_parts infoByte
  have HI := Lib.hid (show i0.bytes * k ≤ 281474976710656 by rw [hz2]; have := HK.out; omega)
  clear hz2
  go_enter Tryd.func11, Tryd.ntmps11
  go_wp2_with fail
  go_region_held3 (fun w' => w'.cell? ⟨g, o + k, none⟩ = some (.int .u8 (c0 : Int)) ∧ w'.cell? ⟨g, o + k + 1, none⟩ = some (.int .u8 (c1 : Int)) ∧ w'.cell? ⟨g, o + k + 2, none⟩ = some (.int .u8 (c2 : Int)) ∧ w'.cell? ⟨g, o + k + 3, none⟩ = some (.int .u8 (c3 : Int)))
    (first | go_keep | (go_split_ands; exact ⟨(hb2.cell (Nat.lt_of_lt_of_le hg hb1.size)).trans ((hb1.cell hg).trans q0), (hb2.cell (Nat.lt_of_lt_of_le hg hb1.size)).trans ((hb1.cell hg).trans q1), (hb2.cell (Nat.lt_of_lt_of_le hg hb1.size)).trans ((hb1.cell hg).trans q2), (hb2.cell (Nat.lt_of_lt_of_le hg hb1.size)).trans ((hb1.cell hg).trans q3)⟩) | (go_split_ands; exact ⟨(hb1.cell hg).trans q0, (hb1.cell hg).trans q1, (hb1.cell hg).trans q2, (hb1.cell hg).trans q3⟩))
    (first | (go_at_call 13; refine HC.out.mono ?_; rintro e w1 ⟨rfl, hb1⟩) | (go_at_call 18; refine (HY _).out.mono ?_; rintro e w2 ⟨rfl, hb2⟩))
  all_goals
    have hbw : Below w.heap.size w w2 := by
      have h1 : Below w.heap.size w w1 := ⟨hb1.os, hb1.tape, hb1.output, hb1.size, hb1.block⟩
      exact h1.trans (hb2.mono h1.size)
    clear HC HY e5 e6 q0 q1 q2 q3
    cases d
    · go_wp2_with fail
      refine bodyPost_ret (v := .tuple #[.slice none 0 0, .int .i64 20]) (by simp [results, Tryd.results11, go_sem]) rfl ⟨hbw, fun _ => rfl, (fun h => by cases h)⟩
    · go_wp2_with (at_make; refine wpList_make_full _ rfl (.tmp 23) (.tmp 23) 23 rfl w.heap.size 5 i0 (.int .u8 0) 1 Tryd.underlying23 hi hz0 hz1 .i64 .i64 _ _ k rfl rfl rfl rfl ?c2 ?c3 ?c4 ?_)
      case c2 => exact HI.out
      case c3 => unfold maxLen; have := HK.out; omega
      case c4 => exact hbw.size
      intro w3 o1 g1
      have hb3 : Below w.heap.size w w3 := hbw.grown g1 hbw.size (fun k e => by cases e)
      obtain ⟨cur, hcur, hcs⟩ := own_block o1
      have HCUR := Lib.hid hcur
      have HCS := Lib.hid hcs
      have HSRC := Lib.hid ((h1.upto (k := k) (by have := HK.out; omega)).below hb3 (Nat.le_refl _))
      clear g1 o1 hcur hcs
      go_wp2_with (with_reducible refine wpList_copy_splice rfl (.tmp 25) (.tmp 26) 23 23 rfl 5 Tryd.underlying23 sizeByte (some ⟨w2.heap.size, 0, none⟩) (some ⟨g, o, none⟩) k k n c rfl rfl w2.heap.size 0 cur 5 HCUR.out (cellsOf (bs.take k)) ?d1 ?d2 ?d3 (cells_one _) w.heap.size w hb3 hbw.size ?_)
      case d1 => rw [len_cells, HSRC.out.len, HK.out]; exact (Nat.min_eq_right (by omega)).symm
      case d2 => exact fun _ j v hv => (Addr.add_lit g o j) ▸ HSRC.out.src.2 _ rfl j v hv
      case d3 => rw [len_cells, HSRC.out.len, HCS.out]; omega
      intro w4 hg4 hb4
      go_wp2_with fail
      refine bodyPost_ret (v := .tuple #[.slice (some ⟨w2.heap.size, 0, none⟩) k k, .int .i64 0]) (by simp [results, Tryd.results11, go_sem]) rfl ⟨hb4, (fun h => by cases h), fun _ => ⟨w2.heap.size, k, ?_, ?_⟩⟩
      · rw [HSRC.out.len]
      · refine own_of (by rw [HSRC.out.len]) hbw.size ?_ (by rw [HSRC.out.len]; have := HK.out; unfold maxLen; omega) HSRC.out.oct
        have h5 : splice cur 0 (cellsOf (bs.take k)) = cellsOf (bs.take k) := by
          unfold splice
          rw [List.take_zero, List.nil_append, List.drop_of_length_le (by rw [len_cells, HSRC.out.len, HCS.out]; omega), List.append_nil]
        have h6 : w4.heap[w2.heap.size]? = some (.cells (splice cur 0 (cellsOf (bs.take k))).toArray 5 (0, 0)) := hg4
        rw [h5] at h6
        exact h6

theorem strip_any (A : Option Addr) (n c : Nat) (bs : List Nat) (w : World) (hT : Tab w) (h1 : Bys w w.heap.size A n c bs) (h4 : 4 ≤ n) (hr : n ≤ 140737488355328) :
    Calls Tryd.prog 11 #[.slice A n c] w (StripRet w (bs.take (n - 4)) (decide (Pl.lay 4 (Pl.sum (bs.take (n - 4))) = bs.drop (n - 4)))) := by
  obtain ⟨g, o, rfl, _⟩ := h1.at_ (i := 0) (by omega)
  exact strip_long g o n c (n - 4) bs w hT h1 (by omega) hr

set_option maxRecDepth 100000 in
set_option maxHeartbeats 400000 in
theorem strip_short (A : Option Addr) (n c : Nat) (w : World) (h4 : n < 4) :
    Calls Tryd.prog 11 #[.slice A n c] w fun e w' => e = .returned (.tuple #[.slice none 0 0, .int .i64 4]) ∧ w = w' := by
  go_enter Tryd.func11, Tryd.ntmps11
  go_wp2_with fail
  refine bodyPost_ret (v := .tuple #[.slice none 0 0, .int .i64 4]) (by simp [results, Tryd.results11, go_sem]) rfl ⟨rfl, rfl⟩
end Go.Proofs.YtghllmdbhhaofaaDoor
