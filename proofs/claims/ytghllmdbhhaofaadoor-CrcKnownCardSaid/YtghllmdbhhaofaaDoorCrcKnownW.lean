/-
  The walk of copybooklaw02.CrcKnown: it returns true; nothing that was there turned. Condition: the table stands in crc.steps.
-/
import Derived.Test.YtghllmdbhhaofaaDoorCrcV
import Derived.RegionTactic
import Derived.ChangeAlike
namespace Go.Proofs.YtghllmdbhhaofaaDoor.crcKnown
open Go.RowKit

/-- a frame of which one byte is another one is none -/
theorem mark_turned (bs : List Nat) (ho : Pl.Oct bs) (q x : Nat) (hq : q < bs.length + 4) (hx : x < 256) (hne : x ≠ (Pl.mark bs).getD q 0) :
    Pl.lay 4 (Pl.sum (((Pl.mark bs).set q x).take bs.length)) ≠ ((Pl.mark bs).set q x).drop bs.length := by
  intro h
  rcases Nat.lt_or_ge q bs.length with hlt | hge
  · have e1 : (Pl.mark bs).set q x = bs.set q x ++ Pl.lay 4 (Pl.sum bs) := by rw [Pl.mark, List.set_append_left _ _ hlt]
    have hl : (bs.set q x).length = bs.length := List.length_set
    rw [e1, List.take_append_of_le_length (by omega), List.take_of_length_le (by omega), List.drop_append_of_le_length (by omega), List.drop_of_length_le (by omega), List.nil_append] at h
    have h2 := Pl.lay_inj (Pl.sum_W _) (Pl.sum_W _) h
    have h3 := Pl.sum_other ho q x hlt hx h2
    refine hne ?_
    rw [h3, Pl.mark, List.getD_eq_getElem?_getD, List.getD_eq_getElem?_getD, List.getElem?_append_left hlt]
  · have e1 : (Pl.mark bs).set q x = bs ++ (Pl.lay 4 (Pl.sum bs)).set (q - bs.length) x := by rw [Pl.mark, List.set_append_right _ _ hge]
    rw [e1, List.take_append_of_le_length (by omega), List.take_of_length_le (by omega), List.drop_append_of_le_length (by omega), List.drop_of_length_le (by omega), List.nil_append] at h
    refine hne ?_
    have h2 := congrArg (fun l : List Nat => l.getD (q - bs.length) 0) h
    have h2 : (Pl.lay 4 (Pl.sum bs)).getD (q - bs.length) 0 = ((Pl.lay 4 (Pl.sum bs)).set (q - bs.length) x).getD (q - bs.length) 0 := h2
    have hl : q - bs.length < (Pl.lay 4 (Pl.sum bs)).length := by rw [Pl.len_lay]; omega
    rw [List.getD_eq_getElem?_getD (l := List.set _ _ _), List.getElem?_set_self hl] at h2
    rw [Pl.mark, List.getD_eq_getElem?_getD, List.getElem?_append_right hge, ← List.getD_eq_getElem?_getD, h2]
    rfl
theorem pow_byte {r : Nat} (h : r < 8) : 2 ^ r < 256 ∧ 0 < 2 ^ r := by
  have h1 : 2 ^ r ≤ 2 ^ 7 := Nat.pow_le_pow_right (by omega) (by omega)
  have h2 : 0 < 2 ^ r := Nat.pow_pos (by omega)
  simp only [show (2 : Nat) ^ 7 = 128 by decide] at h1
  omega
theorem turn_ne (a b : Nat) (h : 0 < b) : a ^^^ b ≠ a := by
  intro e
  have := Pl.xor_inj (a := a) (b := b) (c := 0) (by rw [e, Nat.xor_zero])
  omega
theorem turn_back (a b : Nat) : (a ^^^ b) ^^^ b = a := by rw [Nat.xor_assoc, Nat.xor_self, Nat.xor_zero]
theorem xor8 (a b : Nat) (ha : a < 256) (hb : b < 256) : bits BinOp.xor IntKind.u8 (a : Int) (b : Int) = ((a ^^^ b : Nat) : Int) := u8_xor_nat a b ha hb

theorem conv5 (w : World) (C C' : Array Value) (t : TypeId) (fr : Nat × Nat) :
    (convert 23 23 (.slice (some ⟨w.heap.size + 1, 0, none⟩) 5 5)).run Tryd.prog ((w.alloc (.cells C' t fr)).alloc (.cells C 5)) = .ok (.slice (some ⟨w.heap.size + 1, 0, none⟩) 5 5) ((w.alloc (.cells C' t fr)).alloc (.cells C 5 (C.size, C.size + 1))) := by
  have h := Lib.run_convert_bytes_const (P := Tryd.prog) (w.alloc (.cells C' t fr)) 23 5 C 5 5 Tryd.underlying23 Tryd.underlying5
  have e : (w.alloc (.cells C' t fr)).heap.size = w.heap.size + 1 := by simp
  rw [e] at h
  exact h
theorem slcs2 {w : World} {A A2 : Option Addr} {n c n2 c2 : Nat} {a b : List Nat} (h : Bys w w.heap.size A n c a) (h2 : Bys w w.heap.size A2 n2 c2 b) : Slcs w [.slice A n c, .slice A2 n2 c2] [a, b] :=
  ⟨rfl, fun i hi => by
    match i, hi with
    | 0, _ => exact ⟨A, n, c, rfl, h⟩
    | 1, _ => exact ⟨A2, n2, c2, rfl, h2⟩⟩
/-- Sum of two rows that are laid out at the call -/
theorem sum_bytes2 (W : World) (a b : List Nat) (f1 f2 : Nat × Nat) (hT : Tab W) (ha : a.all (fun x => decide (x < 256)) = true) (hb : b.all (fun x => decide (x < 256)) = true) (la : a.length ≤ 1000) (lb : b.length ≤ 1000) (s : Nat) (hs : Pl.sum (a ++ b) = s) :
    Calls Tryd.prog 13 #[.slice (some ⟨W.heap.size + 1 + 1, 0, none⟩) 2 2] (((W.alloc (.cells (cellsOf a).toArray 5 f1)).alloc (.cells (cellsOf b).toArray 5 f2)).alloc (.cells #[.slice (some ⟨W.heap.size, 0, none⟩) a.length a.length, .slice (some ⟨W.heap.size + 1, 0, none⟩) b.length b.length] 23)) fun e w' =>
      e = .returned (.int .u32 (s : Int)) ∧ Below W.heap.size W w' := by
  have hb1 : Below W.heap.size W (W.alloc (.cells (cellsOf a).toArray 5 f1)) := (Below.refl _ _).alloc (Nat.le_refl _) _
  have b1 := bys_cells W a 5 f1 (oct_lit a ha) (by unfold maxLen; omega)
  have e1 : (W.alloc (.cells (cellsOf a).toArray 5 f1)).heap.size = W.heap.size + 1 := by simp
  generalize W.alloc (.cells (cellsOf a).toArray 5 f1) = W1 at hb1 b1 e1 ⊢
  rw [← e1] at b1
  have hb2 : Below W1.heap.size W1 (W1.alloc (.cells (cellsOf b).toArray 5 f2)) := (Below.refl _ _).alloc (Nat.le_refl _) _
  have b2 := bys_cells W1 b 5 f2 (oct_lit b hb) (by unfold maxLen; omega)
  have e2 : (W1.alloc (.cells (cellsOf b).toArray 5 f2)).heap.size = W1.heap.size + 1 := by simp
  rw [← e1]
  generalize W1.alloc (.cells (cellsOf b).toArray 5 f2) = W2 at hb2 b2 e2 ⊢
  rw [← e2] at b2 ⊢
  have hbw := below_then hb1 hb2
  have h := sum_lit W2 [.slice (some ⟨W.heap.size, 0, none⟩) a.length a.length, .slice (some ⟨W1.heap.size, 0, none⟩) b.length b.length] [a, b] (hT.below hbw hT.pos) (slcs2 ((b1.below hb2 (Nat.le_refl _)).more hb2.size) b2) (by show 2 ≤ maxLen; decide)
  rw [List.flatten_cons, List.flatten_cons, List.flatten_nil, List.append_nil, hs] at h
  exact h.mono fun _ _ ⟨h1, h2⟩ => ⟨h1, below_then hbw h2⟩
theorem strip_ok_lit (W : World) (bs ms : List Nat) (hT : Tab W) (hm : Pl.mark bs = ms) (ho : ms.all (fun x => decide (x < 256)) = true) (hl : ms.length ≤ 1000) :
    Calls Tryd.prog 11 #[.slice (some ⟨W.heap.size, 0, none⟩) ms.length ms.length] (W.alloc (.cells (cellsOf ms).toArray 5)) fun e w' => ∃ g cap, e = .returned (.tuple #[.slice (some ⟨g, 0, none⟩) bs.length cap, .int .i64 0]) ∧ Below W.heap.size W w' := by
  subst hm
  exact (strip_ok _ _ _ bs _ (hT.below ((Below.refl _ _).alloc (Nat.le_refl _) _) hT.pos) ((bys_lit W _ (oct_lit _ ho) (by unfold maxLen; omega)).more (by simp)) (by omega)).mono
    fun _ _ ⟨g, cap, h1, _, h2⟩ => ⟨g, cap, h1, ((Below.refl _ _).alloc (Nat.le_refl _) _).trans (h2.mono (by simp))⟩

/-- the loop at its round k -/
def KRel (w : World) (M : List Nat) (g cap : Nat) (i : Value) (wr : World) : Prop :=
  ∃ k : Nat, i = .int .i64 (k : Int) ∧ k ≤ 8032 ∧ Own wr w.heap.size g cap M ∧ Below w.heap.size w wr

set_option maxRecDepth 100000 in
set_option maxHeartbeats 4000000 in
theorem walk (w : World) (hT : Tab w) : Calls Tryd.prog 8 #[] w fun e w' => e = .returned (.bool true) ∧ Below w.heap.size w w' := by
  obtain ⟨i0, hi, hz0, hz1, hz2⟩ := info_parts infoByte
  have HI := Lib.hid (show i0.bytes * 1000 ≤ 281474976710656 by rw [hz2]; omega)
  clear hz2
  go_enter Tryd.func8, Tryd.ntmps8
  go_wp2_with (at_make; refine wpList_make_full _ rfl (.const (.int .i64 1000)) (.const (.int .i64 1000)) 23 rfl w.heap.size 5 i0 (.int .u8 0) 1 Tryd.underlying23 hi hz0 hz1 .i64 .i64 _ _ 1000 rfl rfl rfl rfl ?c2 ?c3 ?c4 ?_)
  case c2 => exact HI.out
  case c3 => decide
  case c4 => exact Nat.le_refl _
  intro w1 o1 g1
  have hb1 : Below w.heap.size w w1 := (Below.refl _ w).grown g1 (Nat.le_refl _) (fun k e => by cases e)
  rw [toList_madeCells_one] at o1
  obtain ⟨bs, hbs⟩ : ∃ bs : List Nat, bs = List.replicate 1000 0 := ⟨_, rfl⟩
  have HBo := Lib.hid (show Pl.Oct bs by intro x hx; rw [hbs] at hx; rw [List.eq_of_mem_replicate hx]; omega)
  have HBl := Lib.hid (show bs.length = 1000 by rw [hbs, List.length_replicate])
  have B1 : Bys w1 w1.heap.size (some ⟨w.heap.size, 0, none⟩) 1000 1000 bs := by
    have O1 : Own w1 w.heap.size w.heap.size 1000 bs := by
      refine ⟨?_, HBo.out⟩
      rw [HBl.out, hbs, show cellsOf (List.replicate 1000 0) = List.replicate 1000 (Value.int IntKind.u8 0) from List.map_replicate]; exact o1
    have := O1.bys
    rwa [HBl.out] at this
  clear o1 g1 hz0 hz1 hi hbs
  have hT1 := hT.below hb1 hT.pos
  go_wp2_with fail
  refine (mark_any _ 1000 1000 bs w1 hT1 B1 (by omega)).mono ?_
  rintro e w2 ⟨g, cap, rfl, hO2, hb2⟩
  have HMl := Lib.hid (show (Pl.mark bs).length = 1004 by rw [Pl.mark_len, HBl.out])
  rw [HMl.out]
  have hO2 := hO2.lower hb1.size
  have hbw2 := below_then hb1 hb2
  have HMo := Lib.hid (Pl.mark_oct HBo.out)
  clear B1 hT1 hb1 hb2
  go_wp2_with fail
  go_loopw [3] (fun i wr => KRel w (Pl.mark bs) g cap i wr) (fun i _ => 8032 - (intOf i).toNat)
  case atStart => exact ⟨0, rfl, by omega, hO2, hbw2⟩
  case round =>
    obtain ⟨k, rfl, hk, hO, hb⟩ := hrel
    by_cases hlt : k < 8032
    · obtain ⟨q, hq⟩ : ∃ q, q = k / 8 := ⟨_, rfl⟩
      obtain ⟨r, hr⟩ : ∃ r, r = k % 8 := ⟨_, rfl⟩
      have eq1 : (k : Int) / 8 = (q : Int) := by omega
      have er1 : (k : Int) % 8 = (r : Int) := by omega
      have hq1 : q < 1004 := by omega
      have hr8 : r < 8 := by omega
      clear hq hr
      have hbq := Pl.oct_getD HMo.out q
      have hp := pow_byte hr8
      have hne := turn_ne ((Pl.mark bs).getD q 0) (2 ^ r) hp.2
      have hxb := Pl.byte_xor hbq hp.1
      have e1 := xor8 _ _ hbq hp.1
      have e2 := xor8 _ _ hxb hp.1
      rw [turn_back] at e2
      have HNE := Lib.hid (mark_turned bs HBo.out q _ (by rw [HBl.out]; omega) hxb hne)
      have hc := hO.1.cellAt q (by rw [HMl.out]; omega)
      rw [cells_at _ _ (by rw [HMl.out]; omega)] at hc
      have hf := hO.1.frozenAt q
      have hset := hO.set_ q ((Pl.mark bs).getD q 0 ^^^ 2 ^ r) hxb
      have HSB := Lib.hid (show ((Pl.mark bs).set q ((Pl.mark bs).getD q 0 ^^^ 2 ^ r)).set q ((Pl.mark bs).getD q 0) = Pl.mark bs by
        rw [List.set_set]
        refine List.ext_getElem? fun i => ?_
        by_cases hiq : q = i
        · subst hiq
          rw [List.getElem?_set_self (by rw [HMl.out]; omega), List.getD_eq_getElem?_getD, List.getElem?_eq_getElem (by rw [HMl.out]; omega)]; rfl
        · rw [List.getElem?_set_ne hiq])
      have HXG := Lib.hid (show ((Pl.mark bs).set q ((Pl.mark bs).getD q 0 ^^^ 2 ^ r)).getD q 0 = (Pl.mark bs).getD q 0 ^^^ 2 ^ r by
        rw [List.getD_eq_getElem?_getD, List.getElem?_set_self (by rw [HMl.out]; omega)]; rfl)
      obtain ⟨x, hx0⟩ : ∃ x, x = (Pl.mark bs).getD q 0 ^^^ 2 ^ r := ⟨_, rfl⟩
      rw [← hx0] at hxb e1 e2 HNE hset HSB HXG
      clear hx0 hne
      obtain ⟨b, hb0⟩ : ∃ b, b = (Pl.mark bs).getD q 0 := ⟨_, rfl⟩
      rw [← hb0] at hbq e1 e2 hc HSB
      clear hb0
      obtain ⟨p, hp0⟩ : ∃ p, p = 2 ^ r := ⟨_, rfl⟩
      have es : IntKind.u8.wrap ((2 : Int) ^ r) = (p : Int) := by
        rw [IntKind.wrap_u8, hp0]
        have : ((2 ^ r : Nat) : Int) = (2 : Int) ^ r := by simp
        rw [← this]; omega
      rw [← hp0] at e1 e2 hp
      clear hp0
      have hcap := hO.form
      have HSET := Lib.hid hset
      have HO := Lib.hid hO
      clear hset hO
      have z0 : (0 : Int) ≤ (q : Int) := by omega
      have z1 : (q : Int) < 1004 := by omega
      have z2 : (0 : Int) ≤ (r : Int) := by omega
      go_wp2_with fail
      go_region
      go_wp2_with fail
      have hO1 : Own (wr.setCell ⟨g, q, none⟩ (.int .u8 (x : Int))).drew w.heap.size g cap ((Pl.mark bs).set q x) := HSET.out.1
      have hb1 : Below w.heap.size w (wr.setCell ⟨g, q, none⟩ (.int .u8 (x : Int))).drew := below_drawn (hb.grown HSET.out.2 hb.size (fun q e => by cases e; exact hcap.1))
      generalize (wr.setCell ⟨g, q, none⟩ (.int .u8 (x : Int))).drew = W1 at hO1 hb1 ⊢
      have B1 := hO1.bys
      rw [List.length_set, HMl.out] at B1
      have HNE2 := HNE.out
      rw [HBl.out] at HNE2
      have HSTR := Lib.hid (strip_bad _ 1004 cap _ W1 (hT.below hb1 hT.pos) B1 (by omega) (by omega) HNE2)
      clear B1 HNE2 HSET HO hc hf
      refine HSTR.out.mono ?_
      rintro e W2 ⟨rfl, hb2⟩
      have hO2 := hO1.below hb2 hO1.form.2.1
      have hbw := below_then hb1 hb2
      have hc := hO2.1.cellAt q (by rw [List.length_set, HMl.out]; omega)
      rw [cells_at _ _ (by rw [List.length_set, HMl.out]; omega), HXG.out] at hc
      have hf := hO2.1.frozenAt q
      have hset := hO2.set_ q b hbq
      rw [HSB.out] at hset
      have HSET := Lib.hid hset
      clear hset hO2 hO1 HSTR hb1 hb2
      go_wp2_with fail
      go_region
      go_wp2_with fail
      go_roundw
      case rel => exact ⟨k + 1, by go_num, by omega, HSET.out.1, below_drawn (hbw.grown HSET.out.2 hbw.size (fun q e => by cases e; exact hcap.1))⟩
      case measure => simp [intOf]; omega
    · obtain rfl : k = 8032 := by omega
      have hTr := hT.below hb hT.pos
      have B1 := hO.bys
      rw [HMl.out] at B1
      have HST := Lib.hid (strip_ok _ 1004 cap bs wr hTr B1 (by omega))
      clear B1
      have kc4 := fun (w : World) (C : Array Value) => Lib.run_convert_bytes_const (P := Tryd.prog) w 23 5 C 4 4 Tryd.underlying23 Tryd.underlying5
      have kc5 := conv5
      go_wp2_with fail
      refine HST.out.mono ?_
      rw [HBl.out]
      rintro e w3 ⟨g3, c3, rfl, _, hb3⟩
      have hbw3 := below_then hb hb3
      have hT3 := hT.below hbw3 hT.pos
      go_wp2_with fail
      refine (strip_ok_lit w3 [] [0, 0, 0, 0] hT3 mark_nil (by decide) (by decide)).mono ?_
      rintro e w4 ⟨g4, c4, rfl, hb4⟩
      have hbw4 := below_then hbw3 hb4
      have hT4 := hT.below hbw4 hT.pos
      go_wp2_with fail
      refine (sum_bytes w4 [255] (0, 0) hT4 (by decide) (by decide) 4278190080 (by decide +kernel)).mono ?_
      rintro e w5 ⟨rfl, hb5⟩
      have hbw5 := below_then hbw4 hb5
      have hT5 := hT.below hbw5 hT.pos
      go_wp2_with fail
      refine (sum_bytes2 w5 [49, 50, 51, 52] [53, 54, 55, 56, 57] (4, 5) (5, 6) hT5 (by decide) (by decide) (by decide) (by decide) 3421780262 (by decide +kernel)).mono ?_
      rintro e w6 ⟨rfl, hb6⟩
      have hbw6 := below_then hbw5 hb6
      go_wp2_with fail
      refine (wakes_any w6 (hT.below hbw6 hT.pos)).mono ?_
      rintro e w7 ⟨rfl, hb7⟩
      go_wp2_with fail
      go_ret
      exact ⟨rfl, below_then hbw6 hb7⟩
end Go.Proofs.YtghllmdbhhaofaaDoor.crcKnown
