/-
  Strings as bytes; contract of the statements' own 'wakes': it returns true in every world in which the tables stand; nothing that was there turned.
-/
import Derived.Test.YtillndchojaniaaDoorUtfH
import Derived.Test.YtillndchojaniaaDoorUtfD
import Derived.Lib.SlBytesConst
import Derived.Lib.ConvBytes
namespace Go.Proofs.YtillndchojaniaaDoor
open Go.RowKit

theorem bys_cells (w : World) (bs : List Nat) (t : TypeId) (fr : Nat × Nat) (ho : Pl.Oct bs) (hl : bs.length ≤ maxLen) : Bys (w.alloc (.cells (cellsOf bs).toArray t fr)) (w.heap.size + 1) (some ⟨w.heap.size, 0, none⟩) bs.length bs.length bs := by
  refine ⟨rfl, Nat.le_refl _, hl, (fun e => by cases e), ho, fun _ => ⟨w.heap.size, 0, rfl, by omega, fun i hi => ?_⟩⟩
  have := cells_at bs i hi
  rw [Nat.zero_add, ← this]
  simp only [World.cell?, World.alloc, Array.getElem?_push, if_true]
  simp
theorem below_lit (w : World) (bs : List Nat) (fr : Nat × Nat) : Below w.heap.size w (w.alloc (.cells (cellsOf bs).toArray 5 fr)) := (Below.refl _ w).alloc (Nat.le_refl _) _
/-- []byte(s): new memory with the string's bytes -/
theorem str_bytes (w : World) (l : List Nat) (s : ByteArray) (hs : s.data.toList.map UInt8.toNat = l) (hl : l.length ≤ 1000) :
    ∃ cap W, (convert 9 23 (.string s)).run Tryd.prog w = .ok (.slice (some ⟨w.heap.size, 0, none⟩) l.length cap) W ∧ Bys W W.heap.size (some ⟨w.heap.size, 0, none⟩) l.length cap l ∧ Below w.heap.size w W := by
  have hsz : s.size = l.length := by rw [← hs, List.length_map, Array.length_toList]; rfl
  refine ⟨grownCap w s.size 0 5, Lib.bytesWorld w 5 s, ?_, ?_, ?_⟩
  · rw [Lib.run_convert_string_bytes w 9 23 5 s Tryd.underlying9 Tryd.underlying23 Tryd.underlying5, hsz]
  · refine ⟨rfl, by rw [hsz]; exact grownCap_ge w _ 0 _, grownCap_le_maxLen w _ 0 _ (by unfold maxLen; omega), (fun e => by cases e), ?_, fun _ => ⟨w.heap.size, 0, rfl, by rw [Lib.bytesWorld_size]; omega, fun i hi => ?_⟩⟩
    · intro x hx
      rw [← hs] at hx
      obtain ⟨b, _, rfl⟩ := List.mem_map.1 hx
      exact b.toNat_lt
    · rw [Nat.zero_add, Lib.bytesWorld_cell w _ s i (by omega), ← hs, List.getD_eq_getElem?_getD, List.getD_eq_getElem?_getD, List.getElem?_map]
      have hi2 : i < s.data.toList.length := by rw [← hs] at hi; simpa using hi
      rw [List.getElem?_eq_getElem hi2]; rfl
  · refine ⟨?_, ?_, ?_, by rw [Lib.bytesWorld_size]; omega, fun k hk => Lib.bytesWorld_at_old w _ s k hk⟩
    all_goals (simp only [Lib.bytesWorld, World.freeze]; rfl)
theorem decE_bad {bs : List Nat} (h : (Pl.fst bs).2 = 0) (hn : bs ≠ []) : Pl.decE bs = 21 := by
  have h1 := Pl.whole_stop h
  refine (Pl.dec_no ?_).2
  rw [h1]
  intro e
  exact hn (List.eq_nil_of_length_eq_zero e.symm)
/-- Decode of bytes that are none's -/
theorem dec_none (A : Option Addr) (n c : Nat) (bs : List Nat) (w : World) (hT : Tab w) (hB : Bys w w.heap.size A n c bs) (hr : n ≤ 1000) (h : (Pl.fst bs).2 = 0) (hn : bs ≠ []) :
    Calls Tryd.prog 11 #[.slice A n c] w fun e w' => ∃ A2 m c2, e = .returned (.tuple #[.slice A2 m c2, .int .i64 21]) ∧ Below w.heap.size w w' :=
  (dec_any A n c bs w hT hB (by omega)).mono fun e w' ⟨A2, m, c2, h1, h2, h3⟩ => ⟨A2, m, c2, by rw [h1, decE_bad h hn], h3⟩
theorem encs_known : Pl.encs [65, 2047, 8364, 66376] = [65, 223, 191, 226, 130, 172, 240, 144, 141, 136] := by decide
theorem may_known : Pl.AllMay [65, 2047, 8364, 66376] := by decide
theorem str_known : strOfNums (ints [65, 223, 191, 226, 130, 172, 240, 144, 141, 136]) = ⟨#[65, 223, 191, 226, 130, 172, 240, 144, 141, 136]⟩ := by decide
theorem whole_known : Pl.whole [65, 226, 130] = 1 := by
  rw [Pl.whole_go (by decide)]
  have e : [65, 226, 130].drop (Pl.fst [65, 226, 130]).2 = [226, 130] := by decide
  rw [e, Pl.whole_stop (by decide)]
  decide

/-- the loop over the four strings -/
def KRel (w : World) (i : Value) (wr : World) : Prop := ∃ j : Nat, i = .int .i64 (j : Int) ∧ j ≤ 4 ∧ Below w.heap.size w wr

set_option maxRecDepth 100000 in
set_option maxHeartbeats 1000000 in
theorem wakes_any (w : World) (hT : Tab w) : Calls Tryd.prog 20 #[] w fun e w' => e = .returned (.bool true) ∧ Below w.heap.size w w' := by
  have hb0 : Below w.heap.size w (w.alloc (.cells (cellsC [65, 2047, 8364, 66376]).toArray 24)) := (Below.refl _ w).alloc (Nat.le_refl _) _
  have HE := Lib.hid (enc_any (some ⟨w.heap.size, 0, none⟩) 4 4 [65, 2047, 8364, 66376] (w.alloc (.cells (cellsC [65, 2047, 8364, 66376]).toArray 24)) (hT.then_ hb0)
    (crs_lit w [65, 2047, 8364, 66376] (by unfold Pl.J; decide) (by decide)).crs.2 (by decide))
  have HB0 := Lib.hid hb0
  have HT := Lib.hid hT
  clear hb0 hT
  go_enter Tryd.func20, Tryd.ntmps20
  go_wp2_with fail
  refine HE.out.mono ?_
  rintro e w1 ⟨A, n, c, rfl, hO, hb⟩
  rw [(Pl.enc_yes may_known).2]
  rw [(Pl.enc_yes may_known).1, encs_known] at hO
  obtain ⟨hn, hB⟩ := hO.bys
  have hk := hB.conv
  rw [str_known] at hk
  have HB1 := Lib.hid (HB0.out.trans (hb.mono (by simp)))
  have hT1 := HT.out.then_ HB1.out
  have hbl := below_lit w1 [65, 226, 130] (3, 4)
  have HW := Lib.hid (whole_any _ 3 3 [65, 226, 130] _ (hT1.then_ hbl) ((bys_cells w1 [65, 226, 130] 5 (3, 4) (oct_lit _ (by decide)) (by unfold maxLen; decide)).more (by simp)))
  have HB2 := Lib.hid (HB1.out.trans (hbl.mono HB1.out.size))
  rw [whole_known] at HW
  have kc := fun (w : World) (C : Array Value) => Lib.run_convert_bytes_const (P := Tryd.prog) w 23 5 C 3 3 Tryd.underlying23 Tryd.underlying5
  clear hb hO hn hB hT1 hbl
  go_wp2_with fail
  refine HW.out.mono ?_
  rintro e w2 ⟨rfl, hb2⟩
  have HB3 := Lib.hid (HB2.out.trans (hb2.mono (Nat.le_trans HB1.out.size (by simp))))
  clear hk kc hb2
  go_wp2_with fail
  go_loopw [26] (fun i wr => KRel w i wr) (fun i _ => 4 - (intOf i).toNat)
  case atStart => exact ⟨0, rfl, by omega, HB3.out⟩
  case round =>
    obtain ⟨j, rfl, hj, hb⟩ := hrel
    have HBR := Lib.hid hb
    have hTr := HT.out.then_ hb
    clear hb
    rcases (show j = 0 ∨ j = 1 ∨ j = 2 ∨ j = 3 ∨ j = 4 by omega) with rfl | rfl | rfl | rfl | rfl
    · obtain ⟨cap, W, hcv, hBW, hbW⟩ := str_bytes wr [192, 128] ⟨#[192, 128]⟩ (by decide) (by decide)
      have HD := Lib.hid (dec_none _ _ _ _ W (hTr.then_ hbW) hBW (by decide) (by decide) (by decide))
      have HBW := Lib.hid (HBR.out.trans (hbW.mono HBR.out.size))
      have hix : ∀ w : World, (Instr.index 54 (.agg #[.string ⟨#[192, 128]⟩, .string ⟨#[237, 160, 128]⟩, .string ⟨#[244, 144, 128, 128]⟩, .string ⟨#[226, 130]⟩]) (.int .i64 0)).run Tryd.prog w = .ok (.string ⟨#[192, 128]⟩) w := fun _ => by kernel_rfl
      clear hj hTr hBW hbW
      go_wp2_with fail
      refine HD.out.mono ?_
      rintro e w3 ⟨A3, m3, c3, rfl, hb3⟩
      have HB4 := Lib.hid (HBW.out.trans (hb3.mono HBW.out.size))
      clear hb3
      go_wp2_with fail
      go_roundw
      case rel => exact ⟨1, by go_num, by omega, HB4.out⟩
      case measure => simp [intOf]
    · obtain ⟨cap, W, hcv, hBW, hbW⟩ := str_bytes wr [237, 160, 128] ⟨#[237, 160, 128]⟩ (by decide) (by decide)
      have HD := Lib.hid (dec_none _ _ _ _ W (hTr.then_ hbW) hBW (by decide) (by decide) (by decide))
      have HBW := Lib.hid (HBR.out.trans (hbW.mono HBR.out.size))
      have hix : ∀ w : World, (Instr.index 54 (.agg #[.string ⟨#[192, 128]⟩, .string ⟨#[237, 160, 128]⟩, .string ⟨#[244, 144, 128, 128]⟩, .string ⟨#[226, 130]⟩]) (.int .i64 1)).run Tryd.prog w = .ok (.string ⟨#[237, 160, 128]⟩) w := fun _ => by kernel_rfl
      clear hj hTr hBW hbW
      go_wp2_with fail
      refine HD.out.mono ?_
      rintro e w3 ⟨A3, m3, c3, rfl, hb3⟩
      have HB4 := Lib.hid (HBW.out.trans (hb3.mono HBW.out.size))
      clear hb3
      go_wp2_with fail
      go_roundw
      case rel => exact ⟨2, by go_num, by omega, HB4.out⟩
      case measure => simp [intOf]
    · obtain ⟨cap, W, hcv, hBW, hbW⟩ := str_bytes wr [244, 144, 128, 128] ⟨#[244, 144, 128, 128]⟩ (by decide) (by decide)
      have HD := Lib.hid (dec_none _ _ _ _ W (hTr.then_ hbW) hBW (by decide) (by decide) (by decide))
      have HBW := Lib.hid (HBR.out.trans (hbW.mono HBR.out.size))
      have hix : ∀ w : World, (Instr.index 54 (.agg #[.string ⟨#[192, 128]⟩, .string ⟨#[237, 160, 128]⟩, .string ⟨#[244, 144, 128, 128]⟩, .string ⟨#[226, 130]⟩]) (.int .i64 2)).run Tryd.prog w = .ok (.string ⟨#[244, 144, 128, 128]⟩) w := fun _ => by kernel_rfl
      clear hj hTr hBW hbW
      go_wp2_with fail
      refine HD.out.mono ?_
      rintro e w3 ⟨A3, m3, c3, rfl, hb3⟩
      have HB4 := Lib.hid (HBW.out.trans (hb3.mono HBW.out.size))
      clear hb3
      go_wp2_with fail
      go_roundw
      case rel => exact ⟨3, by go_num, by omega, HB4.out⟩
      case measure => simp [intOf]
    · obtain ⟨cap, W, hcv, hBW, hbW⟩ := str_bytes wr [226, 130] ⟨#[226, 130]⟩ (by decide) (by decide)
      have HD := Lib.hid (dec_none _ _ _ _ W (hTr.then_ hbW) hBW (by decide) (by decide) (by decide))
      have HBW := Lib.hid (HBR.out.trans (hbW.mono HBR.out.size))
      have hix : ∀ w : World, (Instr.index 54 (.agg #[.string ⟨#[192, 128]⟩, .string ⟨#[237, 160, 128]⟩, .string ⟨#[244, 144, 128, 128]⟩, .string ⟨#[226, 130]⟩]) (.int .i64 3)).run Tryd.prog w = .ok (.string ⟨#[226, 130]⟩) w := fun _ => by kernel_rfl
      clear hj hTr hBW hbW
      go_wp2_with fail
      refine HD.out.mono ?_
      rintro e w3 ⟨A3, m3, c3, rfl, hb3⟩
      have HB4 := Lib.hid (HBW.out.trans (hb3.mono HBW.out.size))
      clear hb3
      go_wp2_with fail
      go_roundw
      case rel => exact ⟨4, by go_num, by omega, HB4.out⟩
      case measure => simp [intOf]
    · clear hj
      go_wp2_with fail
      go_ret
      exact ⟨rfl, HBR.out⟩
end Go.Proofs.YtillndchojaniaaDoor
