/-
  Contracts of the writer of wire (Num, Int, Bool, Bytes, Str), also of none: what each leaves. Conditions: what is written has at most 2^47 bytes.
-/
import Derived.Test.YtpakbpkcacdpbaaWireA
import Derived.Lib.ConvBytes
namespace Go.Proofs.Ytpakbpkcacdpbaa
open Go.RowKit

/-- bytes of a string -/
theorem str_bytes (cs : List Nat) (w : World) (ho : Pl.Oct cs) (hl : cs.length ≤ 140737488355328) :
    ∃ c w', (convert 9 26 (.string (strOfNums (ints cs)))).run Try.prog w = .ok (.slice (some ⟨w.heap.size, 0, none⟩) cs.length c) w' ∧ Bys w' w'.heap.size (some ⟨w.heap.size, 0, none⟩) cs.length c cs ∧ Below w.heap.size w w' := by
  have hsz : (strOfNums (ints cs)).size = cs.length := by simp [strOfNums, ints, ByteArray.size]
  have hrun := Lib.run_convert_string_bytes (P := Try.prog) w 9 26 5 (strOfNums (ints cs)) Try.underlying9 Try.underlying26 Try.underlying5
  rw [hsz] at hrun
  refine ⟨_, _, hrun, ⟨rfl, grownCap_ge w _ _ _, grownCap_le_maxLen w _ _ _ (by unfold maxLen; omega), (fun e => by cases e), ho, fun hn => ⟨w.heap.size, 0, rfl, by rw [Lib.bytesWorld_size]; omega, fun i hi => ?_⟩⟩, ?_⟩
  · rw [Nat.zero_add, Lib.bytesWorld_cell w _ _ i (by rw [hsz]; exact hi)]
    congr 2
    have hb := Pl.oct_getD ho i
    simp only [strOfNums, ints, List.map_map]
    rw [List.getD_eq_getElem?_getD, List.getD_eq_getElem?_getD] at *
    simp only [List.getElem?_map, List.getElem?_eq_getElem hi, Option.map_some, Option.getD_some, Function.comp, Int.toNat_natCast, UInt8.toNat_ofNat'] at *
    omega
  · exact ⟨rfl, rfl, rfl, by rw [Lib.bytesWorld_size]; omega, fun k hk => Lib.bytesWorld_at_old w _ _ k hk⟩

section
variable {w w1 w2 : World} {p : Nat} {F F1 : Nat → Prop} {X Y : List Nat}
theorem Wrote.after (hb : Below w.heap.size w w1) (h : Wrote w1 p F X w2) : Wrote w p F X w2 := by
  obtain ⟨F', h1, h2, h3, h4⟩ := h
  have := hb.size
  exact ⟨F', h1, (Tn.of F hb).trans h2 (fun _ _ x => x), fun b hbb => (h3 b hbb).imp id (fun h => by omega), h4⟩
theorem Wrote.trans (h : Tn F w w1) (hF : ∀ b, F1 b → F b ∨ w.heap.size ≤ b) (hF2 : ∀ b, F b → F1 b) (k : Wrote w1 p F1 Y w2) : Wrote w p F Y w2 := by
  obtain ⟨F', h1, h2, h3, h4⟩ := k
  have := h.size
  refine ⟨F', h1, h.trans h2 (fun b hb hx => (hF b hx).resolve_right (by omega)), fun b hbb => ?_, fun b hb => h4 b (hF2 b hb)⟩
  rcases h3 b hbb with h5 | h5
  · exact hF b h5
  · exact Or.inr (by omega)
end
theorem apart_new {w : World} {F : Nat → Prop} (hF : ∀ b, F b → b < w.heap.size) {g n : Nat} (hg : w.heap.size ≤ g) : Apart F (some ⟨g, 0, none⟩) n := fun _ ad h hf => by
  cases h
  have := hF _ hf
  simp at this
  omega

set_option maxRecDepth 100000 in
set_option maxHeartbeats 400000 in
theorem wnum_any (p : Nat) (F : Nat → Prop) (bs : List Nat) (n : Nat) (w : World) (h : Wr w p F bs) (hn : Pl.U n) (hr : bs.length + 10 ≤ 140737488355328) :
    Calls Try.prog 10 #[.pointer (some ⟨p, 0, none⟩), .int .u64 (n : Int)] w fun e w' => e = .returned (.tuple #[]) ∧ Wrote w p F (bs ++ Pl.enc n) w' := by
  have HP := Lib.hid (put_any none 0 0 n [] w (Bys.none_ _ _) (by omega) hn)
  have h10 := Pl.sz_le10 hn.out
  rw [← Pl.len_enc] at h10
  go_enter Try.func10, Try.ntmps10
  go_wp2_with fail
  refine HP.out.mono ?_
  rintro e w1 ⟨g, cap, rfl, hO, hb⟩
  have hf := hO.form.1
  have HW := Lib.hid (write_any p F bs (some ⟨g, 0, none⟩) (Pl.enc n).length cap (Pl.enc n) w1 (h.below hb) hO.bys (apart_new h.lt hf) (by omega))
  go_wp2_with fail
  refine HW.out.mono ?_
  rintro e w2 ⟨rfl, hw⟩
  go_wp2_with fail
  exact ⟨rfl, _, results_none (by kernel_rfl), rfl, hw.after hb⟩
set_option maxRecDepth 100000 in
theorem wnum_nil (n : Nat) (w : World) (hn : Pl.U n) : Calls Try.prog 10 #[.pointer none, .int .u64 (n : Int)] w fun e w' => e = .returned (.tuple #[]) ∧ Below w.heap.size w w' := by
  have HP := Lib.hid (put_any none 0 0 n [] w (Bys.none_ _ _) (by omega) hn)
  go_enter Try.func10, Try.ntmps10
  go_wp2_with fail
  refine HP.out.mono ?_
  rintro e w1 ⟨g, cap, rfl, hO, hb⟩
  go_wp2_with fail
  refine (write_nil _ w1).mono ?_
  rintro e w2 ⟨rfl, rfl⟩
  go_wp2_with fail
  exact ⟨rfl, _, results_none (by kernel_rfl), rfl, hb⟩

set_option maxRecDepth 100000 in
set_option maxHeartbeats 400000 in
theorem wint_any (p : Nat) (F : Nat → Prop) (bs : List Nat) (n : Int) (w : World) (h : Wr w p F bs) (hn : Pl.I n) (hr : bs.length + 10 ≤ 140737488355328) :
    Calls Try.prog 12 #[.pointer (some ⟨p, 0, none⟩), .int .i64 n] w fun e w' => e = .returned (.tuple #[]) ∧ Wrote w p F (bs ++ Pl.enc (Pl.fold n)) w' := by
  have HP := Lib.hid (putInt_any none 0 0 n [] w (Bys.none_ _ _) (by omega) hn)
  have h10 := Pl.sz_le10 (Pl.fold_U hn).out
  rw [← Pl.len_enc] at h10
  go_enter Try.func12, Try.ntmps12
  go_wp2_with fail
  refine HP.out.mono ?_
  rintro e w1 ⟨g, cap, rfl, hO, hb⟩
  have hf := hO.form.1
  have HW := Lib.hid (write_any p F bs (some ⟨g, 0, none⟩) (Pl.enc (Pl.fold n)).length cap (Pl.enc (Pl.fold n)) w1 (h.below hb) hO.bys (apart_new h.lt hf) (by omega))
  go_wp2_with fail
  refine HW.out.mono ?_
  rintro e w2 ⟨rfl, hw⟩
  go_wp2_with fail
  exact ⟨rfl, _, results_none (by kernel_rfl), rfl, hw.after hb⟩

theorem U1 : Pl.U 1 := Pl.U.mk (by omega)
theorem U0 : Pl.U 0 := Pl.U.mk (by omega)
set_option maxRecDepth 100000 in
set_option maxHeartbeats 400000 in
theorem wbool_any (p : Nat) (F : Nat → Prop) (bs : List Nat) (x : Bool) (w : World) (h : Wr w p F bs) (hr : bs.length + 10 ≤ 140737488355328) :
    Calls Try.prog 14 #[.pointer (some ⟨p, 0, none⟩), .bool x] w fun e w' => e = .returned (.tuple #[]) ∧ Wrote w p F (bs ++ [x.toNat]) w' := by
  cases x with
  | true =>
    have HW := Lib.hid (wnum_any p F bs 1 w h U1 hr)
    rw [Pl.enc_lt (by omega)] at HW
    go_enter Try.func14, Try.ntmps14
    go_wp2_with fail
    refine HW.out.mono ?_
    rintro e w2 ⟨rfl, hw⟩
    go_wp2_with fail
    exact ⟨rfl, _, results_none (by kernel_rfl), rfl, hw⟩
  | false =>
    have HW := Lib.hid (wnum_any p F bs 0 w h U0 hr)
    rw [Pl.enc_lt (by omega)] at HW
    go_enter Try.func14, Try.ntmps14
    go_wp2_with fail
    refine HW.out.mono ?_
    rintro e w2 ⟨rfl, hw⟩
    go_wp2_with fail
    exact ⟨rfl, _, results_none (by kernel_rfl), rfl, hw⟩

theorem len_U {n : Nat} (h : n ≤ 140737488355328) : Pl.U n := Pl.U.mk (by omega)
theorem wrap_len {n : Nat} (h : n ≤ 140737488355328) : IntKind.u64.wrap (n : Int) = (n : Int) := by rw [IntKind.wrap_u64]; omega
set_option maxRecDepth 100000 in
set_option maxHeartbeats 400000 in
theorem wbytes_any (p : Nat) (F : Nat → Prop) (bs : List Nat) (A : Option Addr) (n c : Nat) (cs : List Nat) (w : World) (h : Wr w p F bs) (hs : Bys w w.heap.size A n c cs) (hA : Apart F A n) (hr : bs.length + 10 + n ≤ 140737488355328) :
    Calls Try.prog 15 #[.pointer (some ⟨p, 0, none⟩), .slice A n c] w fun e w' => e = .returned (.tuple #[]) ∧ Wrote w p F (bs ++ (Pl.enc n ++ cs)) w' := by
  have HP := Lib.hid (wnum_any p F bs n w h (len_U (by omega)) (by omega))
  have hwr := wrap_len (n := n) (by omega)
  have HL := Lib.hid hs.len
  have H10 := Lib.hid (Pl.sz_le10 (len_U (n := n) (by omega)).out)
  go_enter Try.func15, Try.ntmps15
  go_wp2_with fail
  refine HP.out.mono ?_
  rintro e w1 ⟨rfl, F1, hw1, ht1, hf1, hg1⟩
  have hA1 : Apart F1 A n := fun h0 ad e hx => by
    rcases hf1 _ hx with h1 | h1
    · exact hA h0 ad e h1
    · obtain ⟨g, o, e2, hg, _⟩ := hs.at_ h0
      rw [e] at e2
      cases e2
      simp at h1
      omega
  have HW := Lib.hid (write_any p F1 (bs ++ Pl.enc n) A n c cs w1 hw1 (ht1.bys hs hA) hA1 (by rw [List.length_append, Pl.len_enc]; have := H10.out; omega))
  go_wp2_with fail
  refine HW.out.mono ?_
  rintro e w2 ⟨rfl, hw⟩
  go_wp2_with fail
  rw [List.append_assoc] at hw
  exact ⟨rfl, _, results_none (by kernel_rfl), rfl, Wrote.trans ht1 hf1 hg1 hw⟩

set_option maxRecDepth 100000 in
theorem wbytes_nil (w : World) : Calls Try.prog 15 #[.pointer none, .slice none 0 0] w fun e w' => e = .returned (.tuple #[]) ∧ Below w.heap.size w w' := by
  have HP := Lib.hid (wnum_nil 0 w U0)
  go_enter Try.func15, Try.ntmps15
  go_wp2_with fail
  refine HP.out.mono ?_
  rintro e w1 ⟨rfl, hb⟩
  go_wp2_with fail
  refine (write_nil _ w1).mono ?_
  rintro e w2 ⟨rfl, rfl⟩
  go_wp2_with fail
  exact ⟨rfl, _, results_none (by kernel_rfl), rfl, hb⟩
set_option maxRecDepth 100000 in
theorem wbytes_nil1 (A : Option Addr) (c : Nat) (w : World) : Calls Try.prog 15 #[.pointer none, .slice A 1 c] w fun e w' => e = .returned (.tuple #[]) ∧ Below w.heap.size w w' := by
  have HP := Lib.hid (wnum_nil 1 w U1)
  go_enter Try.func15, Try.ntmps15
  go_wp2_with fail
  refine HP.out.mono ?_
  rintro e w1 ⟨rfl, hb⟩
  go_wp2_with fail
  refine (write_nil _ w1).mono ?_
  rintro e w2 ⟨rfl, rfl⟩
  go_wp2_with fail
  exact ⟨rfl, _, results_none (by kernel_rfl), rfl, hb⟩
set_option maxRecDepth 100000 in
set_option maxHeartbeats 400000 in
theorem wstr_any (p : Nat) (F : Nat → Prop) (bs : List Nat) (s : ByteArray) (cs : List Nat) (w : World) (h : Wr w p F bs) (hs : s = strOfNums (ints cs)) (ho : Pl.Oct cs) (hr : bs.length + 10 + cs.length ≤ 140737488355328) :
    Calls Try.prog 17 #[.pointer (some ⟨p, 0, none⟩), .string s] w fun e w' => e = .returned (.tuple #[]) ∧ Wrote w p F (bs ++ (Pl.enc cs.length ++ cs)) w' := by
  obtain ⟨c, w1, hrun, hB, hb⟩ := str_bytes cs w ho (by omega)
  rw [← hs] at hrun
  have HP := Lib.hid (wbytes_any p F bs _ _ _ cs w1 (h.below hb) hB (apart_new h.lt (Nat.le_refl _)) (by omega))
  clear hB hs ho
  go_enter Try.func17, Try.ntmps17
  go_wp2_with fail
  refine HP.out.mono ?_
  rintro e w2 ⟨rfl, hw⟩
  go_wp2_with fail
  exact ⟨rfl, _, results_none (by kernel_rfl), rfl, hw.after hb⟩
set_option maxRecDepth 100000 in
set_option maxHeartbeats 400000 in
theorem wstr_nil (s : ByteArray) (x : Nat) (w : World) (hs : s = strOfNums (ints [x])) (ho : Pl.Oct [x]) :
    Calls Try.prog 17 #[.pointer none, .string s] w fun e w' => e = .returned (.tuple #[]) ∧ Below w.heap.size w w' := by
  obtain ⟨c, w1, hrun, hB, hb⟩ := str_bytes [x] w ho (by simp)
  rw [← hs] at hrun
  have HP := Lib.hid (wbytes_nil1 (some ⟨w.heap.size, 0, none⟩) c w1)
  clear hB hs ho
  go_enter Try.func17, Try.ntmps17
  go_wp2_with fail
  refine HP.out.mono ?_
  rintro e w2 ⟨rfl, hw⟩
  go_wp2_with fail
  exact ⟨rfl, _, results_none (by kernel_rfl), rfl, hb.trans (hw.mono hb.size)⟩
end Go.Proofs.Ytpakbpkcacdpbaa
