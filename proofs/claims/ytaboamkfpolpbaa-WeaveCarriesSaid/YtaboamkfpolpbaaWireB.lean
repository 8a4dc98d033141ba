/-
  Contracts of the writer of wire (Num, Int, Bool, Bytes, Str), also of none: what each leaves. Conditions: what is written has at most 2^47 bytes.
-/
import Derived.Test.YtaboamkfpolpbaaWireA
import Derived.Lib.ConvBytes
namespace Go.Proofs.Ytaboamkfpolpbaa.Wi
open Go.RowKit

set_option maxRecDepth 100000 in
/-- bytes of a string -/
theorem str_bytes (cs : List Nat) (w : World) (ho : Pl.Oct cs) (hl : cs.length ≤ 140737488355328) :
    ∃ c w', (convert 9 53 (.string (strOfNums (ints cs)))).run Try.prog w = .ok (.slice (some ⟨w.heap.size, 0, none⟩) cs.length c) w' ∧ Bys w' w'.heap.size (some ⟨w.heap.size, 0, none⟩) cs.length c cs ∧ Below w.heap.size w w' := by
  have hsz : (strOfNums (ints cs)).size = cs.length := by simp [strOfNums, ints, ByteArray.size]
  have hrun := Lib.run_convert_string_bytes (P := Try.prog) w 9 53 5 (strOfNums (ints cs)) Try.underlying9 Try.underlying53 Try.underlying5
  rw [hsz] at hrun
  refine ⟨_, _, hrun, ⟨rfl, grownCap_ge w _ _ _, grownCap_le_maxLen w _ _ _ (by unfold maxLen; omega), (fun e => by cases e), ho, fun hn => ⟨w.heap.size, 0, rfl, by rw [Lib.bytesWorld_size]; omega, fun i hi => ?_⟩⟩, ?_⟩
  · rw [Nat.zero_add, Lib.bytesWorld_cell w _ _ i (by rw [hsz]; exact hi)]
    congr 2
    have hb := Pl.oct_getD ho i
    simp only [strOfNums, ints, List.map_map]
    rw [List.getD_eq_getElem?_getD, List.getD_eq_getElem?_getD] at *
    simp only [List.getElem?_map, List.getElem?_eq_getElem hi, Option.map_some, Option.getD_some, Function.comp, Int.toNat_natCast, UInt8.toNat_ofNat'] at *
    omega
  · exact ⟨rfl, rfl, rfl, by rw [Lib.bytesWorld_size]; omega, fun k hk => Lib.bytesWorld_at_old w _ _ k hk⟩

section
variable {w w1 w2 : World} {p : Nat} {F F1 : Nat → Prop} {X Y : List Nat}
set_option maxRecDepth 100000 in
theorem Wrote.after (hb : Below w.heap.size w w1) (h : Wrote w1 p F X w2) : Wrote w p F X w2 := by
  obtain ⟨F', h1, h2, h3, h4⟩ := h
  have := hb.size
  exact ⟨F', h1, (Tn.of F hb).trans h2 (fun _ _ x => x), fun b hbb => (h3 b hbb).imp id (fun h => by omega), h4⟩
set_option maxRecDepth 100000 in
theorem Wrote.trans (h : Tn F w w1) (hF : ∀ b, F1 b → F b ∨ w.heap.size ≤ b) (hF2 : ∀ b, F b → F1 b) (k : Wrote w1 p F1 Y w2) : Wrote w p F Y w2 := by
  obtain ⟨F', h1, h2, h3, h4⟩ := k
  have := h.size
  refine ⟨F', h1, h.trans h2 (fun b hb hx => (hF b hx).resolve_right (by omega)), fun b hbb => ?_, fun b hb => h4 b (hF2 b hb)⟩
  rcases h3 b hbb with h5 | h5
  · exact hF b h5
  · exact Or.inr (by omega)
end
set_option maxRecDepth 100000 in
theorem apart_new {w : World} {F : Nat → Prop} (hF : ∀ b, F b → b < w.heap.size) {g n : Nat} (hg : w.heap.size ≤ g) : Apart F (some ⟨g, 0, none⟩) n := fun _ ad h hf => by
  cases h
  have := hF _ hf
  simp at this
  omega

set_option maxRecDepth 100000 in
set_option maxHeartbeats 400000 in
theorem wnum_any (p : Nat) (F : Nat → Prop) (bs : List Nat) (n : Nat) (w : World) (h : Wr w p F bs) (hn : Pl.U n) (hr : bs.length + 10 ≤ 140737488355328) :
    Calls Try.prog 42 #[.pointer (some ⟨p, 0, none⟩), .int .u64 (n : Int)] w fun e w' => e = .returned (.tuple #[]) ∧ Wrote w p F (bs ++ Pl.enc n) w' := by
  have HP := Lib.hid (put_any none 0 0 n [] w (Bys.none_ _ _) (by omega) hn)
  have h10 := Pl.sz_le10 hn.out
  rw [← Pl.len_enc] at h10
  go_enter Try.func42, Try.ntmps42
  go_wp2_with fail
  refine HP.out.mono ?_
  rintro e w1 ⟨g, cap, rfl, hO, hb⟩
  have hf := hO.form.1
  have HW := Lib.hid (write_any p F bs (some ⟨g, 0, none⟩) (Pl.enc n).length cap (Pl.enc n) w1 (h.below hb) hO.bys (apart_new h.lt hf) (by omega))
  go_wp2_with fail
  refine HW.out.mono ?_
  rintro e w2 ⟨rfl, hw⟩
  go_wp2_with fail
  exact ⟨rfl, _, results_none (by kernel_rfl), rfl, hw.after hb⟩
set_option maxRecDepth 100000 in
theorem wnum_nil (n : Nat) (w : World) (hn : Pl.U n) : Calls Try.prog 42 #[.pointer none, .int .u64 (n : Int)] w fun e w' => e = .returned (.tuple #[]) ∧ Below w.heap.size w w' := by
  have HP := Lib.hid (put_any none 0 0 n [] w (Bys.none_ _ _) (by omega) hn)
  go_enter Try.func42, Try.ntmps42
  go_wp2_with fail
  refine HP.out.mono ?_
  rintro e w1 ⟨g, cap, rfl, hO, hb⟩
  go_wp2_with fail
  refine (write_nil _ w1).mono ?_
  rintro e w2 ⟨rfl, rfl⟩
  go_wp2_with fail
  exact ⟨rfl, _, results_none (by kernel_rfl), rfl, hb⟩

set_option maxRecDepth 100000 in
theorem U1 : Pl.U 1 := Pl.U.mk (by omega)
set_option maxRecDepth 100000 in
theorem U0 : Pl.U 0 := Pl.U.mk (by omega)
set_option maxRecDepth 100000 in
theorem len_U {n : Nat} (h : n ≤ 140737488355328) : Pl.U n := Pl.U.mk (by omega)
set_option maxRecDepth 100000 in
theorem wrap_len {n : Nat} (h : n ≤ 140737488355328) : IntKind.u64.wrap (n : Int) = (n : Int) := by rw [IntKind.wrap_u64]; omega
end Go.Proofs.Ytaboamkfpolpbaa.Wi
