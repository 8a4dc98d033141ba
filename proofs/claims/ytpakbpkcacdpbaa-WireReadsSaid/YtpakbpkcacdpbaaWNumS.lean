/-
  Contracts of the document's own answers for layer 1 that lay bytes (copybookref01.Own, Put, Lay, Fold, Size): the same plain functions as num's; new memory, nothing that was there turned. Conditions: what comes in has at most 2^47 - 4096 bytes.
-/
import Derived.Test.YtpakbpkcacdpbaaWNumE
import Derived.Test.YtpakbpkcacdpbaaWNumR
namespace Go.Proofs.Ytpakbpkcacdpbaa
open Go.RowKit

/-- a call's answer: the bytes bs of its own, nil if there are none, nothing that was there turned -/
def RetV (w : World) (bs : List Nat) (e : Ending) (w' : World) : Prop :=
  ∃ A cap, e = .returned (.slice A bs.length cap) ∧ OwnV w' w.heap.size (.slice A bs.length cap) bs ∧ Below w.heap.size w w'
theorem RetV.row {w w' : World} {bs : List Nat} {e : Ending} (h : RetV w bs e w') (hp : 0 < bs.length) : RetRow w bs e w' := by
  obtain ⟨A, cap, rfl, hV, hb⟩ := h
  obtain ⟨g, rfl, _, hO⟩ := hV.pos_ hp
  exact ⟨g, cap, rfl, hO, hb⟩

set_option maxRecDepth 100000 in
set_option maxHeartbeats 400000 in
theorem refOwn_any (A : Option Addr) (n c : Nat) (bs : List Nat) (w : World) (h1 : Bys w w.heap.size A n c bs) (hr : n ≤ 140737488351232) :
    Calls Try.prog 9 #[.slice A n c] w (RetV w bs) := by
  have HB := Lib.hid h1
  have HV := Lib.hid (OwnV.nil_ w w.heap.size)
  clear h1
  go_enter Try.func9, Try.ntmps9
  go_wp2_with (at_builtin; refine wpList_append_bys _ rfl (.tmp 4) (.tmp 5) rfl w.heap.size _ _ _ [] rfl HV.out w.heap.size _ _ _ bs rfl HB.out (by omega) (Nat.le_refl _) ?_)
  intro A2 c2 w2 hV2 hg2 hx2
  have hb2 := below_append HV.out hg2 (Below.refl _ w) (Nat.le_refl _)
  clear hx2 hg2
  have hV2 : OwnV w2 w.heap.size (.slice A2 n c2) bs := by simpa using hV2
  go_wp2
  go_ret
  refine ⟨A2, c2, ?_, ?_, hb2⟩
  · rw [HB.out.len]; rfl
  · rw [HB.out.len]; exact hV2

theorem u64_div128 (m : Nat) (h : Pl.U m) : IntKind.u64.wrap ((m : Int) / 128) = ((m / 128 : Nat) : Int) := by
  have h := h.out
  rw [IntKind.wrap_u64]; omega
theorem u64_div256 (m : Nat) (h : Pl.U m) : IntKind.u64.wrap ((m : Int) / 256) = ((m / 256 : Nat) : Int) := by
  have h := h.out
  rw [IntKind.wrap_u64]; omega
theorem refFold_pos (n : Int) (h : Pl.I n) (h0 : 0 ≤ n) : IntKind.u64.wrap (2 * IntKind.u64.wrap n) = ((Pl.fold n : Nat) : Int) := by
  have h := h.out
  unfold Pl.fold
  rw [if_pos h0, IntKind.wrap_u64, IntKind.wrap_u64]; omega
theorem refFold_neg (n : Int) (h : Pl.I n) (h0 : n < 0) : IntKind.u64.wrap (IntKind.u64.wrap (2 * IntKind.u64.wrap (wrap64 (-wrap64 (n + 1)))) + 1) = ((Pl.fold n : Nat) : Int) := by
  have h := h.out
  unfold Pl.fold
  rw [wrap64_eq (n + 1) (Pl.I.mk (by omega)), wrap64_eq _ (Pl.I.mk (by omega)), if_neg (by omega), IntKind.wrap_u64, IntKind.wrap_u64, IntKind.wrap_u64]; omega
/-- ref.Put's loop: what is left of the number; the bytes before stand behind bs -/
def PRel (w : World) (bs : List Nat) (n : Nat) (t b : Value) (wr : World) : Prop :=
  ∃ (m k c : Nat) (A : Option Addr) (pre : List Nat), t = .int .u64 (m : Int) ∧ b = .slice A k c ∧ Pl.U m ∧ pre ++ Pl.enc m = Pl.enc n ∧ OwnV wr w.heap.size (.slice A k c) (bs ++ pre) ∧ Below w.heap.size w wr

/-- one byte that is appended: it stands in a new block first -/
theorem bys_one (w : World) (x : Nat) (z : Int) (h : z = (x : Int)) (hx : x < 256) : Bys (w.alloc (.cells #[.int .u8 z] 5)) (w.heap.size + 1) (some ⟨w.heap.size, 0, none⟩) 1 1 [x] := by
  subst h
  exact bys_lit w [x] (fun y hy => by simp at hy; omega) (by simp [maxLen])

set_option maxRecDepth 100000 in
set_option maxHeartbeats 1000000 in
theorem refPut_any (A : Option Addr) (k c n : Nat) (bs : List Nat) (w : World) (h1 : Bys w w.heap.size A k c bs) (hr : k ≤ 140737488351232) (hn : Pl.U n) :
    Calls Try.prog 11 #[.slice A k c, .int .u64 (n : Int)] w (RetRow w (bs ++ Pl.enc n)) := by
  have HO := Lib.hid (refOwn_any A k c bs w h1 hr)
  have HL := Lib.hid h1.len
  have HN10 := Lib.hid (Pl.sz_le10 hn.out)
  clear h1
  go_enter Try.func11, Try.ntmps11
  go_wp2_with (go_at_call 9; refine HO.out.mono ?_; rintro e w1 ⟨A1, c1, rfl, hV1, hb1⟩)
  go_loopw [1, 5] (fun t b wr => PRel w bs n t b wr) (fun t _ _ => (intOf t).toNat)
  case atStart => exact ⟨n, _, c1, A1, [], rfl, rfl, hn, rfl, by rw [List.append_nil]; exact hV1, hb1⟩
  case round =>
    obtain ⟨m, k2, c2, A2, pre, rfl, rfl, hm, hpe, hV, hb⟩ := hrel
    have HE := Lib.hid hpe
    have hk2 : k2 + 1 ≤ 140737488355328 := by
      have h2 := hV.bys.1
      have h3 := congrArg List.length hpe
      rw [List.length_append, Pl.len_enc, Pl.len_enc] at h3
      rw [List.length_append, HL.out] at h2
      have := HN10.out
      omega
    have HV := Lib.hid (fun o => hV.alloc o)
    have hbz := hb.size
    clear hpe hV
    by_cases h : m < 128
    · have HB1 := Lib.hid (bys_one wr m (m : Int) rfl (by omega))
      have HE2 := Lib.hid (Pl.enc_lt h)
      go_wp2_with (at_builtin; refine wpList_append_bys _ rfl (.tmp 19) (.tmp 22) rfl w.heap.size _ _ _ (bs ++ pre) rfl (HV.out _) (wr.heap.size + 1) _ _ _ [m] rfl HB1.out hk2 (by simp; omega) ?_)
      intro A3 c3 w3 hV3 hg3 hx3 hy3
      have hb3 := below_append (HV.out _) hg3 (hb.alloc hbz _) (by simp; omega)
      clear hx3 hy3 hg3
      go_wp2_with fail
      go_ret
      have e1 : bs ++ (pre ++ [m]) = bs ++ Pl.enc n := by rw [← HE.out, HE2.out]
      rw [e1] at hV3
      have hk3 := hV3.bys.1
      have hpos : 0 < (bs ++ Pl.enc n).length := by rw [List.length_append, Pl.len_enc]; have := Pl.sz_pos n; omega
      refine RetV.row ⟨A3, c3, ?_, ?_, hb3⟩ hpos
      · rw [← hk3]; rfl
      · rw [← hk3]; exact hV3
    · have HB1 := Lib.hid (bys_one wr (m % 128 + 128) (128 + (m : Int) % 128) (by omega) (by omega))
      have HE2 := Lib.hid (Pl.enc_ge (n := m) (by omega))
      go_wp2_with (at_builtin; refine wpList_append_bys _ rfl (.tmp 10) (.tmp 15) rfl w.heap.size _ _ _ (bs ++ pre) rfl (HV.out _) (wr.heap.size + 1) _ _ _ [m % 128 + 128] rfl HB1.out hk2 (by simp; omega) ?_)
      intro A3 c3 w3 hV3 hg3 hx3 hy3
      have hb3 := below_append (HV.out _) hg3 (hb.alloc hbz _) (by simp; omega)
      clear hx3 hy3 hg3
      go_wp2_with fail
      rw [u64_div128 m hm]
      go_roundw
      case rel =>
        refine ⟨m / 128, _, c3, A3, pre ++ [m % 128 + 128], rfl, rfl, Pl.U.mk (by have := hm.out; omega), ?_, hV3, hb3⟩
        rw [← HE.out, HE2.out, List.append_assoc]; rfl
      case measure => simp [intOf]; omega

set_option maxRecDepth 100000 in
set_option maxHeartbeats 400000 in
theorem refFold_any (n : Int) (w : World) (hn : Pl.I n) : Calls Try.prog 13 #[.int .i64 n] w fun e w' => e = .returned (.int .u64 ((Pl.fold n : Nat) : Int)) ∧ w = w' := by
  have HI := Lib.hid hn
  clear hn
  by_cases h : 0 ≤ n
  · go_enter Try.func13, Try.ntmps13
    go_wp2
    go_ret
    exact ⟨ret_int (refFold_pos n HI.out h), rfl⟩
  · go_enter Try.func13, Try.ntmps13
    go_wp2
    go_ret
    exact ⟨ret_int (refFold_neg n HI.out (by omega)), rfl⟩
end Go.Proofs.Ytpakbpkcacdpbaa
