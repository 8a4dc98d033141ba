/-
  Contract of the statements' own Chars: a string's bytes as code points, in new memory. Condition: the string has at most 2^20 bytes.
-/
import Derived.Test.YtogmddneimhpeaaPceN
namespace Go.Proofs.Ytogmddneimhpeaa
open Go.RowKit
open Pl (Pc Plc Tab)

/-- a string's bytes as code points -/
def chs (s : ByteArray) : List Int := s.data.toList.map fun b => (b.toNat : Int)
theorem chs_js (s : ByteArray) : ∀ x ∈ chs s, Pl.J x := by
  intro x hx
  obtain ⟨b, _, rfl⟩ := List.mem_map.1 hx
  have h := b.toNat_lt
  have h2 : b.toNat < 256 := h
  exact ⟨by omega, by omega⟩
theorem len_chs (s : ByteArray) : (chs s).length = s.size := by
  unfold chs
  rw [List.length_map, Array.length_toList]; rfl
def ChRel (w : World) (cs : List Int) (l i : Value) (wr : World) : Prop := ∃ (j : Nat) (A : Option Addr) (c : Nat), i = .int .i64 (j : Int) ∧ j ≤ cs.length ∧ l = .slice A j c ∧ OwnC wr w.heap.size (.slice A j c) (cs.take j) ∧ Below w.heap.size w wr
set_option maxRecDepth 100000 in
set_option maxHeartbeats 1000000 in
theorem chars_any (s : ByteArray) (w : World) (hs : s.size ≤ 1048576) : Calls Try.prog 23 #[.string s] w (RetC w (chs s)) := by
  have hl := len_chs s
  obtain ⟨n, hn⟩ : ∃ n, n = s.size := ⟨_, rfl⟩
  rw [← hn] at hs hl
  have HL := Lib.hid (And.intro hl hn)
  have hsz : s.size = n := hn.symm
  clear hl hn
  go_enter Try.func23, Try.ntmps23
  go_wp2_with fail
  go_loopw [3, 4] (fun l i wr => ChRel w (chs s) l i wr) (fun _ i _ => n - (intOf i).toNat)
  case atStart => exact ⟨0, none, 0, rfl, Nat.zero_le _, rfl, OwnC.nil_ _ _, Below.refl _ _⟩
  case round =>
    obtain ⟨j, A, c, rfl, hj, rfl, hO, hb⟩ := hrel
    rw [HL.out.1] at hj
    have HO := Lib.hid hO
    have HB := Lib.hid hb
    by_cases hlt : j < n
    · have hlt2 : j < s.size := by omega
      have hat : (chs s)[j]? = some ((s[j].toNat : Nat) : Int) := by
        unfold chs
        rw [List.getElem?_map, Array.getElem?_toList, Array.getElem?_eq_getElem (show j < s.data.size from hlt2)]
        rfl
      have hb256 : s[j].toNat < 256 := s[j].toNat_lt
      have hwr : wrap32 ((s[j].toNat : Nat) : Int) = ((s[j].toNat : Nat) : Int) := by unfold wrap32; omega
      have HT := Lib.hid (show (chs s).take j ++ [wrap32 ((s[j].toNat : Nat) : Int)] = (chs s).take (j + 1) by rw [hwr, List.take_add_one, hat]; rfl)
      have HO2 := Lib.hid (hO.alloc (.cells #[.int .i32 (wrap32 ((s[j].toNat : Nat) : Int))] 29))
      have HS2 := Lib.hid (crs_lit wr [wrap32 ((s[j].toNat : Nat) : Int)] (fun y hy => by simp at hy; rw [hy, hwr]; exact ⟨by omega, by omega⟩) (by unfold maxLen; simp)).crs.2
      have HB3 := Lib.hid (hb.alloc hb.size (.cells #[.int .i32 (wrap32 ((s[j].toNat : Nat) : Int))] 29))
      clear hO hb hat hb256 hwr
      go_wp2_with (at_builtin; refine wpList_append_crs (wr.alloc (.cells #[.int .i32 (wrap32 ((s[j].toNat : Nat) : Int))] 29)) rfl (.tmp 11) (.tmp 16) rfl w.heap.size A j c ((chs s).take j) (by rfl) HO2.out _ (some ⟨wr.heap.size, 0, none⟩) 1 1 [wrap32 ((s[j].toNat : Nat) : Int)] (by rfl) HS2.out (by omega) HB3.out.size ?_)
      intro A4 c4 w4 hO4 hg4 _
      have HB4 := Lib.hid (below_appendC HO2.out hg4 HB3.out HB3.out.size)
      rw [HT.out] at hO4
      have HO4 := Lib.hid hO4
      clear hO4 hg4
      go_wp2_with fail
      go_roundw
      case rel => exact ⟨j + 1, A4, c4, by go_num, by rw [HL.out.1]; omega, rfl, HO4.out, HB4.out⟩
      case measure => simp [intOf]; omega
    · have hjn : j = n := by omega
      have HO5 := Lib.hid (show OwnC wr w.heap.size (.slice A (chs s).length c) (chs s) by rw [HL.out.1, ← hjn]; rw [hjn, ← HL.out.1, List.take_length] at hO; rw [hjn, ← HL.out.1]; exact hO)
      have HE := Lib.hid (show Value.slice A j c = .slice A (chs s).length c by rw [HL.out.1, hjn])
      clear hO hb hjn
      go_wp2_with fail
      go_ret
      exact ⟨A, c, congrArg Ending.returned HE.out, HO5.out, HB.out⟩
end Go.Proofs.Ytogmddneimhpeaa
