/-
  Contracts of crc.take and crc.More, of copybookref02.take and Sum: what each returns for every input, the world left as it was. Condition: the table stands in crc.steps.
-/
import Derived.Test.YtghllmdbhhaofaaDoorProg
import Derived.Test.YtghllmdbhhaofaaDoorCrcPlain
import Derived.Test.YtghllmdbhhaofaaDoorNumMem
import Derived.WalkKit
import Derived.WalkSpells
import Derived.WalkLawsBesides
import Derived.IntWalk
import Derived.Lib.Hide
import Derived.Laws.BitsAllLaws
import Derived.Laws.Bits64
namespace Go.Proofs.YtghllmdbhhaofaaDoor
open Go.RowKit

theorem ret_int {k : IntKind} {a b : Int} (h : a = b) : Ending.returned (.int k a) = .returned (.int k b) := by rw [h]
/-- the table stands in crc.steps -/
def Tab (w : World) : Prop := 0 < w.heap.size ∧ ∀ i, i < 16 → w.cell? ⟨0, i, none⟩ = some (.int .u32 ((Pl.tab.getD i 0 : Nat) : Int))
theorem Tab.at_ {w : World} (h : Tab w) {i : Nat} (hi : i < 16) : w.cell? ⟨0, i, none⟩ = some (.int .u32 ((Pl.tab.getD i 0 : Nat) : Int)) := h.2 i hi
theorem Tab.pos {w : World} (h : Tab w) : 0 < w.heap.size := h.1
theorem Tab.below {w w' : World} {B : Nat} (h : Tab w) (hb : Below B w w') (hB : 0 < B) : Tab w' := ⟨Nat.lt_of_lt_of_le h.1 (hb.size), fun i hi => (hb.cell hB).trans (h.2 i hi)⟩
theorem and15 (x : Nat) (h : Pl.W x) : bits BinOp.and IntKind.u32 (x : Int) 15 = ((x % 16 : Nat) : Int) := by
  have := u32_and_nat x 15 h.out (by omega)
  rw [nat_mask4] at this
  exact this
theorem xor32 (x y : Nat) (h : Pl.W x) (k : Pl.W y) : bits BinOp.xor IntKind.u32 (x : Int) (y : Int) = ((x ^^^ y : Nat) : Int) := u32_xor_nat x y h.out k.out
theorem xor_max (x : Nat) (h : Pl.W x) : bits BinOp.xor IntKind.u32 IntKind.u32.max (x : Int) = ((Pl.neg x : Nat) : Int) := by
  rw [Pl.neg_xor h, Nat.xor_comm]
  exact u32_xor_nat 4294967295 x (by omega) h.out
theorem tab_W (i : Nat) : Pl.W (Pl.tab.getD i 0) := by
  by_cases h : i < 16
  · have : ∀ i, i < 16 → Pl.tab.getD i 0 < 4294967296 := by decide
    exact Pl.W.mk (this i h)
  · rw [List.getD_eq_getElem?_getD, List.getElem?_eq_none (by show 16 ≤ i; omega)]; exact Pl.W.mk (by decide)

theorem look (y : Nat) (w : World) (hT : Tab w) (hy : Pl.W y) : ∃ i t : Nat, i < 16 ∧ bits BinOp.and IntKind.u32 (y : Int) 15 = (i : Int) ∧ w.cell? ⟨0, i, none⟩ = some (.int .u32 (t : Int)) ∧
    bits BinOp.xor IntKind.u32 ((y : Int) / 16) (t : Int) = ((Pl.st4 y : Nat) : Int) := by
  refine ⟨y % 16, Pl.tab.getD (y % 16) 0, by omega, and15 y hy, hT.at_ (by omega), ?_⟩
  rw [← Pl.st4_tab, ← xor32 (y / 16) _ (Pl.W.mk (by have := hy.out; omega)) (tab_W _)]
  rfl
set_option maxRecDepth 100000 in
set_option maxHeartbeats 400000 in
theorem take_any (x c : Nat) (w : World) (hT : Tab w) (hx : Pl.W x) (hc : c < 256) :
    Calls Tryd.prog 20 #[.int .u32 (x : Int), .int .u8 (c : Int)] w fun e w' => e = .returned (.int .u32 ((Pl.tk x c : Nat) : Int)) ∧ w = w' := by
  have hy := Pl.W_xor hx (Pl.W_byte hc)
  have e1 := xor32 x c hx (Pl.W_byte hc)
  obtain ⟨i, t, hi, e2, e3, e4⟩ := look (x ^^^ c) w hT hy
  obtain ⟨j, u, hj, e5, e6, e7⟩ := look (Pl.st4 (x ^^^ c)) w hT (Pl.st4_W hy)
  have e8 : Pl.st4 (Pl.st4 (x ^^^ c)) = Pl.tk x c := rfl
  rw [e8] at e7
  clear e8
  obtain ⟨r, hr⟩ : ∃ r, r = Pl.tk x c := ⟨_, rfl⟩
  rw [← hr] at e7 ⊢
  clear hr
  obtain ⟨z, hz⟩ : ∃ z, z = Pl.st4 (x ^^^ c) := ⟨_, rfl⟩
  rw [← hz] at e4 e5 e7
  clear hz
  obtain ⟨y, hy2⟩ : ∃ y, y = x ^^^ c := ⟨_, rfl⟩
  rw [← hy2] at e1 e2 e4
  clear hy2 hy
  go_enter Tryd.func20, Tryd.ntmps20
  go_wp2
  go_ret
  exact ⟨rfl, rfl⟩

/-- More's loop at its round j -/
def MRel (x : Nat) (bs : List Nat) (r i : Value) : Prop := ∃ (j y : Nat), j ≤ bs.length ∧ i = .int .i64 (j : Int) ∧ r = .int .u32 (y : Int) ∧ Pl.W y ∧ y = Pl.run x (bs.take j)

set_option maxRecDepth 100000 in
set_option maxHeartbeats 400000 in
theorem more_any (A : Option Addr) (n c s : Nat) (bs : List Nat) (w : World) (hT : Tab w) (hs : Pl.W s) (hB : Bys w w.heap.size A n c bs) :
    Calls Tryd.prog 17 #[.int .u32 (s : Int), .slice A n c] w fun e w' => e = .returned (.int .u32 ((Pl.more s bs : Nat) : Int)) ∧ w = w' := by
  have hle := hB.le
  have hcap := hB.cap
  have HL := Lib.hid hB.len
  unfold maxLen at hcap
  have e0 := xor_max s hs
  have hx := Pl.neg_W s
  have HM := Lib.hid (show Pl.more s bs = Pl.neg (Pl.run (Pl.neg s) bs) from rfl)
  obtain ⟨x, hx0⟩ : ∃ x, x = Pl.neg s := ⟨_, rfl⟩
  rw [← hx0] at e0 hx HM
  clear hx0
  go_enter Tryd.func17, Tryd.ntmps17
  go_wp2
  clear e0
  go_loop [5, 12] (fun r i => MRel x bs r i) (fun _ i => n - (intOf i).toNat)
  case atStart => exact ⟨0, x, Nat.zero_le _, rfl, rfl, hx, rfl⟩
  case round =>
    obtain ⟨j, y, hj, rfl, rfl, hy, hr⟩ := hrel
    have HR := Lib.hid hr
    clear hr
    have hjn : j ≤ n := by have := HL.out; omega
    by_cases hlt : j < n
    · have hb := Pl.oct_getD hB.oct j
      have HS := Lib.hid (Pl.run_snoc x bs j (by have := HL.out; omega))
      rw [← HR.out] at HS
      obtain ⟨g, o, rfl, hg, hc0⟩ := hB.at_ hlt
      have hc := hc0 j hlt
      clear hc0
      obtain ⟨b, hb0⟩ : ∃ b, b = bs.getD j 0 := ⟨_, rfl⟩
      rw [← hb0] at hb hc HS
      clear hb0
      have HC := Lib.hid (take_any y b w hT hy hb)
      go_wp2_with fail
      refine HC.out.mono ?_
      rintro e w' ⟨rfl, rfl⟩
      go_wp2_with fail
      go_round
      case rel => exact ⟨j + 1, Pl.tk y b, by have := HL.out; omega, by go_num, rfl, Pl.tk_W hy hb, HS.out.symm⟩
      case measure => simp [intOf]; omega
    · have hjn : j = n := by omega
      have e := xor_max y hy
      have HJ := Lib.hid hjn
      clear hjn
      go_wp2_with fail
      go_ret
      refine ⟨ret_int ?_, rfl⟩
      rw [HM.out, HR.out, List.take_of_length_le (by have := HL.out; have := HJ.out; omega)]

theorem ref_step (y : Nat) (hy : Pl.W y) : (y % 2 = 1 → bits BinOp.xor IntKind.u32 ((y : Int) / 2) 3988292384 = ((Pl.st y : Nat) : Int)) ∧ (y % 2 ≠ 1 → (y : Int) / 2 = ((Pl.st y : Nat) : Int)) := by
  unfold Pl.st
  refine ⟨fun h => ?_, fun h => ?_⟩
  · rw [if_pos h]; exact xor32 (y / 2) 3988292384 (Pl.W.mk (by have := hy.out; omega)) (Pl.W.mk (by omega))
  · rw [if_neg h, Nat.xor_zero]; rfl
def stI : Nat → Nat → Nat
  | 0, x => x
  | n + 1, x => Pl.st (stI n x)
theorem stI8 (x : Nat) : stI 8 x = Pl.st8 x := rfl
def TRel (x : Nat) (r i : Value) : Prop := ∃ (j y : Nat), j ≤ 8 ∧ i = .int .i64 (j : Int) ∧ r = .int .u32 (y : Int) ∧ Pl.W y ∧ y = stI j x

set_option maxRecDepth 100000 in
set_option maxHeartbeats 400000 in
theorem rtake_any (x c : Nat) (w : World) (hx : Pl.W x) (hc : c < 256) :
    Calls Tryd.prog 19 #[.int .u32 (x : Int), .int .u8 (c : Int)] w fun e w' => e = .returned (.int .u32 ((Pl.tk x c : Nat) : Int)) ∧ w = w' := by
  have hy := Pl.W_xor hx (Pl.W_byte hc)
  have e1 := xor32 x c hx (Pl.W_byte hc)
  have HT := Lib.hid (show stI 8 (x ^^^ c) = Pl.tk x c from rfl)
  obtain ⟨y0, hy2⟩ : ∃ y, y = x ^^^ c := ⟨_, rfl⟩
  rw [← hy2] at e1 HT hy
  clear hy2
  go_enter Tryd.func19, Tryd.ntmps19
  go_wp2
  clear e1
  go_loop [0, 5] (fun r i => TRel y0 r i) (fun _ i => 8 - (intOf i).toNat)
  case atStart => exact ⟨0, y0, Nat.zero_le _, rfl, rfl, hy, rfl⟩
  case round =>
    obtain ⟨j, y, hj, rfl, rfl, hyW, hr⟩ := hrel
    have HR := Lib.hid hr
    clear hr
    by_cases hlt : j < 8
    · have hs := ref_step y hyW
      by_cases hp : y % 2 = 1
      · have e := hs.1 hp
        have hy2 := hyW.out
        have hw : (y : Int) / 2 % 4294967296 = (y : Int) / 2 := by omega
        have hp2 : (y : Int) % 2 = 1 := by omega
        have HP := Lib.hid hp
        clear hs hp
        go_wp2_with fail
        go_round
        case rel => exact ⟨j + 1, Pl.st y, by omega, by go_num, rfl, Pl.st_W hyW, by rw [HR.out]; rfl⟩
        case measure => simp [intOf]; omega
      · have e := hs.2 hp
        have hz := (Pl.st_W hyW).out
        have hw : ((Pl.st y : Nat) : Int) % 4294967296 = ((Pl.st y : Nat) : Int) := by omega
        have hp2 : (y : Int) % 2 = 0 := by omega
        have HP := Lib.hid hp
        clear hs hp
        go_wp2_with fail
        go_round
        case rel => exact ⟨j + 1, Pl.st y, by omega, by go_num, rfl, Pl.st_W hyW, by rw [HR.out]; rfl⟩
        case measure => simp [intOf]; omega
    · have hj8 : j = 8 := by omega
      subst hj8
      go_wp2_with fail
      go_ret
      exact ⟨ret_int (by rw [HR.out, HT.out]), rfl⟩

set_option maxRecDepth 100000 in
set_option maxHeartbeats 400000 in
theorem rsum_any (A : Option Addr) (n c : Nat) (bs : List Nat) (w : World) (hB : Bys w w.heap.size A n c bs) :
    Calls Tryd.prog 14 #[.slice A n c] w fun e w' => e = .returned (.int .u32 ((Pl.sum bs : Nat) : Int)) ∧ w = w' := by
  have hle := hB.le
  have hcap := hB.cap
  have HL := Lib.hid hB.len
  unfold maxLen at hcap
  have HM := Lib.hid (show Pl.sum bs = Pl.neg (Pl.run 4294967295 bs) from rfl)
  go_enter Tryd.func14, Tryd.ntmps14
  go_wp2
  go_loop [3, 4] (fun r i => MRel 4294967295 bs r i) (fun _ i => n - (intOf i).toNat)
  case atStart => exact ⟨0, 4294967295, Nat.zero_le _, rfl, rfl, Pl.W.mk (by omega), rfl⟩
  case round =>
    obtain ⟨j, y, hj, rfl, rfl, hy, hr⟩ := hrel
    have HR := Lib.hid hr
    clear hr
    have hjn : j ≤ n := by have := HL.out; omega
    by_cases hlt : j < n
    · have hb := Pl.oct_getD hB.oct j
      have HS := Lib.hid (Pl.run_snoc 4294967295 bs j (by have := HL.out; omega))
      rw [← HR.out] at HS
      obtain ⟨g, o, rfl, hg, hc0⟩ := hB.at_ hlt
      have hc := hc0 j hlt
      clear hc0
      obtain ⟨b, hb0⟩ : ∃ b, b = bs.getD j 0 := ⟨_, rfl⟩
      rw [← hb0] at hb hc HS
      clear hb0
      have HC := Lib.hid (rtake_any y b w hy hb)
      go_wp2_with fail
      refine HC.out.mono ?_
      rintro e w' ⟨rfl, rfl⟩
      go_wp2_with fail
      go_round
      case rel => exact ⟨j + 1, Pl.tk y b, by have := HL.out; omega, by go_num, rfl, Pl.tk_W hy hb, HS.out.symm⟩
      case measure => simp [intOf]; omega
    · have hjn : j = n := by omega
      have hy2 := hy.out
      have HJ := Lib.hid hjn
      clear hjn
      go_wp2_with fail
      go_ret
      refine ⟨ret_int ?_, rfl⟩
      have e : Pl.run 4294967295 bs = y := by rw [HR.out, List.take_of_length_le (by have := HL.out; have := HJ.out; omega)]
      rw [HM.out, e]
      unfold Pl.neg
      omega
end Go.Proofs.YtghllmdbhhaofaaDoor
