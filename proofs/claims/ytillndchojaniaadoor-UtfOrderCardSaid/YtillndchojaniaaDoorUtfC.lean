/-
  The tables of utf in memory; contract of utf.put: it lays a code point's bytes behind bytes of the call's own. Conditions: the tables stand in utf.sizes and utf.marks; the code point may be; what comes out has at most 2^47 bytes.
-/
import Derived.Test.YtillndchojaniaaDoorUtfB
import Derived.Laws.BitsLemmas
import Derived.Laws.BitsAllLaws
import Derived.Deep.RegionHeld3
import Derived.Deep.AppendLies
namespace Go.Proofs.YtillndchojaniaaDoor
open Go.RowKit

def Pl.szTab : List Nat := [1, 1, 1, 1, 1, 1, 1, 1, 1, 1, 1, 1, 1, 1, 1, 1, 0, 0, 0, 0, 0, 0, 0, 0, 2, 2, 2, 2, 3, 3, 4, 0]
def Pl.mkTab : List Nat := [0, 0, 192, 224, 240]
/-- the tables stand in utf.sizes and utf.marks -/
def Tab (w : World) : Prop := 1 < w.heap.size ∧ (∀ i, i < 32 → w.cell? ⟨1, i, none⟩ = some (.int .i64 ((Pl.szTab.getD i 0 : Nat) : Int))) ∧
  (∀ i, i < 5 → w.cell? ⟨0, i, none⟩ = some (.int .u8 ((Pl.mkTab.getD i 0 : Nat) : Int)))
theorem Tab.pos {w : World} (h : Tab w) : 1 < w.heap.size := h.1
theorem Tab.sz {w : World} (h : Tab w) {i : Nat} (hi : i < 32) : w.cell? ⟨1, i, none⟩ = some (.int .i64 ((Pl.szTab.getD i 0 : Nat) : Int)) := h.2.1 i hi
theorem Tab.mk {w : World} (h : Tab w) {i : Nat} (hi : i < 5) : w.cell? ⟨0, i, none⟩ = some (.int .u8 ((Pl.mkTab.getD i 0 : Nat) : Int)) := h.2.2 i hi
theorem Tab.below {w w' : World} {B : Nat} (h : Tab w) (hb : Below B w w') (hB : 1 < B) : Tab w' :=
  ⟨Nat.lt_of_lt_of_le h.1 hb.size, fun i hi => (hb.cell (p := ⟨1, i, none⟩) (by show (1 : Nat) < B; omega)).trans (h.sz hi), fun i hi => (hb.cell (p := ⟨0, i, none⟩) (by show (0 : Nat) < B; omega)).trans (h.mk hi)⟩
theorem Tab.then_ {w w' : World} (h : Tab w) (hb : Below w.heap.size w w') : Tab w' := h.below hb h.pos

/-- the last j bytes of a number -/
def Pl.tl (n : Nat) : Nat → List Nat
  | 0 => []
  | j + 1 => (128 + n / 64 ^ j % 64) :: Pl.tl n j

/-- append onto bytes of one's own at a step of a region that draws its order -/
theorem step_append_bys (w : World) {ops : Array Oper} {o : Oper} {a : Act} {K : Act → World → Prop} {Q : Exit → Act → World → Prop} {E : Prop} (hgd : o.guard = none) (s x : Operand)
    (ho : o.op = .call { callee := .builtin .append, args := #[s, x], argTypes := #[23, 23] })
    (base : Nat) (A : Option Addr) (n c : Nat) (bs : List Nat) (hs : a.eval s = .slice A n c) (hown : OwnV w base (.slice A n c) bs)
    (B : Nat) (ad : Addr) (m c' : Nat) (cs : List Nat) (hx : a.eval x = .slice (some ad) m c') (hsrc : Bys w B (some ad) m c' cs) (hm : 0 < m)
    (hfit : n + m ≤ 140737488355328) (hbase : base ≤ w.heap.size)
    (h : ∀ A2 c2 w', OwnV w' base (.slice A2 (n + m) c2) (bs ++ cs) → Below base w w' → K (a.put o.dst (.slice A2 (n + m) c2)) w') :
    if Region.wanted o (yielded ops a.tmps) = true then Oper.wp Tryd.prog o a w K Q else E := by
  obtain ⟨i0, hi, hz0, hz1, hz2⟩ := info_parts infoByte
  obtain ⟨hn, _⟩ := hown.bys
  have hl := hsrc.len
  refine step_append_lies w hgd s x 23 ho base 5 i0 (.int .u8 0) 1 1 Tryd.underlying23 hi hz0 hz1 hz2 rfl (by decide) (.slice A n c) n (cellsOf bs) hs (by rw [hn]; rw [hn] at hown; exact hown.1) ad m c' (cellsOf cs) hx
    (by rw [len_cells, hl, Nat.mul_one]) (hsrc.src.2 ad rfl) (cells_one cs) hm (by unfold maxLen; omega) (by omega) hbase w.heap.size rfl ?_
  intro g cap w1 hv hg _ _
  refine h _ _ w1 ⟨?_, Pl.oct_append hown.2 hsrc.oct⟩ (below_append hown hg (Below.refl _ _) hbase)
  rw [List.length_append, ← hn, hl, cells_append]
  exact hv
/-- the same, of one byte that was just laid -/
theorem step_append_byte (w W : World) {x : Nat} {C : Array Value} (hW : W = (w.alloc (.cells C 5)).drew) (hC : C = #[.int .u8 (x : Int)]) (hx : x < 256) {ops : Array Oper} {o : Oper} {a : Act} {K : Act → World → Prop} {Q : Exit → Act → World → Prop} {E : Prop} (hgd : o.guard = none) (s y : Operand)
    (ho : o.op = .call { callee := .builtin .append, args := #[s, y], argTypes := #[23, 23] })
    (base : Nat) (A : Option Addr) (n c : Nat) (bs : List Nat) (hs : a.eval s = .slice A n c) (hown : OwnV w base (.slice A n c) bs)
    (hy : a.eval y = .slice (some ⟨w.heap.size, 0, none⟩) 1 1)
    (hfit : n + 1 ≤ 140737488355328) (hbase : base ≤ w.heap.size)
    (h : ∀ A2 c2 w', OwnV w' base (.slice A2 (n + 1) c2) (bs ++ [x]) → Below base w w' → K (a.put o.dst (.slice A2 (n + 1) c2)) w') :
    if Region.wanted o (yielded ops a.tmps) = true then Oper.wp Tryd.prog o a W K Q else E := by
  subst hC hW
  have hb : Bys (w.alloc (.cells #[.int .u8 (x : Int)] 5)).drew (w.heap.size + 1) (some ⟨w.heap.size, 0, none⟩) 1 1 [x] := bys_lit w [x] (fun y hy => by simp at hy; omega) (by unfold maxLen; simp)
  have h0 : Below base w (w.alloc (.cells #[.int .u8 (x : Int)] 5)).drew := below_drawn ((Below.refl _ w).alloc hbase _)
  have hO : OwnV (w.alloc (.cells #[.int .u8 (x : Int)] 5)).drew base (.slice A n c) bs := hown.alloc (.cells #[.int .u8 (x : Int)] 5)
  exact step_append_bys _ hgd s y ho base A n c bs hs hO _ _ 1 1 [x] hy hb (by omega) hfit (Nat.le_trans hbase h0.size) fun A2 c2 w' h1 h2 => h A2 c2 w' h1 (h0.trans h2)
/-- the same at a plain list of operations -/
theorem wpList_append_byte (w : World) {W : World} {x : Nat} (hx : x < 256) {v : Int} (hW : W = w.alloc (.cells #[.int .u8 v] 5)) (hv : v = (x : Int)) {ops : Array Oper} {rest : List Oper} {o : Oper} {a : Act} {Q : Exit → Act → World → Prop} (hgd : o.guard = none) (s y : Operand)
    (ho : o.op = .call { callee := .builtin .append, args := #[s, y], argTypes := #[23, 23] })
    (base : Nat) (A : Option Addr) (n c : Nat) (bs : List Nat) (hs : a.eval s = .slice A n c) (hown : OwnV w base (.slice A n c) bs)
    (hy : a.eval y = .slice (some ⟨w.heap.size, 0, none⟩) 1 1)
    (hfit : n + 1 ≤ 140737488355328) (hbase : base ≤ w.heap.size)
    (h : ∀ A2 c2 w', OwnV w' base (.slice A2 (n + 1) c2) (bs ++ [x]) → Below base w w' → wpList Tryd.prog ops Q rest (a.put o.dst (.slice A2 (n + 1) c2)) w') :
    wpList Tryd.prog ops Q (o :: rest) a W := by
  subst hv hW
  have hb : Bys (w.alloc (.cells #[.int .u8 (x : Int)] 5)) (w.heap.size + 1) (some ⟨w.heap.size, 0, none⟩) 1 1 [x] := bys_lit w [x] (fun y hy => by simp at hy; omega) (by unfold maxLen; simp)
  have h0 : Below base w (w.alloc (.cells #[.int .u8 (x : Int)] 5)) := (Below.refl _ w).alloc hbase _
  have hO : OwnV (w.alloc (.cells #[.int .u8 (x : Int)] 5)) base (.slice A n c) bs := hown.alloc (.cells #[.int .u8 (x : Int)] 5)
  refine wpList_append_bys _ hgd s y ho base A n c bs hs hO _ _ 1 1 [x] hy hb hfit (Nat.le_trans hbase h0.size) fun A2 c2 w' h1 h2 _ _ => h A2 c2 w' h1 (below_append hO h2 h0 (Nat.le_trans hbase h0.size))

/-- put's loop: j bytes are left -/
def PRel (w : World) (base n : Nat) (x : Nat) (bs : List Nat) (b rest : Value) (wr : World) : Prop :=
  ∃ (j : Nat) (r : Int) (A : Option Addr) (m cap : Nat) (done : List Nat), rest = .int .i64 r ∧ r = 6 * (j : Int) ∧ j ≤ 3 ∧ b = .slice A m cap ∧ OwnV wr base (.slice A m cap) (bs ++ done) ∧ Below base w wr ∧ done ++ Pl.tl x j = Pl.one x ∧ m + j = n

set_option maxRecDepth 100000 in
set_option maxHeartbeats 1000000 in
theorem put_any (c : Int) (w : World) (hT : Tab w) (hm : Pl.May c) (base n cap : Nat) (A : Option Addr) (bs : List Nat) (hown : OwnV w base (.slice A n cap) bs) (hbase : base ≤ w.heap.size) (hpos : 1 < base) (hfit : n + 4 ≤ 140737488355328) :
    Calls Tryd.prog 22 #[.slice A n cap, .int .i32 c, .int .i64 ((Pl.size c : Nat) : Int)] w fun e w' => ∃ A2 c2, e = .returned (.slice A2 (n + Pl.size c) c2) ∧ OwnV w' base (.slice A2 (n + Pl.size c) c2) (bs ++ Pl.uno c) ∧ Below base w w' := by
  have hle := hm.le
  obtain ⟨x, rfl⟩ : ∃ x : Nat, c = (x : Int) := ⟨c.toNat, by omega⟩
  have HU := Lib.hid (show Pl.uno (x : Int) = Pl.one x by simp [Pl.uno])
  rw [HU.out]
  rcases Pl.size_cases hm with ⟨h1, e1⟩ | ⟨h1, h2, e1⟩ | ⟨h1, h2, e1⟩ | ⟨h1, e1⟩
  · rw [e1]
    have hk : w.cell? ⟨0, 1, none⟩ = some (.int .u8 0) := hT.mk (i := 1) (by decide)
    obtain ⟨y, hy⟩ : ∃ y : Nat, y = x := ⟨_, rfl⟩
    have hy6 : y < 256 := by omega
    have ho : bits .or .u8 0 (IntKind.u8.wrap (x : Int)) = (y : Int) := by
      have := u8_or_nat 0 x (by omega) (by omega)
      rw [Nat.zero_or] at this
      rw [IntKind.wrap_u8, Int.emod_eq_of_lt (by omega) (by omega), hy]; exact this
    have HE := Lib.hid (show [y] ++ Pl.tl x 0 = Pl.one x by
      rw [hy, Pl.one]
      rw [if_pos (by omega)]
      simp [Pl.tl])
    clear hy
    go_enter Tryd.func22, Tryd.ntmps22
    go_wp2_with fail
    go_region_held3 (fun w' => w'.cell? ⟨0, 1, none⟩ = some (.int .u8 0))
      (first | go_keep | exact (hbel.cell (show 0 < base by omega)).trans hk)
      ((refine step_append_byte w _ (x := y) (by rfl) (by first | rfl | rw [ho]) (by omega) (by rfl) _ _ (by rfl) base A n cap bs (by rfl) hown (by rfl) (by omega) hbase ?_; intro A2 c2 w1 hO1 hbel))
    clear hk ho
    go_wp2_with fail
    go_loopw [0, 7] (fun b r wr => PRel w base (n + 1) x bs b r wr) (fun _ r _ => (intOf r).toNat)
    case atStart => exact ⟨0, _, A2, n + 1, c2, [y], rfl, by decide, by omega, rfl, hO1, hbel, HE.out, by omega⟩
    case round =>
      obtain ⟨j, r, A3, m, c3, done, rfl, hr, hj, rfl, hO, hB, hD, hmj⟩ := hrel
      have HD := Lib.hid hD
      have hS := hB.size
      have HF := Lib.hid (And.intro (show m + 1 ≤ 140737488355328 ∨ j = 0 by omega) (show base ≤ wr.heap.size by omega))
      clear hD HE hO1 hfit hown hm hbel hT hS
      rcases (show j = 0 ∨ j = 1 ∨ j = 2 ∨ j = 3 by omega) with rfl | rfl | rfl | rfl
      · obtain rfl : r = 0 := by omega
        obtain rfl : m = n + 1 := by omega
        clear hr hj hmj
        go_wp2_with fail
        go_ret
        refine ⟨A3, c3, rfl, ?_, hB⟩
        have := HD.out
        rw [Pl.tl, List.append_nil] at this
        rw [← this]; exact hO
      · obtain rfl : r = 6 := by omega
        have HM := Lib.hid hmj
        obtain ⟨z, hz⟩ : ∃ z : Nat, z = 128 + x % 64 := ⟨_, rfl⟩
        have HZI := Lib.hid (show (z : Int) = 128 + (x : Int) % 64 by omega)
        have hz6 : z < 256 := by omega
        have HZ := Lib.hid (show done ++ [z] ++ Pl.tl x 0 = Pl.one x by rw [← HD.out, hz]; simp [Pl.tl])
        clear hz hr hj hmj
        go_wp2_with (at_builtin; refine wpList_append_byte wr (x := z) hz6 (by rfl) (by have := HZI.out; omega) (by rfl) (.tmp 26) (.tmp 33) (by rfl) base A3 m c3 (bs ++ done) (by rfl) hO (by rfl) (by have := HF.out.1; omega) HF.out.2 ?_)
        intro A4 c4 w4 hO4 hB4
        go_wp2_with fail
        go_roundw
        case rel => exact ⟨0, 0, A4, m + 1, c4, done ++ [z], rfl, by decide, by omega, rfl, by first | exact hO4 | (rw [← List.append_assoc]; exact hO4), hB.trans hB4, HZ.out, by have := HM.out; omega⟩
        case measure => simp [intOf]
      · obtain rfl : r = 12 := by omega
        have HM := Lib.hid hmj
        obtain ⟨z, hz⟩ : ∃ z : Nat, z = 128 + x / 64 % 64 := ⟨_, rfl⟩
        have HZI := Lib.hid (show (z : Int) = 128 + (x : Int) / 64 % 64 by omega)
        have hz6 : z < 256 := by omega
        have HZ := Lib.hid (show done ++ [z] ++ Pl.tl x 1 = Pl.one x by rw [← HD.out, hz]; simp [Pl.tl])
        clear hz hr hj hmj
        go_wp2_with (at_builtin; refine wpList_append_byte wr (x := z) hz6 (by rfl) (by have := HZI.out; omega) (by rfl) (.tmp 26) (.tmp 33) (by rfl) base A3 m c3 (bs ++ done) (by rfl) hO (by rfl) (by have := HF.out.1; omega) HF.out.2 ?_)
        intro A4 c4 w4 hO4 hB4
        go_wp2_with fail
        go_roundw
        case rel => exact ⟨1, 6, A4, m + 1, c4, done ++ [z], rfl, by decide, by omega, rfl, by first | exact hO4 | (rw [← List.append_assoc]; exact hO4), hB.trans hB4, HZ.out, by have := HM.out; omega⟩
        case measure => simp [intOf]
      · obtain rfl : r = 18 := by omega
        have HM := Lib.hid hmj
        obtain ⟨z, hz⟩ : ∃ z : Nat, z = 128 + x / 4096 % 64 := ⟨_, rfl⟩
        have HZI := Lib.hid (show (z : Int) = 128 + (x : Int) / 4096 % 64 by omega)
        have hz6 : z < 256 := by omega
        have HZ := Lib.hid (show done ++ [z] ++ Pl.tl x 2 = Pl.one x by rw [← HD.out, hz]; simp [Pl.tl])
        clear hz hr hj hmj
        go_wp2_with (at_builtin; refine wpList_append_byte wr (x := z) hz6 (by rfl) (by have := HZI.out; omega) (by rfl) (.tmp 26) (.tmp 33) (by rfl) base A3 m c3 (bs ++ done) (by rfl) hO (by rfl) (by have := HF.out.1; omega) HF.out.2 ?_)
        intro A4 c4 w4 hO4 hB4
        go_wp2_with fail
        go_roundw
        case rel => exact ⟨2, 12, A4, m + 1, c4, done ++ [z], rfl, by decide, by omega, rfl, by first | exact hO4 | (rw [← List.append_assoc]; exact hO4), hB.trans hB4, HZ.out, by have := HM.out; omega⟩
        case measure => simp [intOf]
  · rw [e1]
    have hk : w.cell? ⟨0, 2, none⟩ = some (.int .u8 192) := hT.mk (i := 2) (by decide)
    obtain ⟨y, hy⟩ : ∃ y : Nat, y = 192 + x / 64 := ⟨_, rfl⟩
    have hy6 : y < 256 := by omega
    have ho : bits .or .u8 192 (IntKind.u8.wrap ((x : Int) / 64)) = (y : Int) := by
      rw [IntKind.wrap_u8, Int.emod_eq_of_lt (by omega) (by omega), u8_or192 (y := (x : Int) / 64) (by omega) (by omega)]; omega
    have HE := Lib.hid (show [y] ++ Pl.tl x 1 = Pl.one x by
      rw [hy, Pl.one]
      rw [if_neg (by omega), if_pos (by omega)]
      simp [Pl.tl])
    clear hy
    go_enter Tryd.func22, Tryd.ntmps22
    go_wp2_with fail
    go_region_held3 (fun w' => w'.cell? ⟨0, 2, none⟩ = some (.int .u8 192))
      (first | go_keep | exact (hbel.cell (show 0 < base by omega)).trans hk)
      ((refine step_append_byte w _ (x := y) (by rfl) (by first | rfl | rw [ho]) (by omega) (by rfl) _ _ (by rfl) base A n cap bs (by rfl) hown (by rfl) (by omega) hbase ?_; intro A2 c2 w1 hO1 hbel))
    clear hk ho
    go_wp2_with fail
    go_loopw [0, 7] (fun b r wr => PRel w base (n + 2) x bs b r wr) (fun _ r _ => (intOf r).toNat)
    case atStart => exact ⟨1, _, A2, n + 1, c2, [y], rfl, by decide, by omega, rfl, hO1, hbel, HE.out, by omega⟩
    case round =>
      obtain ⟨j, r, A3, m, c3, done, rfl, hr, hj, rfl, hO, hB, hD, hmj⟩ := hrel
      have HD := Lib.hid hD
      have hS := hB.size
      have HF := Lib.hid (And.intro (show m + 1 ≤ 140737488355328 ∨ j = 0 by omega) (show base ≤ wr.heap.size by omega))
      clear hD HE hO1 hfit hown hm hbel hT hS
      rcases (show j = 0 ∨ j = 1 ∨ j = 2 ∨ j = 3 by omega) with rfl | rfl | rfl | rfl
      · obtain rfl : r = 0 := by omega
        obtain rfl : m = n + 2 := by omega
        clear hr hj hmj
        go_wp2_with fail
        go_ret
        refine ⟨A3, c3, rfl, ?_, hB⟩
        have := HD.out
        rw [Pl.tl, List.append_nil] at this
        rw [← this]; exact hO
      · obtain rfl : r = 6 := by omega
        have HM := Lib.hid hmj
        obtain ⟨z, hz⟩ : ∃ z : Nat, z = 128 + x % 64 := ⟨_, rfl⟩
        have HZI := Lib.hid (show (z : Int) = 128 + (x : Int) % 64 by omega)
        have hz6 : z < 256 := by omega
        have HZ := Lib.hid (show done ++ [z] ++ Pl.tl x 0 = Pl.one x by rw [← HD.out, hz]; simp [Pl.tl])
        clear hz hr hj hmj
        go_wp2_with (at_builtin; refine wpList_append_byte wr (x := z) hz6 (by rfl) (by have := HZI.out; omega) (by rfl) (.tmp 26) (.tmp 33) (by rfl) base A3 m c3 (bs ++ done) (by rfl) hO (by rfl) (by have := HF.out.1; omega) HF.out.2 ?_)
        intro A4 c4 w4 hO4 hB4
        go_wp2_with fail
        go_roundw
        case rel => exact ⟨0, 0, A4, m + 1, c4, done ++ [z], rfl, by decide, by omega, rfl, by first | exact hO4 | (rw [← List.append_assoc]; exact hO4), hB.trans hB4, HZ.out, by have := HM.out; omega⟩
        case measure => simp [intOf]
      · obtain rfl : r = 12 := by omega
        have HM := Lib.hid hmj
        obtain ⟨z, hz⟩ : ∃ z : Nat, z = 128 + x / 64 % 64 := ⟨_, rfl⟩
        have HZI := Lib.hid (show (z : Int) = 128 + (x : Int) / 64 % 64 by omega)
        have hz6 : z < 256 := by omega
        have HZ := Lib.hid (show done ++ [z] ++ Pl.tl x 1 = Pl.one x by rw [← HD.out, hz]; simp [Pl.tl])
        clear hz hr hj hmj
        go_wp2_with (at_builtin; refine wpList_append_byte wr (x := z) hz6 (by rfl) (by have := HZI.out; omega) (by rfl) (.tmp 26) (.tmp 33) (by rfl) base A3 m c3 (bs ++ done) (by rfl) hO (by rfl) (by have := HF.out.1; omega) HF.out.2 ?_)
        intro A4 c4 w4 hO4 hB4
        go_wp2_with fail
        go_roundw
        case rel => exact ⟨1, 6, A4, m + 1, c4, done ++ [z], rfl, by decide, by omega, rfl, by first | exact hO4 | (rw [← List.append_assoc]; exact hO4), hB.trans hB4, HZ.out, by have := HM.out; omega⟩
        case measure => simp [intOf]
      · obtain rfl : r = 18 := by omega
        have HM := Lib.hid hmj
        obtain ⟨z, hz⟩ : ∃ z : Nat, z = 128 + x / 4096 % 64 := ⟨_, rfl⟩
        have HZI := Lib.hid (show (z : Int) = 128 + (x : Int) / 4096 % 64 by omega)
        have hz6 : z < 256 := by omega
        have HZ := Lib.hid (show done ++ [z] ++ Pl.tl x 2 = Pl.one x by rw [← HD.out, hz]; simp [Pl.tl])
        clear hz hr hj hmj
        go_wp2_with (at_builtin; refine wpList_append_byte wr (x := z) hz6 (by rfl) (by have := HZI.out; omega) (by rfl) (.tmp 26) (.tmp 33) (by rfl) base A3 m c3 (bs ++ done) (by rfl) hO (by rfl) (by have := HF.out.1; omega) HF.out.2 ?_)
        intro A4 c4 w4 hO4 hB4
        go_wp2_with fail
        go_roundw
        case rel => exact ⟨2, 12, A4, m + 1, c4, done ++ [z], rfl, by decide, by omega, rfl, by first | exact hO4 | (rw [← List.append_assoc]; exact hO4), hB.trans hB4, HZ.out, by have := HM.out; omega⟩
        case measure => simp [intOf]
  · rw [e1]
    have hk : w.cell? ⟨0, 3, none⟩ = some (.int .u8 224) := hT.mk (i := 3) (by decide)
    obtain ⟨y, hy⟩ : ∃ y : Nat, y = 224 + x / 4096 := ⟨_, rfl⟩
    have hy6 : y < 256 := by omega
    have ho : bits .or .u8 224 (IntKind.u8.wrap ((x : Int) / 4096)) = (y : Int) := by
      rw [IntKind.wrap_u8, Int.emod_eq_of_lt (by omega) (by omega), u8_or224 (y := (x : Int) / 4096) (by omega) (by omega)]; omega
    have HE := Lib.hid (show [y] ++ Pl.tl x 2 = Pl.one x by
      rw [hy, Pl.one]
      rw [if_neg (by omega), if_neg (by omega), if_pos (by omega)]
      simp [Pl.tl])
    clear hy
    go_enter Tryd.func22, Tryd.ntmps22
    go_wp2_with fail
    go_region_held3 (fun w' => w'.cell? ⟨0, 3, none⟩ = some (.int .u8 224))
      (first | go_keep | exact (hbel.cell (show 0 < base by omega)).trans hk)
      ((refine step_append_byte w _ (x := y) (by rfl) (by first | rfl | rw [ho]) (by omega) (by rfl) _ _ (by rfl) base A n cap bs (by rfl) hown (by rfl) (by omega) hbase ?_; intro A2 c2 w1 hO1 hbel))
    clear hk ho
    go_wp2_with fail
    go_loopw [0, 7] (fun b r wr => PRel w base (n + 3) x bs b r wr) (fun _ r _ => (intOf r).toNat)
    case atStart => exact ⟨2, _, A2, n + 1, c2, [y], rfl, by decide, by omega, rfl, hO1, hbel, HE.out, by omega⟩
    case round =>
      obtain ⟨j, r, A3, m, c3, done, rfl, hr, hj, rfl, hO, hB, hD, hmj⟩ := hrel
      have HD := Lib.hid hD
      have hS := hB.size
      have HF := Lib.hid (And.intro (show m + 1 ≤ 140737488355328 ∨ j = 0 by omega) (show base ≤ wr.heap.size by omega))
      clear hD HE hO1 hfit hown hm hbel hT hS
      rcases (show j = 0 ∨ j = 1 ∨ j = 2 ∨ j = 3 by omega) with rfl | rfl | rfl | rfl
      · obtain rfl : r = 0 := by omega
        obtain rfl : m = n + 3 := by omega
        clear hr hj hmj
        go_wp2_with fail
        go_ret
        refine ⟨A3, c3, rfl, ?_, hB⟩
        have := HD.out
        rw [Pl.tl, List.append_nil] at this
        rw [← this]; exact hO
      · obtain rfl : r = 6 := by omega
        have HM := Lib.hid hmj
        obtain ⟨z, hz⟩ : ∃ z : Nat, z = 128 + x % 64 := ⟨_, rfl⟩
        have HZI := Lib.hid (show (z : Int) = 128 + (x : Int) % 64 by omega)
        have hz6 : z < 256 := by omega
        have HZ := Lib.hid (show done ++ [z] ++ Pl.tl x 0 = Pl.one x by rw [← HD.out, hz]; simp [Pl.tl])
        clear hz hr hj hmj
        go_wp2_with (at_builtin; refine wpList_append_byte wr (x := z) hz6 (by rfl) (by have := HZI.out; omega) (by rfl) (.tmp 26) (.tmp 33) (by rfl) base A3 m c3 (bs ++ done) (by rfl) hO (by rfl) (by have := HF.out.1; omega) HF.out.2 ?_)
        intro A4 c4 w4 hO4 hB4
        go_wp2_with fail
        go_roundw
        case rel => exact ⟨0, 0, A4, m + 1, c4, done ++ [z], rfl, by decide, by omega, rfl, by first | exact hO4 | (rw [← List.append_assoc]; exact hO4), hB.trans hB4, HZ.out, by have := HM.out; omega⟩
        case measure => simp [intOf]
      · obtain rfl : r = 12 := by omega
        have HM := Lib.hid hmj
        obtain ⟨z, hz⟩ : ∃ z : Nat, z = 128 + x / 64 % 64 := ⟨_, rfl⟩
        have HZI := Lib.hid (show (z : Int) = 128 + (x : Int) / 64 % 64 by omega)
        have hz6 : z < 256 := by omega
        have HZ := Lib.hid (show done ++ [z] ++ Pl.tl x 1 = Pl.one x by rw [← HD.out, hz]; simp [Pl.tl])
        clear hz hr hj hmj
        go_wp2_with (at_builtin; refine wpList_append_byte wr (x := z) hz6 (by rfl) (by have := HZI.out; omega) (by rfl) (.tmp 26) (.tmp 33) (by rfl) base A3 m c3 (bs ++ done) (by rfl) hO (by rfl) (by have := HF.out.1; omega) HF.out.2 ?_)
        intro A4 c4 w4 hO4 hB4
        go_wp2_with fail
        go_roundw
        case rel => exact ⟨1, 6, A4, m + 1, c4, done ++ [z], rfl, by decide, by omega, rfl, by first | exact hO4 | (rw [← List.append_assoc]; exact hO4), hB.trans hB4, HZ.out, by have := HM.out; omega⟩
        case measure => simp [intOf]
      · obtain rfl : r = 18 := by omega
        have HM := Lib.hid hmj
        obtain ⟨z, hz⟩ : ∃ z : Nat, z = 128 + x / 4096 % 64 := ⟨_, rfl⟩
        have HZI := Lib.hid (show (z : Int) = 128 + (x : Int) / 4096 % 64 by omega)
        have hz6 : z < 256 := by omega
        have HZ := Lib.hid (show done ++ [z] ++ Pl.tl x 2 = Pl.one x by rw [← HD.out, hz]; simp [Pl.tl])
        clear hz hr hj hmj
        go_wp2_with (at_builtin; refine wpList_append_byte wr (x := z) hz6 (by rfl) (by have := HZI.out; omega) (by rfl) (.tmp 26) (.tmp 33) (by rfl) base A3 m c3 (bs ++ done) (by rfl) hO (by rfl) (by have := HF.out.1; omega) HF.out.2 ?_)
        intro A4 c4 w4 hO4 hB4
        go_wp2_with fail
        go_roundw
        case rel => exact ⟨2, 12, A4, m + 1, c4, done ++ [z], rfl, by decide, by omega, rfl, by first | exact hO4 | (rw [← List.append_assoc]; exact hO4), hB.trans hB4, HZ.out, by have := HM.out; omega⟩
        case measure => simp [intOf]
  · rw [e1]
    have hk : w.cell? ⟨0, 4, none⟩ = some (.int .u8 240) := hT.mk (i := 4) (by decide)
    obtain ⟨y, hy⟩ : ∃ y : Nat, y = 240 + x / 262144 := ⟨_, rfl⟩
    have hy6 : y < 256 := by omega
    have ho : bits .or .u8 240 (IntKind.u8.wrap ((x : Int) / 262144)) = (y : Int) := by
      rw [IntKind.wrap_u8, Int.emod_eq_of_lt (by omega) (by omega), u8_or240 (y := (x : Int) / 262144) (by omega) (by omega)]; omega
    have HE := Lib.hid (show [y] ++ Pl.tl x 3 = Pl.one x by
      rw [hy, Pl.one]
      rw [if_neg (by omega), if_neg (by omega), if_neg (by omega)]
      simp [Pl.tl])
    clear hy
    go_enter Tryd.func22, Tryd.ntmps22
    go_wp2_with fail
    go_region_held3 (fun w' => w'.cell? ⟨0, 4, none⟩ = some (.int .u8 240))
      (first | go_keep | exact (hbel.cell (show 0 < base by omega)).trans hk)
      ((refine step_append_byte w _ (x := y) (by rfl) (by first | rfl | rw [ho]) (by omega) (by rfl) _ _ (by rfl) base A n cap bs (by rfl) hown (by rfl) (by omega) hbase ?_; intro A2 c2 w1 hO1 hbel))
    clear hk ho
    go_wp2_with fail
    go_loopw [0, 7] (fun b r wr => PRel w base (n + 4) x bs b r wr) (fun _ r _ => (intOf r).toNat)
    case atStart => exact ⟨3, _, A2, n + 1, c2, [y], rfl, by decide, by omega, rfl, hO1, hbel, HE.out, by omega⟩
    case round =>
      obtain ⟨j, r, A3, m, c3, done, rfl, hr, hj, rfl, hO, hB, hD, hmj⟩ := hrel
      have HD := Lib.hid hD
      have hS := hB.size
      have HF := Lib.hid (And.intro (show m + 1 ≤ 140737488355328 ∨ j = 0 by omega) (show base ≤ wr.heap.size by omega))
      clear hD HE hO1 hfit hown hm hbel hT hS
      rcases (show j = 0 ∨ j = 1 ∨ j = 2 ∨ j = 3 by omega) with rfl | rfl | rfl | rfl
      · obtain rfl : r = 0 := by omega
        obtain rfl : m = n + 4 := by omega
        clear hr hj hmj
        go_wp2_with fail
        go_ret
        refine ⟨A3, c3, rfl, ?_, hB⟩
        have := HD.out
        rw [Pl.tl, List.append_nil] at this
        rw [← this]; exact hO
      · obtain rfl : r = 6 := by omega
        have HM := Lib.hid hmj
        obtain ⟨z, hz⟩ : ∃ z : Nat, z = 128 + x % 64 := ⟨_, rfl⟩
        have HZI := Lib.hid (show (z : Int) = 128 + (x : Int) % 64 by omega)
        have hz6 : z < 256 := by omega
        have HZ := Lib.hid (show done ++ [z] ++ Pl.tl x 0 = Pl.one x by rw [← HD.out, hz]; simp [Pl.tl])
        clear hz hr hj hmj
        go_wp2_with (at_builtin; refine wpList_append_byte wr (x := z) hz6 (by rfl) (by have := HZI.out; omega) (by rfl) (.tmp 26) (.tmp 33) (by rfl) base A3 m c3 (bs ++ done) (by rfl) hO (by rfl) (by have := HF.out.1; omega) HF.out.2 ?_)
        intro A4 c4 w4 hO4 hB4
        go_wp2_with fail
        go_roundw
        case rel => exact ⟨0, 0, A4, m + 1, c4, done ++ [z], rfl, by decide, by omega, rfl, by first | exact hO4 | (rw [← List.append_assoc]; exact hO4), hB.trans hB4, HZ.out, by have := HM.out; omega⟩
        case measure => simp [intOf]
      · obtain rfl : r = 12 := by omega
        have HM := Lib.hid hmj
        obtain ⟨z, hz⟩ : ∃ z : Nat, z = 128 + x / 64 % 64 := ⟨_, rfl⟩
        have HZI := Lib.hid (show (z : Int) = 128 + (x : Int) / 64 % 64 by omega)
        have hz6 : z < 256 := by omega
        have HZ := Lib.hid (show done ++ [z] ++ Pl.tl x 1 = Pl.one x by rw [← HD.out, hz]; simp [Pl.tl])
        clear hz hr hj hmj
        go_wp2_with (at_builtin; refine wpList_append_byte wr (x := z) hz6 (by rfl) (by have := HZI.out; omega) (by rfl) (.tmp 26) (.tmp 33) (by rfl) base A3 m c3 (bs ++ done) (by rfl) hO (by rfl) (by have := HF.out.1; omega) HF.out.2 ?_)
        intro A4 c4 w4 hO4 hB4
        go_wp2_with fail
        go_roundw
        case rel => exact ⟨1, 6, A4, m + 1, c4, done ++ [z], rfl, by decide, by omega, rfl, by first | exact hO4 | (rw [← List.append_assoc]; exact hO4), hB.trans hB4, HZ.out, by have := HM.out; omega⟩
        case measure => simp [intOf]
      · obtain rfl : r = 18 := by omega
        have HM := Lib.hid hmj
        obtain ⟨z, hz⟩ : ∃ z : Nat, z = 128 + x / 4096 % 64 := ⟨_, rfl⟩
        have HZI := Lib.hid (show (z : Int) = 128 + (x : Int) / 4096 % 64 by omega)
        have hz6 : z < 256 := by omega
        have HZ := Lib.hid (show done ++ [z] ++ Pl.tl x 2 = Pl.one x by rw [← HD.out, hz]; simp [Pl.tl])
        clear hz hr hj hmj
        go_wp2_with (at_builtin; refine wpList_append_byte wr (x := z) hz6 (by rfl) (by have := HZI.out; omega) (by rfl) (.tmp 26) (.tmp 33) (by rfl) base A3 m c3 (bs ++ done) (by rfl) hO (by rfl) (by have := HF.out.1; omega) HF.out.2 ?_)
        intro A4 c4 w4 hO4 hB4
        go_wp2_with fail
        go_roundw
        case rel => exact ⟨2, 12, A4, m + 1, c4, done ++ [z], rfl, by decide, by omega, rfl, by first | exact hO4 | (rw [← List.append_assoc]; exact hO4), hB.trans hB4, HZ.out, by have := HM.out; omega⟩
        case measure => simp [intOf]
end Go.Proofs.YtillndchojaniaaDoor
