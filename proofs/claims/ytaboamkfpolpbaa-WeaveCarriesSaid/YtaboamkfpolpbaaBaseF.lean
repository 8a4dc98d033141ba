/-
  Words and laws for bytes in memory that later layers share: 'append' onto bytes of the call's own (nil let in) from bytes that stand anywhere (nil let in), as a law for the walk; bytes as strings. Conditions: those that each states.
-/
import Derived.Test.YtaboamkfpolpbaaProg
import Derived.Test.YtaboamkfpolpbaaNumMem
import Derived.WalkKit
import Derived.WalkSpells
import Derived.WalkLawsBesides
import Derived.IntWalk
import Derived.Lib.Hide
import Derived.Maps.AppendAt
import Derived.Laws.AppendOwnNone
import Derived.Shelf.Bytes.SlEqualAll
namespace Go.Proofs.Ytaboamkfpolpbaa.Wi
open Go.RowKit

set_option maxRecDepth 100000 in
theorem infoByte : (Try.prog.info? 5).map (fun i => (i.zero, i.size, i.bytes)) = some (some (.int .u8 0), 1, 1) := by kernel_rfl
/-- bytes as the library's word has them -/
def ints (bs : List Nat) : List Int := bs.map fun x : Nat => (x : Int)
set_option maxRecDepth 100000 in
theorem Bys.bytesIn {w : World} {B : Nat} {A : Option Addr} {n c : Nat} {bs : List Nat} (h : Bys w B A n c bs) : Lib.BytesIn w A n (ints bs) := by
  intro hn
  obtain ⟨g, o, rfl, _, hc⟩ := h.at_ hn
  refine ⟨g, o, rfl, fun i hi => ?_⟩
  have hl := h.len
  rw [hc i hi, ints, List.getD_eq_getElem?_getD, List.getD_eq_getElem?_getD, List.getElem?_map, List.getElem?_eq_getElem (by omega)]
  rfl
set_option maxRecDepth 100000 in
theorem bytes_inj {bs cs : List Nat} (h1 : Pl.Oct bs) (h2 : Pl.Oct cs) (h : strOfNums (ints bs) = strOfNums (ints cs)) : bs = cs := by
  have h' : (ints bs).map (fun n => UInt8.ofNat n.toNat) = (ints cs).map (fun n => UInt8.ofNat n.toNat) := by
    have := congrArg (fun s : ByteArray => s.data.toList) h
    simpa [strOfNums] using this
  rw [ints, ints, List.map_map, List.map_map] at h'
  clear h
  induction bs generalizing cs with
  | nil => cases cs with
    | nil => rfl
    | cons c cs => simp at h'
  | cons b bs ih => cases cs with
    | nil => simp at h'
    | cons c cs =>
      simp only [List.map_cons, List.cons.injEq] at h'
      have e1 := congrArg UInt8.toNat h'.1
      have hb := (Pl.oct_cons h1).1
      have hc := (Pl.oct_cons h2).1
      simp at e1
      rw [Nat.mod_eq_of_lt hb, Nat.mod_eq_of_lt hc] at e1
      rw [e1, ih (Pl.oct_cons h1).2 (Pl.oct_cons h2).2 h'.2]

set_option maxRecDepth 100000 in
/-- a call's answer, handed on -/
theorem RetRow.mk {w w' : World} {g cap : Nat} {bs : List Nat} (h : Own w' w.heap.size g cap bs) (hb : Below w.heap.size w w') : RetRow w bs (.returned (.slice (some ⟨g, 0, none⟩) bs.length cap)) w' := ⟨g, cap, rfl, h, hb⟩
set_option maxRecDepth 100000 in
theorem oct_lit (l : List Nat) (h : l.all (fun x => decide (x < 256)) = true) : Pl.Oct l := by
  intro x hx
  have := List.all_eq_true.1 h x hx
  simpa using this

/-- the bytes bs of the call's own, as a value: nil, or at the head of a block that is not older than base -/
def OwnV (w : World) (base : Nat) (v : Value) (bs : List Nat) : Prop := w.ownsRow base 5 1 v bs.length (cellsOf bs) ∧ Pl.Oct bs

section
variable {w w' : World} {base g c n : Nat} {A : Option Addr} {bs : List Nat} {v : Value}
set_option maxRecDepth 100000 in
theorem OwnV.nil_ (w : World) (base : Nat) : OwnV w base (.slice none 0 0) [] := ⟨World.ownsRow_nil w base _ 1, fun x hx => by cases hx⟩
set_option maxRecDepth 100000 in
theorem Own.toV (h : Own w base g c bs) : OwnV w base (.slice (some ⟨g, 0, none⟩) bs.length c) bs := h
set_option maxRecDepth 100000 in
theorem OwnV.cases (h : OwnV w base v bs) : (v = .slice none 0 0 ∧ bs = []) ∨ ∃ g cap, v = .slice (some ⟨g, 0, none⟩) bs.length cap ∧ Own w base g cap bs := by
  rcases h.1.2 with ⟨e, h0⟩ | ⟨g, cap, cur, e, _⟩
  · exact Or.inl ⟨e, List.eq_nil_of_length_eq_zero h0⟩
  · exact Or.inr ⟨g, cap, e, by rw [e] at h; exact h⟩
set_option maxRecDepth 100000 in
theorem OwnV.shape (h : OwnV w base v bs) : ∃ A cap, v = .slice A bs.length cap ∧ Bys w w.heap.size A bs.length cap bs := by
  rcases h.cases with ⟨rfl, rfl⟩ | ⟨g, cap, rfl, hO⟩
  · exact ⟨none, 0, rfl, Bys.none_ _ _⟩
  · exact ⟨_, _, rfl, hO.bys⟩
set_option maxRecDepth 100000 in
theorem OwnV.bys (h : OwnV w base (.slice A n c) bs) : n = bs.length ∧ Bys w w.heap.size A n c bs := by
  obtain ⟨A', c', e, hb⟩ := h.shape
  injection e with e1 e2 e3
  subst e1 e2 e3
  exact ⟨rfl, hb⟩
set_option maxRecDepth 100000 in
theorem OwnV.below {B : Nat} (h : OwnV w base v bs) (hb : Below B w w') (hB : ∀ g, v.ownBlock = some g → g < B) : OwnV w' base v bs := by
  rcases h.cases with ⟨rfl, rfl⟩ | ⟨g, cap, rfl, hO⟩
  · exact OwnV.nil_ _ _
  · exact hO.below hb (hB g rfl)
set_option maxRecDepth 100000 in
theorem OwnV.grown {row : Option Nat} (h : OwnV w base v bs) (hg : w.grownBy w' row) (hne : v.ownBlock = none ∨ v.ownBlock ≠ row) : OwnV w' base v bs := ⟨h.1.kept hg hne, h.2⟩
set_option maxRecDepth 100000 in
theorem OwnV.alloc (h : OwnV w base v bs) (o : Obj) : OwnV (w.alloc o) base v bs := ⟨h.1.alloc o, h.2⟩
set_option maxRecDepth 100000 in
theorem OwnV.lt (h : OwnV w base v bs) : ∀ g, v.ownBlock = some g → base ≤ g ∧ g < w.heap.size := h.1.lt
set_option maxRecDepth 100000 in
theorem OwnV.some_ (h : OwnV w base (.slice A n c) bs) (hA : A ≠ none) : ∃ g, A = some ⟨g, 0, none⟩ ∧ n = bs.length ∧ Own w base g c bs := by
  rcases h.cases with ⟨e, _⟩ | ⟨g, cap, e, hO⟩
  · injection e with e1; exact absurd e1 hA
  · injection e with e1 e2 e3
    subst e1 e2 e3
    exact ⟨g, rfl, rfl, hO⟩
set_option maxRecDepth 100000 in
theorem OwnV.pos_ (h : OwnV w base (.slice A n c) bs) (hn : 0 < bs.length) : ∃ g, A = some ⟨g, 0, none⟩ ∧ n = bs.length ∧ Own w base g c bs := by
  rcases h.cases with ⟨_, e⟩ | ⟨g, cap, e, hO⟩
  · subst e; simp at hn
  · injection e with e1 e2 e3
    subst e1 e2 e3
    exact ⟨g, rfl, rfl, hO⟩
end

set_option maxRecDepth 100000 in
theorem wpList_append_bys {ops : Array Oper} {rest : List Oper} {o : Oper} {a : Act} {Q : Exit → Act → World → Prop} (w : World) (hgd : o.guard = none) (s x : Operand)
    (ho : o.op = .call { callee := .builtin .append, args := #[s, x], argTypes := #[53, 53] })
    (base : Nat) (A : Option Addr) (n c : Nat) (bs : List Nat) (hs : a.eval s = .slice A n c) (hown : OwnV w base (.slice A n c) bs)
    (B : Nat) (A' : Option Addr) (m c' : Nat) (cs : List Nat) (hx : a.eval x = .slice A' m c') (hsrc : Bys w B A' m c' cs)
    (hfit : n + m ≤ 140737488355328) (hbase : base ≤ w.heap.size)
    (h : ∀ A2 c2 w', OwnV w' base (.slice A2 (n + m) c2) (bs ++ cs) → w.grownBy w' (Value.ownBlock (.slice A n c)) →
      (Value.ownBlock (.slice A2 (n + m) c2) = Value.ownBlock (.slice A n c) ∨ Value.ownBlock (.slice A2 (n + m) c2) = some w.heap.size) → (A ≠ none → A2 ≠ none) →
      wpList Try.prog ops Q rest (a.put o.dst (.slice A2 (n + m) c2)) w') : wpList Try.prog ops Q (o :: rest) a w := by
  obtain ⟨i0, hi, hz0, hz1, hz2⟩ := info_parts infoByte
  obtain ⟨hn, _⟩ := hown.bys
  have hm := hsrc.len
  cases A' with
  | none =>
    have hc0 := hsrc.nil_ rfl
    have hle := hsrc.le
    obtain rfl : c' = 0 := hc0
    obtain rfl : m = 0 := by omega
    obtain rfl : cs = [] := List.eq_nil_of_length_eq_zero hm
    refine wpList_append_own_none hgd s x 53 ho base 5 i0 1 Try.underlying53 hi (.slice A n c) n (cellsOf bs) hs (by rw [hn]; rw [hn] at hown; exact hown.1) hx ?_
    have := h A c w (by rw [List.append_nil]; exact hown) (World.grownBy.refl w _) (Or.inl rfl) id
    exact this
  | some ad =>
    refine wpList_append_own_at w hgd s x 53 ho base 5 i0 (.int .u8 0) 1 1 Try.underlying53 hi hz0 hz1 hz2 rfl (by decide) (.slice A n c) n (cellsOf bs) hs (by rw [hn]; rw [hn] at hown; exact hown.1) ad m c' (cellsOf cs) hx
      (by rw [len_cells, hm, Nat.mul_one]) (hsrc.src.2 ad rfl) (cells_one cs) (by unfold maxLen; omega) (by omega) hbase ?_
    intro v' w1 hv hg hnil hat
    have hV : OwnV w1 base v' (bs ++ cs) := by
      refine ⟨?_, Pl.oct_append hown.2 hsrc.oct⟩
      rw [List.length_append, ← hn, hm, cells_append]
      exact hv
    obtain ⟨A2, c2, e, hb2⟩ := hV.shape
    have hl2 : (bs ++ cs).length = n + m := by rw [List.length_append, ← hn, hm]
    rw [hl2] at e
    subst e
    refine h A2 c2 w1 hV hg hat (fun hA hA2 => hA ?_)
    subst hA2
    have hc2 := hb2.nil_ rfl
    have hle2 := hb2.le
    have h0 : n + m = 0 := by omega
    have hc2' : c2 = 0 := hc2
    have := hnil.1 (by rw [h0, hc2'])
    have e2 := this.1
    injection e2

set_option maxRecDepth 100000 in
/-- what grew out of a call's own lies at or above base -/
theorem below_append {w w' w0 : World} {base : Nat} {A : Option Addr} {n c : Nat} {bs : List Nat} (hown : OwnV w base (.slice A n c) bs) (hg : w.grownBy w' (Value.ownBlock (.slice A n c))) (hb : Below base w0 w) (hsz : base ≤ w.heap.size) : Below base w0 w' :=
  hb.grown hg hsz (fun k e => (hown.lt k e).1)
end Go.Proofs.Ytaboamkfpolpbaa.Wi
