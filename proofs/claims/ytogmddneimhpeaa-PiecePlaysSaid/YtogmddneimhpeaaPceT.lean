/-
  Words for the laws' own lists of calls ('Acts': a []Act) in memory, and how they and rows of code points come out of what can be read as data. Conditions: those that each states.
-/
import Derived.Test.YtogmddneimhpeaaPceB
import Derived.Deep.Slices
import Derived.Deep.Fields
import Derived.ChangeSame
namespace Go.Proofs.Ytogmddneimhpeaa
open Go.RowKit Go.ChangeShapes Go.WideShapes

/-- one call -/
structure Act5 where
  what : Int
  pos : Int
  n : Int
  l : List Int
instance : Inhabited Act5 := ⟨⟨0, 0, 0, []⟩⟩
/-- the slice '.slice A n c' of calls reads as l -/
def Acts (w : World) (B : Nat) (A : Option Addr) (n c : Nat) (l : List Act5) : Prop :=
  l.length = n ∧ n ≤ c ∧ c ≤ maxLen ∧
    ∀ i, i < n → ∃ g o A' m c', A = some ⟨g, o, none⟩ ∧ g < B ∧ w.cell? ⟨g, o + i * 4, none⟩ = some (.int .i64 (l.getD i default).what) ∧ Pl.I (l.getD i default).what ∧
      w.cell? ⟨g, o + i * 4 + 1, none⟩ = some (.int .i64 (l.getD i default).pos) ∧ Pl.I (l.getD i default).pos ∧ w.cell? ⟨g, o + i * 4 + 2, none⟩ = some (.int .i64 (l.getD i default).n) ∧ Pl.I (l.getD i default).n ∧
      w.cell? ⟨g, o + i * 4 + 3, none⟩ = some (.slice A' m c') ∧ Crs w B A' m c' (l.getD i default).l
section
variable {w w' : World} {B B' : Nat} {A : Option Addr} {n c : Nat} {l : List Act5}
theorem Acts.below (h : Acts w B A n c l) (hb : Below B' w w') (hB : B ≤ B') : Acts w' B A n c l :=
  ⟨h.1, h.2.1, h.2.2.1, fun i hi => by
    obtain ⟨g, o, A', m, c', e, hg, h1, h2, h3, h4, h5, h6, h7, h8⟩ := h.2.2.2 i hi
    exact ⟨g, o, A', m, c', e, hg, (hb.cell (p := ⟨g, _, none⟩) (Nat.lt_of_lt_of_le hg hB)).trans h1, h2, (hb.cell (p := ⟨g, _, none⟩) (Nat.lt_of_lt_of_le hg hB)).trans h3, h4,
      (hb.cell (p := ⟨g, _, none⟩) (Nat.lt_of_lt_of_le hg hB)).trans h5, h6, (hb.cell (p := ⟨g, _, none⟩) (Nat.lt_of_lt_of_le hg hB)).trans h7, h8.below hb hB⟩⟩
end

section
variable {H : Type} {enc : TypeId × Value → H} {P : Program} {w : World} {base : Nat} {spare : Nat → Bool} {held : Bool}
/-- a slice of structs of four one-cell fields, element by element -/
theorem open_four {t e : TypeId} {f0 f1 f2 f3 : Field} {fuel : Nat} {v : Value} {x : DataW H × List MemPlace} (ht : P.underlying t = some (.slice e)) (he : P.underlying e = some (.struct #[f0, f1, f2, f3]))
    (hone : Deep.oneCellFields P #[f0, f1, f2, f3] = true) (hC : P.cellsOf e = 4) (h : DataW.trod enc P w base spare held fuel t [v] = some x) :
    v = .slice none 0 0 ∨ ∃ (a : Addr) (len cap : Nat), v = .slice (some a) len cap ∧ len ≤ cap ∧ cap ≤ maxLen ∧
      ∀ i, i < len → ∃ v0 v1 v2 v3 y0 y1 y2 y3 k, w.cell? (a.add (i * 4)) = some v0 ∧ w.cell? (a.add (i * 4 + 1)) = some v1 ∧ w.cell? (a.add (i * 4 + 2)) = some v2 ∧ w.cell? (a.add (i * 4 + 3)) = some v3 ∧
        DataW.trod enc P w base spare held k f0.type [v0] = some y0 ∧ DataW.trod enc P w base spare held k f1.type [v1] = some y1 ∧ DataW.trod enc P w base spare held k f2.type [v2] = some y2 ∧ DataW.trod enc P w base spare held k f3.type [v3] = some y3 := by
  rcases Deep.open_slice ht h with ⟨h0, _⟩ | ⟨a, len, cap, m, n, D, Pl, hcs, _, hl, hm, hmm, _, hi⟩
  · exact .inl (List.cons.inj h0).1
  · refine .inr ⟨a, len, cap, (List.cons.inj hcs).1, hl, hm, fun i hil => ?_⟩
    obtain ⟨cs', hc, ht'⟩ := hi i (by rw [hmm]; split <;> omega)
    rw [hC] at hc
    obtain ⟨ys, k, _, _, _, hyl, hf⟩ := DataW.trod_struct he ht'
    obtain ⟨_, hcl, hat⟩ := World.cells?_some hc
    obtain ⟨u0, u1, u2, u3, rfl⟩ : ∃ u0 u1 u2 u3, cs' = [u0, u1, u2, u3] := by
      match cs', hcl with
      | [u0, u1, u2, u3], _ => exact ⟨u0, u1, u2, u3, rfl⟩
    have hs0 := Deep.hone_of hone 0 f0 rfl
    have hs1 := Deep.hone_of hone 1 f1 rfl
    have hs2 := Deep.hone_of hone 2 f2 rfl
    have hs3 := Deep.hone_of hone 3 f3 rfl
    have g0 := hf 0 f0 rfl
    have g1 := hf 1 f1 rfl
    have g2 := hf 2 f2 rfl
    have g3 := hf 3 f3 rfl
    rw [hs0.1, hs0.2] at g0
    rw [hs1.1, hs1.2] at g1
    rw [hs2.1, hs2.2] at g2
    rw [hs3.1, hs3.2] at g3
    have hyl' : ys.length = 4 := hyl
    have c0 := hat 0 (by omega)
    have c1 := hat 1 (by omega)
    have c2 := hat 2 (by omega)
    have c3 := hat 3 (by omega)
    rw [Go.Deep.add_add] at c0 c1 c2 c3
    refine ⟨u0, u1, u2, u3, ys[0], ys[1], ys[2], ys[3], k, c0, c1, c2, c3, ?_, ?_, ?_, ?_⟩
    · rw [List.getElem?_eq_getElem (by omega)] at g0; simpa using g0
    · rw [List.getElem?_eq_getElem (by omega)] at g1; simpa using g1
    · rw [List.getElem?_eq_getElem (by omega)] at g2; simpa using g2
    · rw [List.getElem?_eq_getElem (by omega)] at g3; simpa using g3
end
/-- a list out of what there is at each place -/
theorem pick_list {α : Type} [Inhabited α] (n : Nat) (P : Nat → α → Prop) (h : ∀ i, i < n → ∃ a, P i a) : ∃ l : List α, l.length = n ∧ ∀ i, i < n → P i (l.getD i default) := by
  classical
  refine ⟨(List.range n).map fun i => if hi : i < n then Classical.choose (h i hi) else default, by simp, fun i hi => ?_⟩
  rw [List.getD_eq_getElem?_getD, List.getElem?_map, List.getElem?_range hi]
  simp only [Option.map_some, Option.getD_some, dif_pos hi]
  exact Classical.choose_spec (h i hi)
section
variable {H : Type} {enc : TypeId × Value → H} {W : World} {A0 : Option Addr} {n c : Nat} {d : DataW H} {p : List MemPlace}
theorem open_row {fuel : Nat} {v : Value} {x : DataW H × List MemPlace} (t2 : DataW.trod enc Try.prog W 0 (fun _ => true) true fuel 22 [v] = some x) : ∃ A' m c' cs, v = .slice A' m c' ∧ Crs W W.heap.size A' m c' cs := by
  rcases open_ints Try.underlying22 Try.underlying29 (by kernel_rfl) t2 with ⟨hcs, _⟩ | ⟨x, l, cc, zs, hcs, _, hl, hm, hz, hx, hcell, hwz⟩
  · exact ⟨none, 0, 0, [], (List.cons.inj hcs).1, Crs.none_ _ _⟩
  · have hz' : zs.length = cc := by simpa using hz
    exact ⟨_, _, _, _, (List.cons.inj hcs).1, Crs.open_ hl hm hz' hcell hwz⟩
theorem open_chars (h : DataW.Trod enc Try.prog W 0 (fun _ => true) true 22 (.slice A0 n c) d p) : ∃ cs, Crs W W.heap.size A0 n c cs := by
  obtain ⟨fuel, hf⟩ := h
  obtain ⟨A', m, c', cs, e, h⟩ := open_row hf
  injection e with e1 e2 e3
  subst e1 e2 e3
  exact ⟨cs, h⟩
theorem open_acts (h : DataW.Trod enc Try.prog W 0 (fun _ => true) true 23 (.slice A0 n c) d p) : ∃ l, Acts W W.heap.size A0 n c l := by
  obtain ⟨fuel, hf⟩ := h
  rcases open_four Try.underlying23 Try.underlying31 (by kernel_rfl) (by kernel_rfl) hf with hv | ⟨a, len, cap, hv, hl, hm, hi⟩
  · injection hv with e1 e2 e3
    subst e1 e2 e3
    exact ⟨[], rfl, Nat.le_refl _, Nat.zero_le _, fun i hi => absurd hi (by omega)⟩
  · injection hv with e1 e2 e3
    subst e1 e2 e3
    obtain ⟨l, hl1, hl2⟩ := pick_list n (fun i (x : Act5) => ∃ g o A' m c', some a = some ⟨g, o, none⟩ ∧ g < W.heap.size ∧ W.cell? ⟨g, o + i * 4, none⟩ = some (.int .i64 x.what) ∧ Pl.I x.what ∧
      W.cell? ⟨g, o + i * 4 + 1, none⟩ = some (.int .i64 x.pos) ∧ Pl.I x.pos ∧ W.cell? ⟨g, o + i * 4 + 2, none⟩ = some (.int .i64 x.n) ∧ Pl.I x.n ∧ W.cell? ⟨g, o + i * 4 + 3, none⟩ = some (.slice A' m c') ∧ Crs W W.heap.size A' m c' x.l) (fun i hin => by
        obtain ⟨v0, v1, v2, v3, y0, y1, y2, y3, k, c0, c1, c2, c3, t0, t1, t2, t3⟩ := hi i hin
        obtain ⟨z0, e0, _, w0⟩ := DataW.trod_int Try.underlying3 t0
        obtain ⟨z1, e1, _, w1⟩ := DataW.trod_int Try.underlying3 t1
        obtain ⟨z2, e2, _, w2⟩ := DataW.trod_int Try.underlying3 t2
        obtain rfl := (List.cons.inj e0).1
        obtain rfl := (List.cons.inj e1).1
        obtain rfl := (List.cons.inj e2).1
        obtain ⟨b, off, spot⟩ := a
        have hspot : spot = none := by
          have h0 := (hi 0 (by omega))
          obtain ⟨u0, _, _, _, _, _, _, _, _, q0, _⟩ := h0
          simpa [Addr.add] using World.cell?_spot q0
        subst hspot
        rw [Addr.add_lit] at c0 c1 c2 c3
        have b0 := bounds_i64 w0
        have b1 := bounds_i64 w1
        have b2 := bounds_i64 w2
        obtain ⟨A', m, c', cs, hv3, hB⟩ := open_row t3
        subst hv3
        exact ⟨⟨z0, z1, z2, cs⟩, b, off, A', m, c', rfl, World.block_lt_of_cell? W _ c0, c0, Pl.I.mk (by simp only; omega), c1, Pl.I.mk (by simp only; omega), c2, Pl.I.mk (by simp only; omega), c3, hB⟩)
    exact ⟨l, hl1, hl, hm, hl2⟩
end
end Go.Proofs.Ytogmddneimhpeaa
