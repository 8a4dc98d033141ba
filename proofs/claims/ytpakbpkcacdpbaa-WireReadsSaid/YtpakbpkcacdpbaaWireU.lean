/-
  What the laws of wire share: the document's own Bytes, min with a bound, bytes of one's own that are turned one by one, memory behind a round of WireWrites. Conditions: those that each states.
-/
import Derived.Test.YtpakbpkcacdpbaaWireT
namespace Go.Proofs.Ytpakbpkcacdpbaa
open Go.RowKit

set_option maxRecDepth 100000 in
set_option maxHeartbeats 400000 in
theorem refBytes_any (A A' : Option Addr) (n c m c' : Nat) (bs cs : List Nat) (w : World) (h1 : Bys w w.heap.size A n c bs) (h2 : Bys w w.heap.size A' m c' cs) (hr : n + 10 + m ≤ 140737488351232) :
    Calls Try.prog 16 #[.slice A n c, .slice A' m c'] w (RetRow w (bs ++ (Pl.enc m ++ cs))) := by
  have HP := Lib.hid (refPut_any A n c m bs w h1 (by omega) (len_U (by omega)))
  have hwr := wrap_len (n := m) (by omega)
  have H10 := Lib.hid (Pl.sz_le10 (len_U (n := m) (by omega)).out)
  have HL := Lib.hid h1.len
  obtain ⟨X, hX⟩ : ∃ X, X = bs ++ Pl.enc m := ⟨_, rfl⟩
  rw [← hX] at HP
  have HX := Lib.hid hX
  clear hX
  go_enter Try.func16, Try.ntmps16
  go_wp2_with fail
  refine HP.out.mono ?_
  rintro e w1 ⟨g, cap, rfl, hO, hb⟩
  have HO := Lib.hid hO
  have HB := Lib.hid ((h2.below hb (Nat.le_refl _)).more hb.size)
  have hz := hb.size
  have hfit : X.length + m ≤ 140737488355328 := by rw [HX.out, List.length_append, Pl.len_enc, HL.out]; have := H10.out; omega
  have HF := Lib.hid hfit
  clear hO hfit h1 h2
  go_wp2_with (at_builtin; refine wpList_append_bys _ rfl (.tmp 9) (.tmp 10) rfl w.heap.size _ _ _ X rfl HO.out.toV w1.heap.size _ _ _ cs rfl HB.out HF.out hz ?_)
  intro A2 c2 w2 hV2 hg2 hx2 hy2
  have hb2 := below_append HO.out.toV hg2 hb hz
  clear hg2 hx2 hy2
  go_wp2_with fail
  go_ret
  rw [HX.out, List.append_assoc] at hV2
  have hk := hV2.bys.1
  have hpos : 0 < (bs ++ (Pl.enc m ++ cs)).length := by rw [List.length_append, List.length_append, Pl.len_enc]; have := Pl.sz_pos m; omega
  refine RetV.row ⟨A2, c2, ?_, ?_, hb2⟩ hpos
  · rw [← hk, ← HX.out]; rfl
  · rw [← hk]; exact hV2

/-- min(len, a bound) -/
theorem min_run (m k : Nat) : ∃ M : Nat, M ≤ m ∧ M ≤ k ∧ (M = m ∨ M = k) ∧ ∀ (w' : World) (ts : Array TypeId) (t : TypeId), (Builtin.min_ ts t #[.int .i64 (m : Int), .int .i64 (k : Int)]).run Try.prog w' = .ok (.int .i64 (M : Int)) w' := by
  by_cases h : k < m
  · exact ⟨k, by omega, by omega, Or.inr rfl, fun w' ts t => by rw [run_min_int2]; simp [show (k : Int) < (m : Int) by omega]⟩
  · exact ⟨m, by omega, by omega, Or.inl rfl, fun w' ts t => by rw [run_min_int2]; simp [show ¬ (k : Int) < (m : Int) by omega]⟩

/-- bytes of one's own, of which the first k were turned -/
def XRel (V : World) (base : Nat) (Ao : Option Addr) (M co : Nat) (t : Value) (wr : World) : Prop :=
  ∃ (k : Nat) (Z : List Nat), t = .int .i64 (k : Int) ∧ k ≤ M ∧ Z.length = M ∧ OwnV wr base (.slice Ao M co) Z ∧ Tn (fun b => Value.ownBlock (.slice Ao M co) = some b) V wr
theorem XRel.start {V : World} {base : Nat} {Ao : Option Addr} {M co : Nat} {Z : List Nat} (h : OwnV V base (.slice Ao M co) Z) : XRel V base Ao M co (.int .i64 0) V :=
  ⟨0, Z, rfl, by omega, h.bys.1.symm, h, Tn.refl _ _⟩
/-- what one turn of a byte does -/
theorem XRel.next {V wr : World} {base g M co k : Nat} {Z : List Nat} {z : Nat} (hl : Z.length = M) (hO : Own wr base g co Z) (hT : Tn (fun b => Value.ownBlock (.slice (some ⟨g, 0, none⟩) M co) = some b) V wr) (hz : z < 256) :
    OwnV (wr.setCell ⟨g, k, none⟩ (.int .u8 (z : Int))) base (.slice (some ⟨g, 0, none⟩) M co) (Z.set k z) ∧ Tn (fun b => Value.ownBlock (.slice (some ⟨g, 0, none⟩) M co) = some b) V (wr.setCell ⟨g, k, none⟩ (.int .u8 (z : Int))) := by
  have h1 := (hO.set_ k z hz).1.toV
  rw [List.length_set, hl] at h1
  exact ⟨h1, hT.set_ (p := ⟨g, k, none⟩) (Or.inr rfl) _⟩

/-- memory behind the writing of one thing: own and want stand apart from the writer and from each other -/
def Aft (w : World) (M : Nat) (Ao : Option Addr) (co : Nat) (Av : Option Addr) (cv : Nat) (Y : List Nat) (V : World) : Prop :=
  ∃ F, (∃ os, OwnV V w.heap.size (.slice Ao M co) os) ∧ Wr V w.heap.size F Y ∧ (∀ b, F b → w.heap.size ≤ b) ∧ Bys V V.heap.size Av Y.length cv Y ∧ Apart F Av Y.length ∧
    (∀ g, Value.ownBlock (.slice Ao M co) = some g → ¬ F g ∧ (0 < Y.length → ∀ ad, Av = some ad → ad.block ≠ g)) ∧ Below w.heap.size w V
section
variable {w W2 W3 W4 : World} {M : Nat} {Ao : Option Addr} {co : Nat} {os Y X : List Nat} {F : Nat → Prop}
/-- where own stands, ahead of the writer's call -/
theorem aft_put (hV : OwnV W2 w.heap.size (.slice Ao M co) os) (hF0 : ∀ b, F b → w.heap.size ≤ b) (hFo : ∀ g, Value.ownBlock (.slice Ao M co) = some g → ¬ F g) (hb : Below w.heap.size w W2)
    (hw : Wrote W2 w.heap.size F Y W3) {gw cw : Nat} (hO : Own W4 W3.heap.size gw cw Y) (hb4 : Below W3.heap.size W3 W4) : Aft w M Ao co (some ⟨gw, 0, none⟩) cw Y W4 := by
  obtain ⟨F', h1, h2, h3, h4⟩ := hw
  have z2 := hb.size
  have z3 := h2.size
  have z4 := hb4.size
  have hlt := hV.lt
  have hnF : ∀ g, Value.ownBlock (.slice Ao M co) = some g → ¬ F' g := fun g hg hf => by
    rcases h3 g hf with h | h
    · exact hFo g hg h
    · have := (hlt g hg).2; omega
  have hgw := hO.form.1
  refine ⟨F', ⟨os, ?_⟩, h1.below hb4, fun b hb => ?_, hO.bys, fun _ ad e hf => ?_, fun g hg => ⟨hnF g hg, fun _ ad e => ?_⟩, ?_⟩
  · exact (h2.ownV hV (fun g hg => hFo g hg)).below hb4 (fun g hg => by have := (hlt g hg).2; omega)
  · rcases h3 b hb with h | h
    · exact hF0 b h
    · omega
  · cases e; have := h1.lt _ hf; simp at this; omega
  · cases e; have := (hlt g hg).2; simp; omega
  · exact (h2.below hb z2 hF0).trans (hb4.mono (by omega))
end
end Go.Proofs.Ytpakbpkcacdpbaa
