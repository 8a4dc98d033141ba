/-
  Operations in a row of the call's own, their units in other blocks: append, one of them undone. The row's type is left open. Conditions: those that each states.
-/
import Derived.Test.YtkgehgedbgogbaaPaP
namespace Go.Proofs.Ytkgehgedbgogbaa
open Go.RowKit
open Pl (Un)

/-- operations in a row of the call's own; their units lie in blocks of F, which are not the row's -/
structure OwnO (tO : TypeId) (w : World) (base : Nat) (F : Nat → Prop) (v : Value) (L : List OpV) : Prop where
  row : OwnR encO 4 tO w base v L
  uns : ∀ o ∈ L, UnsF w F o.A o.n o.c o.l
  apart : ∀ g, v.ownBlock = some g → ¬ F g
section
variable {tO : TypeId} {w w' : World} {base : Nat} {F G T : Nat → Prop} {v : Value} {A : Option Addr} {n c : Nat} {L : List OpV}
theorem OwnO.nil_ (tO : TypeId) (w : World) (base : Nat) (F : Nat → Prop) : OwnO tO w base F (.slice none 0 0) [] := ⟨OwnR.nil_ _ _ _ _ _, (fun o ho => by cases ho), (fun g h => by cases h)⟩
theorem OwnO.then_ (h : OwnO tO w base F v L) (hb : Below w.heap.size w w') : OwnO tO w' base F v L := ⟨h.row.then_ hb, fun o ho => (h.uns o ho).then_ hb, h.apart⟩
theorem OwnO.tn (h : OwnO tO w base F v L) (ht : Tn T w w') (hd : ∀ b, F b → ¬ T b) (hg : ∀ g, v.ownBlock = some g → ¬ T g) : OwnO tO w' base F v L := ⟨h.row.tn ht hg, fun o ho => (h.uns o ho).tn ht hd, h.apart⟩
theorem OwnO.more (h : OwnO tO w base F v L) (hg : ∀ b, F b → G b) (ha : ∀ g, v.ownBlock = some g → ¬ G g) : OwnO tO w base G v L := ⟨h.row, fun o ho => (h.uns o ho).more hg, ha⟩
theorem OwnO.lower {base' : Nat} (h : OwnO tO w base F v L) (hb : base' ≤ base) : OwnO tO w base' F v L := ⟨h.row.lower hb, h.uns, h.apart⟩
theorem OwnO.shape (h : OwnO tO w base F v L) : ∃ A c, v = .slice A L.length c ∧ Rws encO w w.heap.size A L.length c L ∧ (∀ a, A = some a → base ≤ a.block) := h.row.shape encO_len
theorem OwnO.rws (h : OwnO tO w base F (.slice A n c) L) : n = L.length ∧ Rws encO w w.heap.size A n c L := h.row.rws encO_len
/-- what grew but for a row of its own turned nothing else -/
theorem grown_tn {row : Option Nat} (hg : w.grownBy w' row) : Tn (fun b => row = some b) w w' := (Tn.refl _ w).grown hg fun _ e => .inr e
theorem UnsF.grown {row : Option Nat} {l : List Un} (h : UnsF w F A n c l) (hg : w.grownBy w' row) (hr : ∀ g, row = some g → ¬ F g) : UnsF w' F A n c l := h.tn (grown_tn hg) fun b hb e => hr b e hb
/-- append onto operations of one's own, as the run of the builtin -/
theorem run_append_ops {t : TypeId} {z : Value} {bytes : Nat} (hu : Try.prog.underlying t = some (.slice tO)) (hinfo : (Try.prog.info? tO).map (fun i => (i.zero, i.size, i.bytes)) = some (some z, 4, bytes)) (hzs : z.cells.size = 4)
    (ty : TypeId) (hown : OwnO tO w base F (.slice A n c) L) (B : Nat) (A' : Option Addr) (m c' : Nat) (d : List OpV) (hsrc : Rws encO w B A' m c' d) (hd : ∀ o ∈ d, UnsF w F o.A o.n o.c o.l) (hF : ∀ b, F b → b < w.heap.size)
    (hmax : n + m ≤ maxLen) (hfit : (n + m) * bytes ≤ 140737488355328) (hbase : base ≤ w.heap.size) :
    ∃ A2 c2 w', (Builtin.append_ #[t, t] ty #[.slice A n c, .slice A' m c']).run Try.prog w = .ok (.slice A2 (n + m) c2) w' ∧ OwnO tO w' base F (.slice A2 (n + m) c2) (L ++ d) ∧ w.grownBy w' (Value.ownBlock (.slice A n c)) ∧
      (Value.ownBlock (.slice A2 (n + m) c2) = Value.ownBlock (.slice A n c) ∨ Value.ownBlock (.slice A2 (n + m) c2) = some w.heap.size) := by
  obtain ⟨A2, c2, w1, hr, h2, h3, h4⟩ := run_append_rws encO_len encO_one hu hinfo hzs (by decide) w ty base A n c L hown.row B A' m c' d hsrc hmax hfit hbase
  refine ⟨A2, c2, w1, hr, ⟨h2, fun o ho => ?_, fun g hg => ?_⟩, h3, h4⟩
  · exact ((List.mem_append.1 ho).elim (hown.uns o) (hd o)).grown h3 hown.apart
  · rcases h4 with e | e
    · exact hown.apart g (by rw [← e]; exact hg)
    · rw [e] at hg
      obtain rfl := Option.some.inj hg
      exact fun hf => Nat.lt_irrefl _ (hF _ hf)
/-- the same as a law for the walk -/
theorem wpList_append_ops {ops : Array Oper} {rest : List Oper} {o : Oper} {a : Act} {Q : Exit → Act → World → Prop} {t : TypeId} {z : Value} {bytes : Nat} (hu : Try.prog.underlying t = some (.slice tO)) (hinfo : (Try.prog.info? tO).map (fun i => (i.zero, i.size, i.bytes)) = some (some z, 4, bytes)) (hzs : z.cells.size = 4)
    (hgd : o.guard = none) (s x : Operand) (ho : o.op = .call { callee := .builtin .append, args := #[s, x], argTypes := #[t, t] })
    (hs : a.eval s = .slice A n c) (hown : OwnO tO w base F (.slice A n c) L) (B : Nat) (A' : Option Addr) (m c' : Nat) (d : List OpV) (hx : a.eval x = .slice A' m c') (hsrc : Rws encO w B A' m c' d) (hd : ∀ o ∈ d, UnsF w F o.A o.n o.c o.l) (hF : ∀ b, F b → b < w.heap.size)
    (hmax : n + m ≤ maxLen) (hfit : (n + m) * bytes ≤ 140737488355328) (hbase : base ≤ w.heap.size)
    (h : ∀ A2 c2 w', OwnO tO w' base F (.slice A2 (n + m) c2) (L ++ d) → w.grownBy w' (Value.ownBlock (.slice A n c)) →
      (Value.ownBlock (.slice A2 (n + m) c2) = Value.ownBlock (.slice A n c) ∨ Value.ownBlock (.slice A2 (n + m) c2) = some w.heap.size) →
      wpList Try.prog ops Q rest (a.put o.dst (.slice A2 (n + m) c2)) w') : wpList Try.prog ops Q (o :: rest) a w := by
  obtain ⟨A2, c2, w1, hr, h2, h3, h4⟩ := run_append_ops hu hinfo hzs o.type hown B A' m c' d hsrc hd hF hmax hfit hbase
  refine wpList_plain hgd fun K hK => ?_
  unfold Oper.wp execOp
  simp only [ho, resolve, invoke, builtin, Sem.run_bind, Sem.run_pure, Result.andThen_ok, List.map_toArray, List.map_cons, List.map_nil, hs, hx, hr]
  exact hK _ _ (h A2 c2 w1 h2 h3 h4)
/-- one operation's mark is turned -/
theorem OwnO.mark {g : Nat} (h : OwnO tO w base F (.slice (some ⟨g, 0, none⟩) n c) L) (i : Nat) (hi : i < L.length) (b : Bool) :
    OwnO tO (w.setCell ⟨g, i * 4 + 3, none⟩ (.bool b)) base F (.slice (some ⟨g, 0, none⟩) n c) (L.set i { L.getD i default with b := b }) ∧ w.grownBy (w.setCell ⟨g, i * 4 + 3, none⟩ (.bool b)) (some g) := by
  have hx : L[i]? = some (L.getD i default) := by rw [List.getD_eq_getElem?_getD, List.getElem?_eq_getElem hi]; rfl
  have hs := OwnR.set_ encO_len h.row i 3 (.bool b) (by decide) (L.getD i default) { L.getD i default with b := b } hx rfl
  have hg : ∀ g', some g = some g' → ¬ F g' := fun g' e => h.apart g' e
  refine ⟨⟨hs.1, fun o ho => ?_, h.apart⟩, hs.2⟩
  rcases List.mem_or_eq_of_mem_set ho with hm | rfl
  · exact (h.uns o hm).grown hs.2 hg
  · have := (h.uns (L.getD i default) (by rw [List.getD_eq_getElem?_getD, List.getElem?_eq_getElem hi]; exact List.getElem_mem _)).grown hs.2 hg
    exact this
end
end Go.Proofs.Ytkgehgedbgogbaa
