/-
  append onto rows of the call's own, inside a fence. Conditions: those that each states.
-/
import Derived.OwnWalkIn
import Derived.Test.YtjplchajopkpcaaPceM
namespace Go.Proofs.Ytjplchajopkpcaa
open Go.RowKit

variable {α : Type} {enc : α → List Value} {k : Nat} {e : TypeId}
theorem wpListIn_append_rws {F : Fence} {nF : Nat} {ops : Array Oper} {rest : List Oper} {o : Oper} {a : Act} {Q : Exit → Act → World → Prop} (hk : ∀ x, (enc x).length = k) (h1 : ∀ x, ∀ u ∈ enc x, u.oneCell' = true) {t : TypeId} {z : Value} {bytes : Nat} (hu : Try.prog.underlying t = some (.slice e)) (hinfo : (Try.prog.info? e).map (fun i => (i.zero, i.size, i.bytes)) = some (some z, k, bytes)) (hzs : z.cells.size = k) (hsz : 0 < k)
    (w : World) (hgd : o.guard = none) (s x : Operand) (ho : o.op = .call { callee := .builtin .append, args := #[s, x], argTypes := #[t, t] })
    (base : Nat) (A : Option Addr) (n c : Nat) (l : List α) (hs : a.eval s = .slice A n c) (hown : OwnR enc k e w base (.slice A n c) l)
    (B : Nat) (A' : Option Addr) (m c' : Nat) (d : List α) (hx : a.eval x = .slice A' m c') (hsrc : Rws enc w B A' m c' d) (hmax : n + m ≤ maxLen) (hfit : (n + m) * bytes ≤ 140737488355328) (hbase : base ≤ w.heap.size)
    (h : ∀ A2 c2 w', OwnR enc k e w' base (.slice A2 (n + m) c2) (l ++ d) → w.grownBy w' (Value.ownBlock (.slice A n c)) →
      (Value.ownBlock (.slice A2 (n + m) c2) = Value.ownBlock (.slice A n c) ∨ Value.ownBlock (.slice A2 (n + m) c2) = some w.heap.size) →
      wpListIn F nF Try.prog ops Q rest (a.put o.dst (.slice A2 (n + m) c2)) w') : wpListIn F nF Try.prog ops Q (o :: rest) a w := by
  obtain ⟨A2, c2, w1, hr, h2, h3, h4⟩ := run_append_rws hk h1 hu hinfo hzs hsz w o.type base A n c l hown B A' m c' d hsrc hmax hfit hbase
  refine wpListIn_plain hgd fun K hK => ?_
  unfold Oper.wpIn
  refine ⟨?_, ?_⟩
  · simp [Oper.about, ho, resolve, Target.leads, Sem.run_pure]
  · rw [Oper.semAt_plain F _ _ (by rw [ho]; intro c hc'; cases hc')]
    simp [execOp, ho, resolve, invoke, builtin, hs, hx, hr, Result.andThen]
    exact hK _ _ (h A2 c2 w1 h2 h3 h4)
end Go.Proofs.Ytjplchajopkpcaa
