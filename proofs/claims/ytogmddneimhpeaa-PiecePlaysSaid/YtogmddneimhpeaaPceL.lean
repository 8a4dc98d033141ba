/-
  'append' as a law at one step of a region that draws: onto code points, onto structs, of the call's own. No conditions but those that each states.
-/
import Derived.Test.YtogmddneimhpeaaPceM
import Derived.Deep.RegionLaw
namespace Go.Proofs.Ytogmddneimhpeaa
open Go.RowKit

theorem run_append_crs2 (w : World) (ty : TypeId) (base : Nat) (A : Option Addr) (n c : Nat) (cs : List Int) (hown : OwnC w base (.slice A n c) cs)
    (B : Nat) (A' : Option Addr) (m c' : Nat) (ds : List Int) (hsrc : Crs w B A' m c' ds) (hfit : (n + m) * 4 ≤ 140737488355328) (hbase : base ≤ w.heap.size) :
    ∃ A2 c2 w', (Builtin.append_ #[22, 22] ty #[.slice A n c, .slice A' m c']).run Try.prog w = .ok (.slice A2 (n + m) c2) w' ∧ OwnC w' base (.slice A2 (n + m) c2) (cs ++ ds) ∧ w.grownBy w' (Value.ownBlock (.slice A n c)) ∧
      (Value.ownBlock (.slice A2 (n + m) c2) = Value.ownBlock (.slice A n c) ∨ Value.ownBlock (.slice A2 (n + m) c2) = some w.heap.size) := by
  obtain ⟨i0, hi, hz0, hz1, hz2⟩ := info_parts infoChar
  obtain ⟨hn, _⟩ := hown.crs
  have hm := hsrc.len
  have ho : w.ownsRow base 29 1 (.slice A n c) n (cellsC cs) := by rw [hn]; rw [hn] at hown; exact hown.1
  cases A' with
  | none =>
    have hc0 := hsrc.nil_ rfl
    have hle := hsrc.le
    obtain rfl : c' = 0 := hc0
    obtain rfl : m = 0 := by omega
    obtain rfl : ds = [] := List.eq_nil_of_length_eq_zero hm
    exact ⟨A, c, w, run_append_owned_none w base 22 ty 29 i0 1 Try.underlying22 hi (.slice A n c) n (cellsC cs) ho, by rw [List.append_nil]; exact hown, World.grownBy.refl w _, Or.inl rfl⟩
  | some ad =>
    obtain ⟨v', w1, hr, hv, hg, _, hat⟩ := run_append_own_at (P := Try.prog) w base 22 ty 29 i0 (.int .i32 0) 1 4 Try.underlying22 hi hz0 hz1 hz2 rfl (by decide) (.slice A n c) n (cellsC cs) ho ad m c' (cellsC ds)
      (by rw [len_cellsC, hm, Nat.mul_one]) (hsrc.src.2 ad rfl) (cellsC_one ds) (by unfold maxLen; omega) hfit hbase
    have hV : OwnC w1 base v' (cs ++ ds) := by
      refine ⟨?_, fun x hx => (List.mem_append.1 hx).elim (hown.2 x) (hsrc.js x)⟩
      rw [List.length_append, ← hn, hm, cellsC_append]
      exact hv
    obtain ⟨A2, c2, e, hb2, _⟩ := hV.shape
    have hl2 : (cs ++ ds).length = n + m := by rw [List.length_append, ← hn, hm]
    rw [hl2] at e
    subst e
    exact ⟨A2, c2, w1, hr, hV, hg, hat⟩
theorem step_append_crs {ops : Array Oper} {o : Oper} {a : Act} {K : Act → World → Prop} {Q : Exit → Act → World → Prop} {E : Prop} (w : World) (hgd : o.guard = none) (s x : Operand)
    (ho : o.op = .call { callee := .builtin .append, args := #[s, x], argTypes := #[22, 22] })
    (base : Nat) (A : Option Addr) (n c : Nat) (cs : List Int) (hs : a.eval s = .slice A n c) (hown : OwnC w base (.slice A n c) cs)
    (B : Nat) (A' : Option Addr) (m c' : Nat) (ds : List Int) (hx : a.eval x = .slice A' m c') (hsrc : Crs w B A' m c' ds)
    (hfit : (n + m) * 4 ≤ 140737488355328) (hbase : base ≤ w.heap.size)
    (h : ∀ A2 c2 w', OwnC w' base (.slice A2 (n + m) c2) (cs ++ ds) → w.grownBy w' (Value.ownBlock (.slice A n c)) →
      (Value.ownBlock (.slice A2 (n + m) c2) = Value.ownBlock (.slice A n c) ∨ Value.ownBlock (.slice A2 (n + m) c2) = some w.heap.size) → K (a.put o.dst (.slice A2 (n + m) c2)) w') :
    if Region.wanted o (yielded ops a.tmps) = true then Oper.wp Try.prog o a w K Q else E := by
  have hw : Region.wanted o (yielded ops a.tmps) = true := by simp [Region.wanted, hgd]
  rw [if_pos hw]
  obtain ⟨A2, c2, w1, hr, h1, h2, h3⟩ := run_append_crs2 w o.type base A n c cs hown B A' m c' ds hsrc hfit hbase
  unfold Oper.wp execOp
  simp only [ho, resolve, invoke, builtin, Sem.run_bind, Sem.run_pure, Result.andThen_ok, List.map_toArray, List.map_cons, List.map_nil, hs, hx, hr]
  exact h A2 c2 w1 h1 h2 h3
section
variable {α : Type} {enc : α → List Value} {k : Nat} {e : TypeId}
theorem step_append_rws {ops : Array Oper} {o : Oper} {a : Act} {K : Act → World → Prop} {Q : Exit → Act → World → Prop} {E : Prop} (hk : ∀ x, (enc x).length = k) (h1 : ∀ x, ∀ u ∈ enc x, u.oneCell' = true) {t : TypeId} {z : Value} {bytes : Nat} (hu : Try.prog.underlying t = some (.slice e)) (hinfo : (Try.prog.info? e).map (fun i => (i.zero, i.size, i.bytes)) = some (some z, k, bytes)) (hzs : z.cells.size = k) (hsz : 0 < k)
    (w : World) (hgd : o.guard = none) (s x : Operand) (ho : o.op = .call { callee := .builtin .append, args := #[s, x], argTypes := #[t, t] })
    (base : Nat) (A : Option Addr) (n c : Nat) (l : List α) (hs : a.eval s = .slice A n c) (hown : OwnR enc k e w base (.slice A n c) l)
    (B : Nat) (A' : Option Addr) (m c' : Nat) (d : List α) (hx : a.eval x = .slice A' m c') (hsrc : Rws enc w B A' m c' d) (hmax : n + m ≤ maxLen) (hfit : (n + m) * bytes ≤ 140737488355328) (hbase : base ≤ w.heap.size)
    (h : ∀ A2 c2 w', OwnR enc k e w' base (.slice A2 (n + m) c2) (l ++ d) → w.grownBy w' (Value.ownBlock (.slice A n c)) →
      (Value.ownBlock (.slice A2 (n + m) c2) = Value.ownBlock (.slice A n c) ∨ Value.ownBlock (.slice A2 (n + m) c2) = some w.heap.size) → K (a.put o.dst (.slice A2 (n + m) c2)) w') :
    if Region.wanted o (yielded ops a.tmps) = true then Oper.wp Try.prog o a w K Q else E := by
  have hw : Region.wanted o (yielded ops a.tmps) = true := by simp [Region.wanted, hgd]
  rw [if_pos hw]
  obtain ⟨A2, c2, w1, hr, h2, h3, h4⟩ := run_append_rws hk h1 hu hinfo hzs hsz w o.type base A n c l hown B A' m c' d hsrc hmax hfit hbase
  unfold Oper.wp execOp
  simp only [ho, resolve, invoke, builtin, Sem.run_bind, Sem.run_pure, Result.andThen_ok, List.map_toArray, List.map_cons, List.map_nil, hs, hx, hr]
  exact h A2 c2 w1 h2 h3 h4
end
end Go.Proofs.Ytogmddneimhpeaa
