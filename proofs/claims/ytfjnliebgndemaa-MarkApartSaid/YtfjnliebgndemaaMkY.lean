/-
  Marks.All: by clients, rising, in new memory; its comparison of two clients; append of one mark. Conditions: those that each states.
-/
import Derived.Test.YtfjnliebgndemaaMkX
namespace Go.Proofs.Ytfjnliebgndemaa
open Go.RowKit
open Go.Shelf Go.Lib Go.Sort

set_option maxRecDepth 100000 in
theorem isNaN_u32 (x : Int) (w : World) : Calls Try.prog 40 #[.int .u32 x] w fun e w' => e = .returned (.bool false) ∧ w' = w := by
  have z : (x == x) = true := by simp
  go_enter Try.func40, Try.ntmps40
  go_wp2_with fail
  go_ret
  exact ⟨rfl, rfl⟩
set_option maxRecDepth 100000 in
set_option maxHeartbeats 400000 in
theorem compare_u32 (x y : Int) (w : World) : Calls Try.prog 32 #[.int .u32 x, .int .u32 y] w fun e w' => e = .returned (.int .i64 (if x < y then -1 else if y < x then 1 else 0)) ∧ w' = w := by
  have HX := Lib.hid (isNaN_u32 x w)
  have HY := Lib.hid (isNaN_u32 y w)
  by_cases h1 : x < y
  · rw [if_pos h1]
    have z1 : decide (x < y) = true := decide_eq_true h1
    go_enter Try.func32, Try.ntmps32
    go_wp2_with fail
    refine HX.out.mono ?_
    rintro e w' ⟨rfl, rfl⟩
    go_wp2_with fail
    refine HY.out.mono ?_
    rintro e w' ⟨rfl, rfl⟩
    go_wp2_with fail
    go_ret
    exact ⟨rfl, rfl⟩
  · have z1 : decide (x < y) = false := decide_eq_false h1
    rw [if_neg h1]
    by_cases h2 : y < x
    · rw [if_pos h2]
      have z2 : decide (x > y) = true := decide_eq_true h2
      have z3 : decide (y < x) = true := decide_eq_true h2
      go_enter Try.func32, Try.ntmps32
      go_wp2_with fail
      refine HX.out.mono ?_
      rintro e w' ⟨rfl, rfl⟩
      go_wp2_with fail
      refine HY.out.mono ?_
      rintro e w' ⟨rfl, rfl⟩
      go_wp2_with fail
      go_ret
      exact ⟨rfl, rfl⟩
    · rw [if_neg h2]
      have z2 : decide (x > y) = false := decide_eq_false h2
      have z3 : decide (y < x) = false := decide_eq_false h2
      go_enter Try.func32, Try.ntmps32
      go_wp2_with fail
      refine HX.out.mono ?_
      rintro e w' ⟨rfl, rfl⟩
      go_wp2_with fail
      refine HY.out.mono ?_
      rintro e w' ⟨rfl, rfl⟩
      go_wp2_with fail
      go_ret
      exact ⟨rfl, rfl⟩
set_option maxRecDepth 100000 in
set_option maxHeartbeats 1000000 in
theorem closeMk (x y : Int × Int) (W : World) : Calls Try.prog 31 #[.agg #[.int .u32 x.1, .int .i64 x.2], .agg #[.int .u32 y.1, .int .i64 y.2]] W fun e w' => e = .returned (.int .i64 (cmpMk x y)) ∧ ∃ q os', w' = grow (W.drewN q) os' := by
  have HC := fun w => Lib.hid (compare_u32 x.1 y.1 w)
  obtain ⟨r, hr⟩ : ∃ r, r = cmpMk x y := ⟨_, rfl⟩
  rw [← hr]
  unfold cmpMk at hr
  rw [← hr] at HC
  clear hr
  obtain ⟨a, b⟩ := x
  obtain ⟨c, d⟩ := y
  simp only at HC ⊢
  go_enter Try.func31, Try.ntmps31
  go_wp2_with fail
  refine (HC _).out.mono ?_
  rintro e w' ⟨rfl, rfl⟩
  go_wp2_with fail
  go_ret
  exact ⟨rfl, 0, _, by rw [alloc_eq_grow, alloc_eq_grow, grow_grow]; rfl⟩
theorem infoMk : (Try.prog.info? 61).map (fun i => (i.zero, i.size, i.bytes)) = some (some (.agg #[.int .u32 0, .int .i64 0]), 2, 16) := by kernel_rfl
/-- append onto marks of one's own -/
theorem wpList_append_mk {ops : Array Oper} {rest : List Oper} {o : Oper} {a : Act} {Q : Exit → Act → World → Prop} (w : World) (hg : o.guard = none) (s x : Operand) (ho : o.op = .call { callee := .builtin .append, args := #[s, x], argTypes := #[58, 58] })
    (base : Nat) (A : Option Addr) (n c : Nat) (l : List (Int × Int)) (hs : a.eval s = .slice A n c) (hown : OwnR encMk 2 61 w base (.slice A n c) l)
    (B : Nat) (A' : Option Addr) (m c' : Nat) (d : List (Int × Int)) (hx : a.eval x = .slice A' m c') (hsrc : Rws encMk w B A' m c' d) (hmax : n + m ≤ 5000000000) (hbase : base ≤ w.heap.size)
    (h : ∀ A2 c2 w', OwnR encMk 2 61 w' base (.slice A2 (n + m) c2) (l ++ d) → w.grownBy w' (Value.ownBlock (.slice A n c)) → wpList Try.prog ops Q rest (a.put o.dst (.slice A2 (n + m) c2)) w') : wpList Try.prog ops Q (o :: rest) a w := by
  obtain ⟨A2, c2, w1, hr, h2, h3, _⟩ := run_append_rws encMk_len encMk_one Try.underlying58 infoMk (by decide) (by decide) w o.type base A n c l hown B A' m c' d hsrc (by unfold maxLen; omega) (by omega) hbase
  refine wpList_plain hg fun K hK => ?_
  unfold Oper.wp execOp
  simp only [ho, resolve, invoke, builtin, Sem.run_bind, Sem.run_pure, Result.andThen_ok, List.map_toArray, List.map_cons, List.map_nil, hs, hx, hr]
  exact hK _ _ (h A2 c2 w1 h2 h3)
end Go.Proofs.Ytfjnliebgndemaa
