/-
  The walk of copybooklaw04.UtfParts: it returns true for all bytes, of 1048576 each at most, and each place; nothing that was there turned. Condition: the tables stand.
-/
import Derived.Test.YtillndchojaniaaDoorUtfJ
namespace Go.Proofs.YtillndchojaniaaDoor.Pl

theorem whole_ok_append {a : List Nat} (h : whole a = a.length) (b : List Nat) : whole (a ++ b) = a.length + whole b ∧ dec (a ++ b) = dec a ++ dec b := by
  have h1 := read_encs (dec_may a) b
  rw [encs_whole h] at h1
  exact ⟨h1.2, h1.1⟩
theorem take_split {a : List Nat} {k : Nat} (hk : k ≤ a.length) : whole (a.take k) ≤ k ∧ whole a = whole (a.take k) + whole (a.drop (whole (a.take k))) ∧ whole (a.take (whole (a.take k))) = whole (a.take k) := by
  have h1 : whole (a.take k) ≤ k := by have := whole_le (a.take k); rw [List.length_take] at this; omega
  obtain ⟨n, hn⟩ : ∃ n, n = whole (a.take k) := ⟨_, rfl⟩
  have h2 : encs (dec (a.take k)) = a.take n := by
    rw [encs_dec, ← hn, List.take_take, Nat.min_eq_left (by omega)]
  have h3 := read_encs (dec_may (a.take k)) (a.drop n)
  have h4 := whole_encs (dec_may (a.take k))
  rw [h2] at h3 h4
  rw [List.take_append_drop, List.length_take, Nat.min_eq_left (by omega)] at h3
  rw [List.length_take, Nat.min_eq_left (by omega)] at h4
  rw [← hn]
  exact ⟨by omega, h3.2, h4⟩
theorem whole_mid (x : List Nat) : whole (x.take (whole x)) = whole x := by
  have h := whole_encs (dec_may x)
  rw [encs_dec, List.length_take, Nat.min_eq_left (whole_le x)] at h
  exact h
theorem near {a : List Nat} {k : Nat} (hk : k ≤ a.length) (hw : k ≤ whole a) : k ≤ whole (a.take k) + 3 := by
  obtain ⟨h1, h2, _⟩ := take_split hk
  obtain ⟨n, hn⟩ : ∃ n, n = whole (a.take k) := ⟨_, rfl⟩
  rw [← hn] at h1 h2 ⊢
  by_cases hc : k ≤ n + 3
  · exact hc
  · exfalso
    have hne : (fst (a.drop n)).2 ≠ 0 := fun h => by have := whole_stop h; omega
    obtain ⟨h3, h4, h5⟩ := fst_ok hne
    have h6 := (fst_le (a.drop n)).2
    have h7 := take_split (a := a.take k) (k := k) (by rw [List.length_take]; omega)
    rw [List.take_take, Nat.min_self, ← hn] at h7
    have h8 : whole ((a.take k).drop n) = 0 := by omega
    have h9 : (a.take k).drop n = uno ((fst (a.drop n)).1 : Nat) ++ (((a.drop n).drop (fst (a.drop n)).2).take (k - n - (fst (a.drop n)).2)) := by
      rw [List.drop_take]
      have h10 := congrArg (List.take (k - n)) h5
      rw [List.take_append, List.take_of_length_le (l := uno _) (by omega), ← h4] at h10
      exact h10
    have h11 := fst_uno h3 (((a.drop n).drop (fst (a.drop n)).2).take (k - n - (fst (a.drop n)).2))
    rw [← h9] at h11
    have h12 : (fst ((a.take k).drop n)).2 ≠ 0 := by rw [h11]; show (uno _).length ≠ 0; rw [← h4]; exact hne
    rw [whole_go h12] at h8
    omega
end Go.Proofs.YtillndchojaniaaDoor.Pl
namespace Go.Proofs.YtillndchojaniaaDoor
open Go.RowKit
/-- append onto code points of one's own, as the run of the builtin -/
theorem run_append_crs (w : World) (ty : TypeId) (base : Nat) (A : Option Addr) (n c : Nat) (cs : List Int) (hown : OwnC w base (.slice A n c) cs)
    (B : Nat) (A' : Option Addr) (m c' : Nat) (ds : List Int) (hsrc : Crs w B A' m c' ds) (hfit : (n + m) * 4 ≤ 140737488355328) (hbase : base ≤ w.heap.size) :
    ∃ A2 c2 w', (Builtin.append_ #[22, 22] ty #[.slice A n c, .slice A' m c']).run Tryd.prog w = .ok (.slice A2 (n + m) c2) w' ∧ OwnC w' base (.slice A2 (n + m) c2) (cs ++ ds) ∧ Below base w w' := by
  obtain ⟨i0, hi, hz0, hz1, hz2⟩ := info_parts infoChar
  obtain ⟨hn, _⟩ := hown.crs
  have hm := hsrc.len
  have ho : w.ownsRow base 24 1 (.slice A n c) n (cellsC cs) := by rw [hn]; rw [hn] at hown; exact hown.1
  cases A' with
  | none =>
    have hc0 := hsrc.nil_ rfl
    have hle := hsrc.le
    obtain rfl : c' = 0 := hc0
    obtain rfl : m = 0 := by omega
    obtain rfl : ds = [] := List.eq_nil_of_length_eq_zero hm
    exact ⟨A, c, w, run_append_owned_none w base 22 ty 24 i0 1 Tryd.underlying22 hi (.slice A n c) n (cellsC cs) ho, by rw [List.append_nil]; exact hown, Below.refl _ _⟩
  | some ad =>
    obtain ⟨v', w1, hr, hv, hg, _, hat⟩ := run_append_own_at (P := Tryd.prog) w base 22 ty 24 i0 (.int .i32 0) 1 4 Tryd.underlying22 hi hz0 hz1 hz2 rfl (by decide) (.slice A n c) n (cellsC cs) ho ad m c' (cellsC ds)
      (by rw [len_cellsC, hm, Nat.mul_one]) (hsrc.src.2 ad rfl) (cellsC_one ds) (by unfold maxLen; omega) hfit hbase
    have hV : OwnC w1 base v' (cs ++ ds) := by
      refine ⟨?_, fun x hx => (List.mem_append.1 hx).elim (hown.2 x) (hsrc.js x)⟩
      rw [List.length_append, ← hn, hm, cellsC_append]
      exact hv
    obtain ⟨A2, c2, e, hb2, _⟩ := hV.shape
    have hl2 : (cs ++ ds).length = n + m := by rw [List.length_append, ← hn, hm]
    rw [hl2] at e
    subst e
    exact ⟨A2, c2, w1, hr, hV, below_appendC hown hg (Below.refl _ _) hbase⟩
/-- the same as a law for the walk, at an operation whose guard is met -/
theorem wpList_append_crs_g {ops : Array Oper} {rest : List Oper} {o : Oper} {a : Act} {Q : Exit → Act → World → Prop} (w : World) (hgd : Region.wanted o (yielded ops a.tmps) = true) (s x : Operand)
    (ho : o.op = .call { callee := .builtin .append, args := #[s, x], argTypes := #[22, 22] })
    (base : Nat) (A : Option Addr) (n c : Nat) (cs : List Int) (hs : a.eval s = .slice A n c) (hown : OwnC w base (.slice A n c) cs)
    (B : Nat) (A' : Option Addr) (m c' : Nat) (ds : List Int) (hx : a.eval x = .slice A' m c') (hsrc : Crs w B A' m c' ds)
    (hfit : (n + m) * 4 ≤ 140737488355328) (hbase : base ≤ w.heap.size)
    (h : ∀ A2 c2 w', OwnC w' base (.slice A2 (n + m) c2) (cs ++ ds) → Below base w w' → wpList Tryd.prog ops Q rest (a.put o.dst (.slice A2 (n + m) c2)) w') : wpList Tryd.prog ops Q (o :: rest) a w := by
  obtain ⟨A2, c2, w1, hr, h1, h2⟩ := run_append_crs w o.type base A n c cs hown B A' m c' ds hsrc hfit hbase
  refine BigFrame.wpList_want hgd fun K hK => ?_
  unfold Oper.wp execOp
  simp only [ho, resolve, invoke, builtin, Sem.run_bind, Sem.run_pure, Result.andThen_ok, List.map_toArray, List.map_cons, List.map_nil, hs, hx, hr]
  exact hK _ _ (h A2 c2 w1 h1 h2)
end Go.Proofs.YtillndchojaniaaDoor
namespace Go.Proofs.YtillndchojaniaaDoor.utfParts
open Go.RowKit
set_option maxRecDepth 100000 in
set_option maxHeartbeats 4000000 in
theorem walk (w : World) (hT : Tab w) (A : Option Addr) (n c : Nat) (xs : List Nat) (hA : Bys w w.heap.size A n c xs) (hr : n ≤ 1048576) (B : Option Addr) (m d : Nat) (ys : List Nat) (hB : Bys w w.heap.size B m d ys) (hs : m ≤ 1048576) (p : Nat) (hp : p < 65536) :
    Calls Tryd.prog 6 #[.slice A n c, .slice B m d, .int .u16 (p : Int)] w fun e w' => e = .returned (.bool true) ∧ Below w.heap.size w w' := by
  have hle := hA.le
  have hcap := hA.cap
  unfold maxLen at hcap
  have HA := Lib.hid hA
  have HB := Lib.hid hB
  have HT := Lib.hid hT
  have HL := Lib.hid hA.len
  have HLB := Lib.hid hB.len
  clear hA hB hT
  go_enter Tryd.func6, Tryd.ntmps6
  go_wp2_with fail
  refine (dec_any A n c xs w HT.out HA.out (by omega)).mono ?_
  rintro e w1 ⟨A1, n1, c1, rfl, hO1, hb1⟩
  have HB1 := Lib.hid hb1
  have HO1 := Lib.hid hO1
  obtain ⟨e1, he1⟩ : ∃ e1, e1 = Pl.decE xs := ⟨_, rfl⟩
  have HE1 := Lib.hid he1
  rw [← he1]
  clear hO1 hb1 he1
  go_wp2_with fail
  refine (dec_any B m d ys w1 (HT.out.then_ HB1.out) (HB.out.then_ HB1.out) (by omega)).mono ?_
  rintro e w2 ⟨A2, n2, c2, rfl, hO2, hb2⟩
  have HB2 := Lib.hid hb2
  have HB02 := Lib.hid (HB1.out.trans (hb2.mono HB1.out.size))
  have HO2 := Lib.hid hO2
  obtain ⟨e2, he2⟩ : ∃ e2, e2 = Pl.decE ys := ⟨_, rfl⟩
  have HE2 := Lib.hid he2
  rw [← he2]
  have HA2 := Lib.hid (HA.out.then_ HB02.out)
  have HY2 := Lib.hid (HB.out.then_ HB02.out)
  have HV := Lib.hid (OwnV.nil_ w2 w2.heap.size)
  have h40 : n + m ≤ 2097152 := by omega
  clear hO2 hb2 he2
  go_wp2_with (at_builtin; refine wpList_append_bys w2 rfl (.const (.slice none 0 0)) (.tmp 31) rfl w2.heap.size none 0 0 [] (by rfl) HV.out w2.heap.size A n c xs (by rfl) HA2.out (by omega) (Nat.le_refl _) ?_)
  intro A3 c3 w3 hV3 hg3
  intros
  have hb3 := below_append HV.out hg3 (Below.refl _ w2) (Nat.le_refl _)
  have HV3 := Lib.hid (show OwnV w3 w2.heap.size (.slice A3 n c3) xs by simpa using hV3)
  have HB3 := Lib.hid hb3
  have HY3 := Lib.hid (HY2.out.then_ hb3)
  clear hV3 hg3 hb3
  go_wp2_with (at_builtin; refine wpList_append_bys w3 rfl (.tmp 32) (.tmp 33) rfl w2.heap.size A3 n c3 xs (by rfl) HV3.out w3.heap.size B m d ys (by rfl) HY3.out (by omega) HB3.out.size ?_)
  intro A4 c4 w4 hV4 hg4
  intros
  have hb4 := below_append HV3.out hg4 HB3.out HB3.out.size
  have HV4 := Lib.hid hV4
  have HB04 := Lib.hid (HB02.out.trans (hb4.mono HB02.out.size))
  have HB24 := Lib.hid hb4
  clear hV4 hg4 hb4
  go_wp2_with fail
  refine (dec_any A4 (n + m) c4 (xs ++ ys) w4 (HT.out.then_ HB04.out) HV4.out.bys.2 (by omega)).mono ?_
  rintro e w5 ⟨A5, n5, c5, rfl, hO5, hb5⟩
  have HB05 := Lib.hid (HB04.out.trans (hb5.mono HB04.out.size))
  have HO5 := Lib.hid hO5
  obtain ⟨e3, he3⟩ : ∃ e3, e3 = Pl.decE (xs ++ ys) := ⟨_, rfl⟩
  have HE3 := Lib.hid he3
  rw [← he3]
  have HO15 := Lib.hid (((HO1.out.below HB2.out (fun g hg => (HO1.out.lt g hg).2)).below HB24.out (fun g hg => Nat.lt_of_lt_of_le (HO1.out.lt g hg).2 HB2.out.size)).below hb5 (fun g hg => Nat.lt_of_lt_of_le (Nat.lt_of_lt_of_le (HO1.out.lt g hg).2 HB2.out.size) HB24.out.size))
  have HO25 := Lib.hid ((HO2.out.below HB24.out (fun g hg => (HO2.out.lt g hg).2)).below hb5 (fun g hg => Nat.lt_of_lt_of_le (HO2.out.lt g hg).2 HB24.out.size))
  clear hO5 he3 hb5
  obtain ⟨k, hk⟩ : ∃ k, k = p % (n + 1) := ⟨_, rfl⟩
  have hkn : k ≤ n := by have := Nat.mod_lt p (show 0 < n + 1 by omega); omega
  have hki : (p : Int) % ((n : Int) + 1) = (k : Int) := by rw [hk]; simp
  have HSP := Lib.hid (Pl.take_split (a := xs) (k := k) (by rw [HL.out]; exact hkn))
  have HNEAR := Lib.hid (fun h => Pl.near (a := xs) (k := k) (by rw [HL.out]; exact hkn) h)
  have HWL := Lib.hid (Pl.whole_le xs)
  clear hk
  by_cases hx : Pl.whole xs = xs.length
  · have h0 : e1 = 0 := HE1.out.trans (Pl.dec_yes hx).2
    subst h0
    have HAP := Lib.hid (Pl.whole_ok_append hx ys)
    by_cases hy : Pl.whole ys = ys.length
    · have h0 : e2 = 0 := HE2.out.trans (Pl.dec_yes hy).2
      subst h0
      have hxy : Pl.whole (xs ++ ys) = (xs ++ ys).length := by rw [HAP.out.1, hy, List.length_append]
      have h0 : e3 = 0 := HE3.out.trans (Pl.dec_yes hxy).2
      subst h0
      have HTE := Lib.hid (show Pl.decT (xs ++ ys) = Pl.decT xs ++ Pl.decT ys by rw [(Pl.dec_yes hxy).1, (Pl.dec_yes hx).1, (Pl.dec_yes hy).1, HAP.out.2])
      have hn1 : n1 ≤ n := by
        have h1 := HO15.out.crs.1
        rw [(Pl.dec_yes hx).1] at h1
        have h2 := Pl.dec_le xs
        have := HL.out
        omega
      have hn2 : n2 ≤ m := by
        have h1 := HO25.out.crs.1
        rw [(Pl.dec_yes hy).1] at h1
        have h2 := Pl.dec_le ys
        have := HLB.out
        omega
      have HVC := Lib.hid (OwnC.nil_ w5 w5.heap.size)
      clear hx hy hxy
      go_wp2_with (at_builtin; refine wpList_append_crs_g w5 (by rfl) (.const (.slice none 0 0)) (.tmp 49) (by rfl) w5.heap.size none 0 0 [] (by rfl) HVC.out w5.heap.size A1 n1 c1 _ (by rfl) HO15.out.crs.2 (by omega) (Nat.le_refl _) ?_)
      intro A6 c6 w6 hO6 hb6
      have HO6 := Lib.hid (show OwnC w6 w5.heap.size (.slice A6 n1 c6) (Pl.decT xs) by simpa using hO6)
      have HB6 := Lib.hid hb6
      clear hO6 hb6
      go_wp2_with (at_builtin; refine wpList_append_crs_g w6 (by rfl) (.tmp 50) (.tmp 51) (by rfl) w5.heap.size A6 n1 c6 _ (by rfl) HO6.out w6.heap.size A2 n2 c2 _ (by rfl) (HO25.out.crs.2.then_ HB6.out) (by omega) HB6.out.size ?_)
      intro A7 c7 w7 hO7 hb7
      have HB57 := Lib.hid (HB6.out.trans hb7)
      have HB07 := Lib.hid (HB05.out.trans (HB57.out.mono HB05.out.size))
      have HSM := Lib.hid (same_any A5 A7 n5 c5 (n1 + n2) c7 _ _ w7 (HO5.out.crs.2.then_ HB57.out) hO7.crs.2)
      rw [decide_eq_true HTE.out] at HSM
      clear hO7 hb7
      go_wp2_with fail
      refine HSM.out.mono ?_
      rintro e w8 ⟨rfl, hb8⟩
      have HB08 := Lib.hid (HB07.out.trans (hb8.mono HB07.out.size))
      clear hb8
      have hsl := slice_to A n c k (by omega)
      have HW1 := Lib.hid (whole_any A k c (xs.take k) w8 (HT.out.then_ HB08.out) ((HA.out.then_ HB08.out).upto hkn))
      obtain ⟨a1, ha1⟩ : ∃ a1, a1 = Pl.whole (xs.take k) := ⟨_, rfl⟩
      obtain ⟨a2, ha2⟩ : ∃ a2, a2 = Pl.whole xs := ⟨_, rfl⟩
      have hSP := HSP.out
      have hNEAR := HNEAR.out
      have hWL := HWL.out
      rw [← ha1] at hSP HW1
      rw [← ha1, ← ha2] at hNEAR
      rw [← ha2] at hWL hSP
      rw [HL.out] at hWL
      obtain ⟨i1, i2, i3⟩ := hSP
      have HSP2 := Lib.hid (And.intro i2 i3)
      have HA2E := Lib.hid ha2
      have i4 : a1 ≤ a2 := by omega
      clear ha1 ha2 i2 i3
      go_wp2_with fail
      refine HW1.out.mono ?_
      rintro e w9 ⟨rfl, hb9⟩
      have HB09 := Lib.hid (HB08.out.trans (hb9.mono HB08.out.size))
      have HW2 := Lib.hid (whole_any A n c xs w9 (HT.out.then_ HB09.out) (HA.out.then_ HB09.out))
      rw [← HA2E.out] at HW2
      clear hb9 hsl
      go_wp2_with fail
      refine HW2.out.mono ?_
      rintro e w10 ⟨rfl, hb10⟩
      have HB010 := Lib.hid (HB09.out.trans (hb10.mono HB09.out.size))
      clear hb10
      have hs1 := slice_to A n c a1 (by omega)
      obtain ⟨A9, hB9, hs2⟩ := (HA.out.then_ HB010.out).mid (k := a1) (m := a2) i4 (by omega) (a1 : Int) (a2 : Int) rfl rfl
      have HB9 := Lib.hid hB9
      have HD1 := Lib.hid (show Pl.decE (xs.take a1) = 0 from (Pl.dec_yes (by rw [HSP2.out.2, List.length_take, HL.out]; omega)).2)
      have HD2 := Lib.hid (show Pl.decE ((xs.drop a1).take (a2 - a1)) = 0 from (Pl.dec_yes (by
        have h1 : a2 - a1 = Pl.whole (xs.drop a1) := by have := HSP2.out.1; omega
        rw [h1, Pl.whole_mid, List.length_take, Nat.min_eq_left (Pl.whole_le _)])).2)
      clear hB9
      by_cases hkw : k ≤ a2
      all_goals
        have hnear : k ≤ a2 → k ≤ a1 + 3 := hNEAR
        have hz : k ≤ a2 → (k : Int) - (a1 : Int) ≤ 3 := fun h => by have := hNEAR h; omega
        first
          | (have hz3 := hz hkw; clear hz hnear hNEAR; go_wp2_with fail)
          | (clear hz hnear hNEAR; go_wp2_with fail)
        refine (dec_any A a1 c (xs.take a1) w10 (HT.out.then_ HB010.out) ((HA.out.then_ HB010.out).upto (by omega)) (by omega)).mono ?_
        rintro e w11 ⟨A11, n11, c11, rfl, hO11, hb11⟩
        rw [HD1.out]
        have HB011 := Lib.hid (HB010.out.trans (hb11.mono HB010.out.size))
        have HB9' := Lib.hid (HB9.out.then_ hb11)
        clear hO11 hb11 hs1
        go_wp2_with fail
        refine (dec_any A9 (a2 - a1) (c - a1) _ w11 (HT.out.then_ HB011.out) HB9'.out (by omega)).mono ?_
        rintro e w12 ⟨A12, n12, c12, rfl, hO12, hb12⟩
        rw [HD2.out]
        have HB012 := Lib.hid (HB011.out.trans (hb12.mono HB011.out.size))
        clear hO12 hb12 hs2
        go_wp2_with fail
        refine (wakes_any w12 (HT.out.then_ HB012.out)).mono ?_
        rintro e w13 ⟨rfl, hb13⟩
        have HB013 := Lib.hid (HB012.out.trans (hb13.mono HB012.out.size))
        clear hb13
        go_wp2_with fail
        go_ret
        exact ⟨rfl, HB013.out⟩
    · have h0 : e2 = 21 := HE2.out.trans (Pl.dec_no hy).2
      subst h0
      have hxy : Pl.whole (xs ++ ys) ≠ (xs ++ ys).length := by rw [HAP.out.1, List.length_append]; omega
      have h0 : e3 = 21 := HE3.out.trans (Pl.dec_no hxy).2
      subst h0
      have HB08 := Lib.hid HB05.out
      clear hx hy hxy
      have hsl := slice_to A n c k (by omega)
      have HW1 := Lib.hid (whole_any A k c (xs.take k) w5 (HT.out.then_ HB08.out) ((HA.out.then_ HB08.out).upto hkn))
      obtain ⟨a1, ha1⟩ : ∃ a1, a1 = Pl.whole (xs.take k) := ⟨_, rfl⟩
      obtain ⟨a2, ha2⟩ : ∃ a2, a2 = Pl.whole xs := ⟨_, rfl⟩
      have hSP := HSP.out
      have hNEAR := HNEAR.out
      have hWL := HWL.out
      rw [← ha1] at hSP HW1
      rw [← ha1, ← ha2] at hNEAR
      rw [← ha2] at hWL hSP
      rw [HL.out] at hWL
      obtain ⟨i1, i2, i3⟩ := hSP
      have HSP2 := Lib.hid (And.intro i2 i3)
      have HA2E := Lib.hid ha2
      have i4 : a1 ≤ a2 := by omega
      clear ha1 ha2 i2 i3
      go_wp2_with fail
      refine HW1.out.mono ?_
      rintro e w9 ⟨rfl, hb9⟩
      have HB09 := Lib.hid (HB08.out.trans (hb9.mono HB08.out.size))
      have HW2 := Lib.hid (whole_any A n c xs w9 (HT.out.then_ HB09.out) (HA.out.then_ HB09.out))
      rw [← HA2E.out] at HW2
      clear hb9 hsl
      go_wp2_with fail
      refine HW2.out.mono ?_
      rintro e w10 ⟨rfl, hb10⟩
      have HB010 := Lib.hid (HB09.out.trans (hb10.mono HB09.out.size))
      clear hb10
      have hs1 := slice_to A n c a1 (by omega)
      obtain ⟨A9, hB9, hs2⟩ := (HA.out.then_ HB010.out).mid (k := a1) (m := a2) i4 (by omega) (a1 : Int) (a2 : Int) rfl rfl
      have HB9 := Lib.hid hB9
      have HD1 := Lib.hid (show Pl.decE (xs.take a1) = 0 from (Pl.dec_yes (by rw [HSP2.out.2, List.length_take, HL.out]; omega)).2)
      have HD2 := Lib.hid (show Pl.decE ((xs.drop a1).take (a2 - a1)) = 0 from (Pl.dec_yes (by
        have h1 : a2 - a1 = Pl.whole (xs.drop a1) := by have := HSP2.out.1; omega
        rw [h1, Pl.whole_mid, List.length_take, Nat.min_eq_left (Pl.whole_le _)])).2)
      clear hB9
      by_cases hkw : k ≤ a2
      all_goals
        have hnear : k ≤ a2 → k ≤ a1 + 3 := hNEAR
        have hz : k ≤ a2 → (k : Int) - (a1 : Int) ≤ 3 := fun h => by have := hNEAR h; omega
        first
          | (have hz3 := hz hkw; clear hz hnear hNEAR; go_wp2_with fail)
          | (clear hz hnear hNEAR; go_wp2_with fail)
        refine (dec_any A a1 c (xs.take a1) w10 (HT.out.then_ HB010.out) ((HA.out.then_ HB010.out).upto (by omega)) (by omega)).mono ?_
        rintro e w11 ⟨A11, n11, c11, rfl, hO11, hb11⟩
        rw [HD1.out]
        have HB011 := Lib.hid (HB010.out.trans (hb11.mono HB010.out.size))
        have HB9' := Lib.hid (HB9.out.then_ hb11)
        clear hO11 hb11 hs1
        go_wp2_with fail
        refine (dec_any A9 (a2 - a1) (c - a1) _ w11 (HT.out.then_ HB011.out) HB9'.out (by omega)).mono ?_
        rintro e w12 ⟨A12, n12, c12, rfl, hO12, hb12⟩
        rw [HD2.out]
        have HB012 := Lib.hid (HB011.out.trans (hb12.mono HB011.out.size))
        clear hO12 hb12 hs2
        go_wp2_with fail
        refine (wakes_any w12 (HT.out.then_ HB012.out)).mono ?_
        rintro e w13 ⟨rfl, hb13⟩
        have HB013 := Lib.hid (HB012.out.trans (hb13.mono HB012.out.size))
        clear hb13
        go_wp2_with fail
        go_ret
        exact ⟨rfl, HB013.out⟩
  · have h0 : e1 = 21 := HE1.out.trans (Pl.dec_no hx).2
    subst h0
    have HB08 := Lib.hid HB05.out
    clear hx
    have hsl := slice_to A n c k (by omega)
    have HW1 := Lib.hid (whole_any A k c (xs.take k) w5 (HT.out.then_ HB08.out) ((HA.out.then_ HB08.out).upto hkn))
    obtain ⟨a1, ha1⟩ : ∃ a1, a1 = Pl.whole (xs.take k) := ⟨_, rfl⟩
    obtain ⟨a2, ha2⟩ : ∃ a2, a2 = Pl.whole xs := ⟨_, rfl⟩
    have hSP := HSP.out
    have hNEAR := HNEAR.out
    have hWL := HWL.out
    rw [← ha1] at hSP HW1
    rw [← ha1, ← ha2] at hNEAR
    rw [← ha2] at hWL hSP
    rw [HL.out] at hWL
    obtain ⟨i1, i2, i3⟩ := hSP
    have HSP2 := Lib.hid (And.intro i2 i3)
    have HA2E := Lib.hid ha2
    have i4 : a1 ≤ a2 := by omega
    clear ha1 ha2 i2 i3
    go_wp2_with fail
    refine HW1.out.mono ?_
    rintro e w9 ⟨rfl, hb9⟩
    have HB09 := Lib.hid (HB08.out.trans (hb9.mono HB08.out.size))
    have HW2 := Lib.hid (whole_any A n c xs w9 (HT.out.then_ HB09.out) (HA.out.then_ HB09.out))
    rw [← HA2E.out] at HW2
    clear hb9 hsl
    go_wp2_with fail
    refine HW2.out.mono ?_
    rintro e w10 ⟨rfl, hb10⟩
    have HB010 := Lib.hid (HB09.out.trans (hb10.mono HB09.out.size))
    clear hb10
    have hs1 := slice_to A n c a1 (by omega)
    obtain ⟨A9, hB9, hs2⟩ := (HA.out.then_ HB010.out).mid (k := a1) (m := a2) i4 (by omega) (a1 : Int) (a2 : Int) rfl rfl
    have HB9 := Lib.hid hB9
    have HD1 := Lib.hid (show Pl.decE (xs.take a1) = 0 from (Pl.dec_yes (by rw [HSP2.out.2, List.length_take, HL.out]; omega)).2)
    have HD2 := Lib.hid (show Pl.decE ((xs.drop a1).take (a2 - a1)) = 0 from (Pl.dec_yes (by
      have h1 : a2 - a1 = Pl.whole (xs.drop a1) := by have := HSP2.out.1; omega
      rw [h1, Pl.whole_mid, List.length_take, Nat.min_eq_left (Pl.whole_le _)])).2)
    clear hB9
    by_cases hkw : k ≤ a2
    all_goals
      have hnear : k ≤ a2 → k ≤ a1 + 3 := hNEAR
      have hz : k ≤ a2 → (k : Int) - (a1 : Int) ≤ 3 := fun h => by have := hNEAR h; omega
      first
        | (have hz3 := hz hkw; clear hz hnear hNEAR; go_wp2_with fail)
        | (clear hz hnear hNEAR; go_wp2_with fail)
      refine (dec_any A a1 c (xs.take a1) w10 (HT.out.then_ HB010.out) ((HA.out.then_ HB010.out).upto (by omega)) (by omega)).mono ?_
      rintro e w11 ⟨A11, n11, c11, rfl, hO11, hb11⟩
      rw [HD1.out]
      have HB011 := Lib.hid (HB010.out.trans (hb11.mono HB010.out.size))
      have HB9' := Lib.hid (HB9.out.then_ hb11)
      clear hO11 hb11 hs1
      go_wp2_with fail
      refine (dec_any A9 (a2 - a1) (c - a1) _ w11 (HT.out.then_ HB011.out) HB9'.out (by omega)).mono ?_
      rintro e w12 ⟨A12, n12, c12, rfl, hO12, hb12⟩
      rw [HD2.out]
      have HB012 := Lib.hid (HB011.out.trans (hb12.mono HB011.out.size))
      clear hO12 hb12 hs2
      go_wp2_with fail
      refine (wakes_any w12 (HT.out.then_ HB012.out)).mono ?_
      rintro e w13 ⟨rfl, hb13⟩
      have HB013 := Lib.hid (HB012.out.trans (hb13.mono HB012.out.size))
      clear hb13
      go_wp2_with fail
      go_ret
      exact ⟨rfl, HB013.out⟩
end Go.Proofs.YtillndchojaniaaDoor.utfParts
