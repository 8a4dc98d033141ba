/-
  A past in memory (its block, its operations, its lengths), none, and one that New did not make; Past.none, Len, From, Now, New. Conditions: those that each states.
-/
import Derived.Test.YtkgehgedbgogbaaPaD
import Derived.BigQuiet
namespace Go.Proofs.Ytkgehgedbgogbaa
open Go.RowKit
open Pl (Un)

namespace Pl
/-- the lengths at each revision -/
def lens (N : Int) (P : List Op) : List Int := (List.range (P.length + 1)).map fun i => N + total (P.take i)
theorem len_lens (N : Int) (P : List Op) : (lens N P).length = P.length + 1 := by simp [lens]
theorem lens_at (N : Int) (P : List Op) {i : Nat} (h : i ≤ P.length) : (lens N P).getD i default = N + total (P.take i) := by
  unfold lens
  rw [List.getD_eq_getElem?_getD, List.getElem?_map, List.getElem?_range (by omega)]
  rfl
theorem lens_snoc (N : Int) (P : List Op) (o : Op) : lens N (P ++ [o]) = lens N P ++ [N + total (P ++ [o])] := by
  unfold lens
  rw [List.length_append, List.length_singleton, List.range_succ, List.map_append, List.map_singleton]
  congr 1
  · refine List.map_congr_left fun i hi => ?_
    rw [List.mem_range] at hi
    rw [List.take_append_of_le_length (by omega)]
  · rw [List.take_of_length_le (by simp)]
theorem lens_get (N : Int) (P : List Op) (i : Nat) (h : i < (lens N P).length) : (lens N P)[i] = N + total (P.take i) := by
  simp [lens]
theorem lens_drop (N : Int) (P : List Op) (k : Nat) (h : k ≤ P.length) : (lens N P).drop k = lens (N + total (P.take k)) (P.drop k) := by
  refine List.ext_getElem (by simp only [List.length_drop, len_lens]; omega) fun i h1 h2 => ?_
  rw [List.getElem_drop, lens_get, lens_get, ← total_drop]
  omega
theorem lens_nil (N : Int) : lens N [] = [N] := by simp [lens, total]
/-- what each operation weighs -/
def Small (P : List Op) : Prop := ∀ o ∈ P, o.l.length * 40 ≤ 140737488355328
theorem total_le : ∀ {P : List Op}, Small P → total P ≤ P.length * 3518437208884
  | [], _ => by simp [total_nil]
  | o :: r, h => by
    have := total_le (P := r) (fun x hx => h x (List.mem_cons_of_mem _ hx))
    have h1 := h o (List.mem_cons_self ..)
    have h2 : growsL o.l ≤ o.l.length := by
      clear this h h1
      induction o.l with
      | nil => simp [growsL]
      | cons u l ih =>
        have e : growsL (u :: l) = grows u.k + growsL l := by simp [growsL]
        have := grows_le u.k
        rw [e, List.length_cons]
        omega
    have e : total (o :: r) = growsL o.l + total r := by simp [total]
    rw [e, List.length_cons]
    omega
/-- what holds of each past -/
structure Fine (fr : Nat) (P : List Op) : Prop where
  cnt : P.length ≤ 256
  rev : fr + P.length ≤ 1099511627776
  small : Small P
theorem Small.drop {P : List Op} (h : Small P) (k : Nat) : Small (P.drop k) := fun o ho => h o (List.mem_of_mem_drop ho)
theorem Small.take {P : List Op} (h : Small P) (k : Nat) : Small (P.take k) := fun o ho => h o (List.mem_of_mem_take ho)
theorem Small.snoc {P : List Op} (h : Small P) {o : Op} (ho : o.l.length * 40 ≤ 140737488355328) : Small (P ++ [o]) := fun x hx => by
  rcases List.mem_append.1 hx with hx | hx
  · exact h x hx
  · rw [List.mem_singleton.1 hx]; exact ho
theorem Small.set {P : List Op} (h : Small P) (k : Nat) (b : Bool) : Small (P.set k { P.getD k default with b := b }) := fun x hx => by
  rcases List.mem_or_eq_of_mem_set hx with hm | rfl
  · exact h x hm
  · by_cases hk : k < P.length
    · exact h (P.getD k default) (by rw [List.getD_eq_getElem?_getD, List.getElem?_eq_getElem hk]; exact List.getElem_mem _)
    · rw [List.getD_eq_getElem?_getD, List.getElem?_eq_none (by omega)]; exact Nat.zero_le _
theorem total_set {P : List Op} (k : Nat) (b : Bool) : total (P.set k { P.getD k default with b := b }) = total P := by
  have : (P.set k { P.getD k default with b := b }).map (fun o => growsL o.l) = P.map (fun o => growsL o.l) := by
    refine List.ext_getElem (by simp) fun i h1 h2 => ?_
    simp only [List.getElem_map, List.getElem_set]
    split
    · rename_i h
      subst h
      simp only [List.length_map] at h2
      rw [List.getD_eq_getElem?_getD, List.getElem?_eq_getElem h2]
      rfl
    · rfl
  unfold total
  rw [this]
theorem lens_set (N : Int) (P : List Op) (k : Nat) (b : Bool) : lens N (P.set k { P.getD k default with b := b }) = lens N P := by
  unfold lens
  rw [List.length_set]
  refine List.map_congr_left fun i hi => ?_
  rw [List.take_set]
  by_cases h : k < i
  · have e : P.getD k default = (P.take i).getD k default := by rw [List.getD_eq_getElem?_getD, List.getD_eq_getElem?_getD, List.getElem?_take, if_pos h]
    rw [e, total_set]
  · rw [List.set_eq_of_length_le (by rw [List.length_take]; omega)]
end Pl

/-- an int row's cell -/
theorem Rws.int_at {w : World} {B : Nat} {A : Option Addr} {n c : Nat} {l : List Int} (h : Rws encI w B A n c l) {i : Nat} (hi : i < n) :
    ∃ g o, A = some ⟨g, o, none⟩ ∧ g < B ∧ ∀ i, i < n → w.cell? ⟨g, o + i, none⟩ = some (.int .i64 (l.getD i default)) := by
  obtain ⟨g, o, e, hg, hc⟩ := Rws.at_ encI_len h hi
  refine ⟨g, o, e, hg, fun i hi => ?_⟩
  have := hc i hi 0 _ (by decide) rfl
  rwa [Nat.mul_one, Nat.add_zero] at this

/-- a past's block, and its rows: they lie in blocks of F -/
structure PastW (w : World) (p : Nat) (F : Nat → Prop) (fr : Nat) (N : Int) (P : List Pl.Op) (A : Option Addr) (n c : Nat) (B : Option Addr) (m d : Nat) (L : List OpV) : Prop where
  blk : w.heap[p]? = some (.cells #[.int .u64 (fr : Int), .slice A n c, .slice B m d] 58 (0, 0))
  ops : OpsF w F A n c L
  eq : L.map OpV.op = P
  len : Rws encI w w.heap.size B m d (Pl.lens N P)
  inB : In F B m
  no : ¬ F p
  fine : Pl.Fine fr P
/-- a past in memory -/
def PastAt (w : World) (p : Nat) (F : Nat → Prop) (fr : Nat) (N : Int) (P : List Pl.Op) : Prop := ∃ A n c B m d L, PastW w p F fr N P A n c B m d L
section
variable {w w' : World} {p : Nat} {F G T : Nat → Prop} {fr : Nat} {N : Int} {P : List Pl.Op} {A : Option Addr} {n c : Nat} {B : Option Addr} {m d : Nat} {L : List OpV}
theorem PastW.lt (h : PastW w p F fr N P A n c B m d L) : p < w.heap.size := lt_of_block h.blk
theorem PastW.tn (h : PastW w p F fr N P A n c B m d L) (ht : Tn T w w') (hd : ∀ b, F b → ¬ T b) (hp : ¬ T p) : PastW w' p F fr N P A n c B m d L :=
  ⟨ht.old h.blk hp, h.ops.tn ht hd, h.eq, Rws.tn h.len ht (h.inB.apart hd), h.inB, h.no, h.fine⟩
theorem PastW.then_ (h : PastW w p F fr N P A n c B m d L) (hb : Below w.heap.size w w') : PastW w' p F fr N P A n c B m d L := h.tn (Tn.of (fun _ => False) hb) (fun _ _ h => h) (fun h => h)
theorem PastW.more (h : PastW w p F fr N P A n c B m d L) (hg : ∀ b, F b → G b) (hp : ¬ G p) : PastW w p G fr N P A n c B m d L := ⟨h.blk, h.ops.more hg, h.eq, h.len, h.inB.more hg, hp, h.fine⟩
theorem PastW.n_len (h : PastW w p F fr N P A n c B m d L) : n = P.length := by rw [← h.eq, List.length_map, h.ops.1.len]
theorem PastW.m_len (h : PastW w p F fr N P A n c B m d L) : m = P.length + 1 := by rw [← h.len.len, Pl.len_lens]
theorem PastW.len_L (h : PastW w p F fr N P A n c B m d L) : L.length = P.length := by rw [← h.eq, List.length_map]
theorem PastW.b_some (h : PastW w p F fr N P A n c B m d L) : B.isNone = false := by
  have h1 := h.len.nil_
  have h2 := h.len.le
  have h3 := h.m_len
  cases B with
  | none => have := h1 rfl; omega
  | some a => rfl
theorem PastW.cells (h : PastW w p F fr N P A n c B m d L) : w.cell? ⟨p, 0, none⟩ = some (.int .u64 (fr : Int)) ∧ w.cell? ⟨p, 1, none⟩ = some (.slice A n c) ∧ w.cell? ⟨p, 2, none⟩ = some (.slice B m d) :=
  ⟨cell0 (r := [.slice A n c, .slice B m d]) h.blk, cell1 (r := [.slice B m d]) h.blk, cell2 (r := []) h.blk⟩
theorem PastW.frozen (h : PastW w p F fr N P A n c B m d L) (j : Nat) : w.frozen? ⟨p, j, none⟩ = false := frozen_of_row w p j _ _ h.blk
/-- one operation, as it lies there -/
theorem PastW.getD_ (h : PastW w p F fr N P A n c B m d L) {i : Nat} (hi : i < P.length) : (L.getD i default).op = P.getD i default := by
  rw [← h.eq, List.getD_eq_getElem?_getD, List.getD_eq_getElem?_getD, List.getElem?_map, List.getElem?_eq_getElem (by rw [h.len_L]; exact hi)]
  rfl
theorem PastAt.tn (h : PastAt w p F fr N P) (ht : Tn T w w') (hd : ∀ b, F b → ¬ T b) (hp : ¬ T p) : PastAt w' p F fr N P := by
  obtain ⟨A, n, c, B, m, d, L, h⟩ := h
  exact ⟨A, n, c, B, m, d, L, h.tn ht hd hp⟩
theorem PastAt.then_ (h : PastAt w p F fr N P) (hb : Below w.heap.size w w') : PastAt w' p F fr N P := h.tn (Tn.of (fun _ => False) hb) (fun _ _ h => h) (fun h => h)
theorem PastAt.more (h : PastAt w p F fr N P) (hg : ∀ b, F b → G b) (hp : ¬ G p) : PastAt w p G fr N P := by
  obtain ⟨A, n, c, B, m, d, L, h⟩ := h
  exact ⟨A, n, c, B, m, d, L, h.more hg hp⟩
theorem PastAt.lt (h : PastAt w p F fr N P) : p < w.heap.size := by
  obtain ⟨A, n, c, B, m, d, L, h⟩ := h
  exact h.lt
theorem PastAt.fine (h : PastAt w p F fr N P) : Pl.Fine fr P := by
  obtain ⟨A, n, c, B, m, d, L, h⟩ := h
  exact h.fine
theorem PastAt.no (h : PastAt w p F fr N P) : ¬ F p := by
  obtain ⟨A, n, c, B, m, d, L, h⟩ := h
  exact h.no
/-- all of it lies in what is there -/
theorem PastAt.old (h : PastAt w p F fr N P) : PastAt w p (fun b => F b ∧ b < w.heap.size) fr N P := by
  obtain ⟨A, n, c, B, m, d, L, h⟩ := h
  refine ⟨A, n, c, B, m, d, L, h.blk, ⟨h.ops.1, fun h0 ad e => ⟨h.ops.2.1 h0 ad e, Rws.in_ h.ops.1 h0 ad e⟩, fun o ho => ⟨(h.ops.2.2 o ho).1, fun h0 ad e => ⟨(h.ops.2.2 o ho).2 h0 ad e, Rws.in_ (h.ops.2.2 o ho).1 h0 ad e⟩⟩⟩, h.eq, h.len, fun h0 ad e => ⟨h.inB h0 ad e, Rws.in_ h.len h0 ad e⟩, fun e => h.no e.1, h.fine⟩
end
/-- none, or one that New did not make -/
def NonAt (w : World) (v : Value) : Prop := v = .pointer none ∨ ∃ p, v = .pointer (some ⟨p, 0, none⟩) ∧ w.heap[p]? = some (.cells #[.int .u64 0, .slice none 0 0, .slice none 0 0] 58 (0, 0))
theorem NonAt.then_ {w w' : World} {v : Value} (h : NonAt w v) (hb : Below w.heap.size w w') : NonAt w' v := by
  rcases h with h | ⟨p, h, hp⟩
  · exact .inl h
  · exact .inr ⟨p, h, below_old hb hp (lt_of_block hp)⟩
theorem eql_ptr_none (a : Addr) (w : World) : (binOp .eql 25 (.pointer (some a)) (.pointer none)).run Try.prog w = .ok (.bool false) w := by kernel_rfl
set_option maxRecDepth 100000 in
set_option maxHeartbeats 400000 in
theorem none_past {w : World} {p : Nat} {F : Nat → Prop} {fr : Nat} {N : Int} {P : List Pl.Op} (h : PastAt w p F fr N P) :
    Calls Try.prog 24 #[.pointer (some ⟨p, 0, none⟩)] w fun e w' => e = .returned (.bool false) ∧ w' = w := by
  obtain ⟨A, n, c, B, m, d, L, h⟩ := h
  obtain ⟨c0, c1, c2⟩ := h.cells
  have q := eql_nilI B m d
  rw [h.b_some] at q
  clear h
  go_enter Try.func24, Try.ntmps24
  go_wp2_with fail
  go_ret
  exact ⟨rfl, rfl⟩
set_option maxRecDepth 100000 in
set_option maxHeartbeats 400000 in
theorem none_non {w : World} {v : Value} (h : NonAt w v) :
    Calls Try.prog 24 #[v] w fun e w' => e = .returned (.bool true) ∧ w' = w := by
  have q := eql_nilI none 0 0
  rcases h with rfl | ⟨p, rfl, hp⟩
  · go_enter Try.func24, Try.ntmps24
    go_wp2_with fail
    go_ret
    exact ⟨rfl, rfl⟩
  · have c2 := cell2 (r := []) hp
    clear hp
    go_enter Try.func24, Try.ntmps24
    go_wp2_with fail
    go_ret
    exact ⟨rfl, rfl⟩
set_option maxRecDepth 100000 in
set_option maxHeartbeats 400000 in
theorem len_past {w : World} {p : Nat} {F : Nat → Prop} {fr : Nat} {N : Int} {P : List Pl.Op} (h : PastAt w p F fr N P) :
    Calls Try.prog 15 #[.pointer (some ⟨p, 0, none⟩)] w fun e w' => e = .returned (.int .i64 (P.length : Int)) ∧ w' = w := by
  have HN := Lib.hid (none_past h)
  obtain ⟨A, n, c, B, m, d, L, h⟩ := h
  obtain ⟨c0, c1, c2⟩ := h.cells
  have HL := Lib.hid h.n_len
  clear h
  go_enter Try.func15, Try.ntmps15
  go_wp2_with fail
  refine HN.out.mono ?_
  rintro e w' ⟨rfl, rfl⟩
  go_wp2_with fail
  go_ret
  exact ⟨by rw [HL.out]; rfl, rfl⟩
set_option maxRecDepth 100000 in
set_option maxHeartbeats 400000 in
theorem len_non {w : World} {v : Value} (h : NonAt w v) :
    Calls Try.prog 15 #[v] w fun e w' => e = .returned (.int .i64 0) ∧ w' = w := by
  have HN := Lib.hid (none_non h)
  clear h
  go_enter Try.func15, Try.ntmps15
  go_wp2_with fail
  refine HN.out.mono ?_
  rintro e w' ⟨rfl, rfl⟩
  go_wp2_with fail
  go_ret
  exact ⟨rfl, rfl⟩
set_option maxRecDepth 100000 in
set_option maxHeartbeats 400000 in
theorem from_past {w : World} {p : Nat} {F : Nat → Prop} {fr : Nat} {N : Int} {P : List Pl.Op} (h : PastAt w p F fr N P) :
    Calls Try.prog 14 #[.pointer (some ⟨p, 0, none⟩)] w fun e w' => e = .returned (.int .u64 (fr : Int)) ∧ w' = w := by
  have HN := Lib.hid (none_past h)
  obtain ⟨A, n, c, B, m, d, L, h⟩ := h
  obtain ⟨c0, c1, c2⟩ := h.cells
  clear h
  go_enter Try.func14, Try.ntmps14
  go_wp2_with fail
  refine HN.out.mono ?_
  rintro e w' ⟨rfl, rfl⟩
  go_wp2_with fail
  go_ret
  exact ⟨rfl, rfl⟩
set_option maxRecDepth 100000 in
set_option maxHeartbeats 400000 in
theorem from_non {w : World} {v : Value} (h : NonAt w v) :
    Calls Try.prog 14 #[v] w fun e w' => e = .returned (.int .u64 0) ∧ w' = w := by
  have HN := Lib.hid (none_non h)
  clear h
  go_enter Try.func14, Try.ntmps14
  go_wp2_with fail
  refine HN.out.mono ?_
  rintro e w' ⟨rfl, rfl⟩
  go_wp2_with fail
  go_ret
  exact ⟨rfl, rfl⟩
theorem wrap_u64 {a : Int} (h1 : 0 ≤ a) (h2 : a ≤ 18446744073709551615) : IntKind.u64.wrap a = a := by rw [IntKind.wrap_u64]; omega
set_option maxRecDepth 100000 in
set_option maxHeartbeats 400000 in
theorem now_past {w : World} {p : Nat} {F : Nat → Prop} {fr : Nat} {N : Int} {P : List Pl.Op} (h : PastAt w p F fr N P) :
    Calls Try.prog 8 #[.pointer (some ⟨p, 0, none⟩)] w fun e w' => e = .returned (.int .u64 ((fr + P.length : Nat) : Int)) ∧ w' = w := by
  have HF := Lib.hid (from_past h)
  have HL := Lib.hid (len_past h)
  obtain ⟨k, hk⟩ : ∃ k, k = P.length := ⟨_, rfl⟩
  have hr := h.fine.rev
  rw [← hk] at HL hr ⊢
  clear h hk
  have HR := Lib.hid (show Value.int .u64 ((fr : Int) + (k : Int)) = .int .u64 ((fr + k : Nat) : Int) by rw [Int.natCast_add])
  go_enter Try.func8, Try.ntmps8
  go_wp2_with fail
  refine HF.out.mono ?_
  rintro e w' ⟨rfl, rfl⟩
  go_wp2_with fail
  refine HL.out.mono ?_
  rintro e w' ⟨rfl, rfl⟩
  go_wp2_with fail
  go_ret
  refine ⟨?_, rfl⟩
  rw [← HR.out]
  first | rfl | (congr 2; omega)
set_option maxRecDepth 100000 in
set_option maxHeartbeats 400000 in
theorem now_non {w : World} {v : Value} (h : NonAt w v) :
    Calls Try.prog 8 #[v] w fun e w' => e = .returned (.int .u64 0) ∧ w' = w := by
  have HF := Lib.hid (from_non h)
  have HL := Lib.hid (len_non h)
  clear h
  go_enter Try.func8, Try.ntmps8
  go_wp2_with fail
  refine HF.out.mono ?_
  rintro e w' ⟨rfl, rfl⟩
  go_wp2_with fail
  refine HL.out.mono ?_
  rintro e w' ⟨rfl, rfl⟩
  go_wp2_with fail
  go_ret
  exact ⟨rfl, rfl⟩
end Go.Proofs.Ytkgehgedbgogbaa
