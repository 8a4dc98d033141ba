/-
  Contracts of piece's closures in Insert and Delete, of Insert and of Delete. Conditions: the table is one, or none; the buffers have at most 2^30 code points.
  Contracts of piece's Insert and Delete. Conditions: the table is one, or none; the buffers have at most 2^30 code points.
-/
import Derived.Test.YtldmnkakpmplnaaGreatUd33
set_option maxRecDepth 100000
namespace Go.Proofs.YtldmnkakpmplnaaGreat.Tbl
open Go.RowKit
open Tp (Pc Plc Tab)
theorem len_lay (out : List Pc) (p : Pc) : (Tp.lay out p).length ≤ out.length + 1 := by
  unfold Tp.lay
  split
  · rw [List.length_set]; omega
  · simp
theorem len_lays : ∀ (acc out : List Pc), (acc.foldl Tp.lay out).length ≤ out.length + acc.length
  | [], out => by simp
  | p :: acc, out => by
    have h1 := len_lays acc (Tp.lay out p)
    have h2 := len_lay out p
    simp only [List.foldl_cons, List.length_cons]
    omega
theorem len_clip (ps : List Pc) : ∀ (f u : Int), (Tp.clip f u ps).length ≤ ps.length := by
  induction ps with
  | nil => intro f u; simp [Tp.clip]
  | cons y l ih =>
    intro f u
    have h1 : (Tp.clip1 f u y).length ≤ 1 := by unfold Tp.clip1; split <;> simp
    have := ih (f - y.len) (u - y.len)
    rw [Tp.clip, List.length_append, List.length_cons]; omega
def JF (base N : Nat) (G : Nat → Prop) (acc : List Pc) (w : World) : Prop := JL base N G (acc.foldl Tp.lay []) w
theorem jf_keeps (base N : Nat) : Keeps base (JF base N) := ⟨fun _ _ _ _ h hb => JL.grow h hb, fun _ _ _ h => JL.lt h⟩
theorem jf_lay {base N : Nat} {G : Nat → Prop} {acc : List Pc} {x : Pc} {w : World} (h : JF base N G acc w) (hx : x.at_ + x.len ≤ 1073741824) (hl : acc.length ≤ 8589934592) (hb : base ≤ w.heap.size) :
    Calls Tryz.prog 252 #[aggP x, .pointer (some ⟨N, 0, none⟩)] w (Left (JF base N) G (acc ++ [x]) w) :=
  (lay_any base N G (acc.foldl Tp.lay []) x w h hx (by have := len_lays acc []; simp at this; omega) hb).mono fun e w' ⟨h1, h2, h3⟩ =>
    ⟨h1, h3, More G w w', by unfold JF; rw [List.foldl_append]; exact h2, fun b (hb : More G w w' b) => hb.elim Or.inl (fun h => Or.inr h.1)⟩
theorem part_lay {w : World} {F : Nat → Prop} {p : Nat} {t : Tab} {m : Nat} (h : Tb w F p t m) (f0 u0 : Int) (hf0 : 0 ≤ f0 ∧ f0 ≤ 1073741824) (hu0 : 0 ≤ u0 ∧ u0 ≤ 1073741824) (base N : Nat) (G0 : Nat → Prop) (acc : List Pc)
    (hF : ∀ b, F b → b < base) (hbase : base ≤ w.heap.size) (hJ : JF base N G0 acc w) (hacc : acc.length ≤ 4294967296) :
    Calls Tryz.prog 230 #[.pointer (some ⟨p, 0, none⟩), .int .i64 f0, .int .i64 u0, .func (.func 252) #[] #[.pointer (some ⟨N, 0, none⟩)]] w (Left (JF base N) G0 (acc ++ Tp.clip f0 u0 (Tp.group t.L)) w) := by
  refine part_any h f0 u0 hf0 hu0 252 #[.pointer (some ⟨N, 0, none⟩)] base (JF base N) G0 acc callLay hF hbase hJ (jf_keeps base N) ?_
  intro G acc2 x w1 hJ1 hb1 hx1 hx2 hl
  have hl : acc2.length ≤ (Tp.group t.L).length := by
    obtain ⟨r, hr⟩ := hl
    have h1 := len_clip (Tp.group t.L) f0 u0
    rw [hr, List.length_append, List.length_append] at h1
    omega
  have hlen := h.ok.len
  have hps := Tp.group_len t.L
  have hm := h.le
  have hbuf : (t.buf x.s).length ≤ 1073741824 := by have := h.ok.2.2; unfold Tab.buf; split <;> omega
  have := jf_lay (x := x) hJ1 (by omega) (by rw [List.length_append]; omega) (Nat.le_trans hbase hb1.size)
  rw [List.append_assoc] at this
  exact this
set_option maxHeartbeats 1000000 in
theorem insClos {w : World} {F : Nat → Prop} {p : Nat} {t : Tab} {m : Nat} (h : Tb w F p t m) (base N bt bp bc k : Nat) (G : Nat → Prop) (x : Pc) (hF : ∀ b, F b → b < base) (hbase : base ≤ w.heap.size) (hJ : JL base N G [] w) (hk : k ≤ t.L.length) (hx : x.at_ + x.len ≤ 1073741824)
    (h1 : w.heap[bt]? = some (.cells #[.pointer (some ⟨p, 0, none⟩)] 89 (0, 0))) (h2 : w.heap[bp]? = some (.cells #[.int .i64 (k : Int)] 3 (0, 0))) (h3 : w.heap[bc]? = some (.cells #[.bool x.s, .int .i64 (x.at_ : Int), .int .i64 (x.len : Int)] 193 (0, 0)))
    (b1 : bt < base) (b2 : bp < base) (b3 : bc < base) :
    Calls Tryz.prog 242 #[.func (.func 252) #[] #[.pointer (some ⟨N, 0, none⟩)], .pointer (some ⟨bt, 0, none⟩), .pointer (some ⟨bp, 0, none⟩), .pointer (some ⟨bc, 0, none⟩)] w
      (Left (JF base N) G ((Tp.clip 0 (k : Int) (Tp.group t.L) ++ [x]) ++ Tp.clip (k : Int) (t.L.length : Int) (Tp.group t.L)) w) := by
  have hlen := h.ok.len
  have hm := h.le
  have hps := Tp.group_len t.L
  have c1 := cell0 h1
  have c2 := cell0 h2
  have HP1 := Lib.hid (part_lay h 0 (k : Int) (by omega) (by omega) base N G [] hF hbase hJ (by simp))
  rw [List.nil_append] at HP1
  have HTB := Lib.hid (fun w2 (hb : Below base w w2) => h.below hb hF)
  have HBX := Lib.hid (And.intro h1 (And.intro h2 (And.intro h3 (And.intro b1 (And.intro b2 b3)))))
  have HJB := Lib.hid (JL.lt hJ)
  obtain ⟨C1, hC1⟩ : ∃ C, C = Tp.clip 0 (k : Int) (Tp.group t.L) := ⟨_, rfl⟩
  have hC1l : C1.length ≤ 1073741824 := by rw [hC1]; have := len_clip (Tp.group t.L) 0 (k : Int); omega
  rw [← hC1] at HP1 ⊢
  have HLY := Lib.hid (fun G2 w2 (hj : JF base N G2 C1 w2) (hb : base ≤ w2.heap.size) => jf_lay (x := x) hj hx (by omega) hb)
  have HP2 := Lib.hid (fun w2 (hb : Below base w w2) G2 (hj : JF base N G2 (C1 ++ [x]) w2) => part_lay (h.below hb hF) (k : Int) (t.L.length : Int) (by omega) (by omega) base N G2 (C1 ++ [x]) hF (Nat.le_trans hbase hb.size) hj (by simp; omega))
  have HL := Lib.hid (fun w2 (hb : Below base w w2) => len_tb (h.below hb hF))
  obtain ⟨K, hK⟩ : ∃ K, K = t.L.length := ⟨_, rfl⟩
  rw [← hK] at HP2 HL hk hlen ⊢
  clear hC1 h h1 h2 h3 hJ hF hK hps
  go_enter Tryz.func242, Tryz.ntmps242
  go_wp2_with fail
  refine HP1.out.mono ?_
  rintro e w2 ⟨rfl, ht2, G2, hJ2, hG2⟩
  have hb2 : Below base w w2 := ht2.new hbase (fun b hb => (HJB.out b hb).1)
  have HB2 := Lib.hid (And.intro hb2 (And.intro ht2 hG2))
  have n3 := below_old hb2 HBX.out.2.2.1 HBX.out.2.2.2.2.2
  have d0 := cell0 n3
  have d1 := cell1 n3
  have d2 := cell2 n3
  have HC := Lib.hid (HLY.out G2 w2 hJ2 (Nat.le_trans hbase hb2.size))
  rw [aggP_eq] at HC
  clear hb2 ht2 hG2 hJ2 n3 HP1 HLY c1 c2
  go_wp2_with fail
  refine HC.out.mono ?_
  rintro e w3 ⟨rfl, ht3, G3, hJ3, hG3⟩
  have hjl : ∀ b, G2 b → base ≤ b := fun b hb => (HB2.out.2.2 b hb).elim (fun h => (HJB.out b h).1) (fun h => Nat.le_trans hbase h)
  have hb3 : Below base w w3 := HB2.out.1.trans (ht3.new (Nat.le_trans hbase HB2.out.1.size) hjl)
  have hjl3 : ∀ b, G3 b → G b ∨ w.heap.size ≤ b := fun b hb => (hG3 b hb).elim (fun h => HB2.out.2.2 b h) (fun h => Or.inr (Nat.le_trans HB2.out.1.size h))
  have ht03 : Tn G w w3 := HB2.out.2.1.trans ht3 (fun b h1 h2 => (HB2.out.2.2 b h2).elim id (fun h => by omega))
  have HB3 := Lib.hid (And.intro hb3 (And.intro ht03 hjl3))
  have e1 := cell0 (below_old hb3 HBX.out.1 HBX.out.2.2.2.1)
  have e2 := cell0 (below_old hb3 HBX.out.2.1 HBX.out.2.2.2.2.1)
  have z3 := hb3.size
  have HL3 := Lib.hid (HL.out w3.drew hb3.drew)
  have HP3 := Lib.hid (fun wL (hb : Below w3.drew.heap.size w3.drew wL) => HP2.out wL ((hb3.drew).trans (hb.mono (Nat.le_trans hbase z3))) G3 (JL.grow hJ3 (below_drew hb)))
  have HS3 := Lib.hid (fun wL (hb : Below w3.drew.heap.size w3.drew wL) => And.intro ((hb.cell (p := ⟨bt, 0, none⟩) (Nat.lt_of_lt_of_le b1 (Nat.le_trans hbase z3))).trans e1) ((hb.cell (p := ⟨bp, 0, none⟩) (Nat.lt_of_lt_of_le b2 (Nat.le_trans hbase z3))).trans e2))
  have HS4 := Lib.hid (fun wL wP (hb : Below w3.drew.heap.size w3.drew wL) (ht : Tn G3 wL wP) => (And.intro ((ht.new (B := base) (Nat.le_trans hbase (Nat.le_trans z3 hb.size)) (fun b hb => (hjl3 b hb).elim (fun h => (HJB.out b h).1) (fun h => Nat.le_trans hbase h))).cell (p := ⟨bt, 0, none⟩) b1) ((ht.new (B := base) (Nat.le_trans hbase (Nat.le_trans z3 hb.size)) (fun b hb => (hjl3 b hb).elim (fun h => (HJB.out b h).1) (fun h => Nat.le_trans hbase h))).cell (p := ⟨bp, 0, none⟩) b2)))
  clear d0 d1 d2 HC hb3 hjl hjl3 ht03 ht3 hG3 hJ3 z3 HP2 HL
  go_wp2_with fail
  go_region_held3 (fun w' => w'.cell? ⟨bt, 0, none⟩ = some (.pointer (some ⟨p, 0, none⟩)) ∧ w'.cell? ⟨bp, 0, none⟩ = some (.int .i64 (k : Int)))
    (first | go_keep | (go_split_ands; exact HS3.out _ hbL) | (go_split_ands; exact ⟨(HS4.out _ _ hbL htP).1.trans (HS3.out _ hbL).1, (HS4.out _ _ hbL htP).2.trans (HS3.out _ hbL).2⟩))
    (first | (go_at_call 89; refine HL3.out.mono ?_; rintro e wL ⟨rfl, hbL⟩) | (go_at_call 230; refine (HP3.out _ hbL).mono ?_; rintro e wP ⟨rfl, htP, GP, hJP, hGP⟩))
  all_goals
    refine ⟨rfl, _, results_none (by kernel_rfl) _ _ _, rfl, ?_⟩
    obtain ⟨hb3, ht03, hjl3⟩ := HB3.out
    have z3 : w.heap.size ≤ wL.heap.size := Nat.le_trans hb3.size hbL.size
    refine ⟨(ht03.trans (Tn.of G (below_drew hbL)) (fun b h1 h2 => h2)).trans htP (fun b h1 h2 => (hjl3 b h2).elim id (fun h => by omega)), GP, hJP, fun b hb => ?_⟩
    rcases hGP b hb with h | h
    · exact hjl3 b h
    · exact Or.inr (by omega)
set_option maxHeartbeats 1000000 in
theorem delClos {w : World} {F : Nat → Prop} {p : Nat} {t : Tab} {m : Nat} (h : Tb w F p t m) (base N bt bp bn k n : Nat) (G : Nat → Prop) (hF : ∀ b, F b → b < base) (hbase : base ≤ w.heap.size) (hJ : JL base N G [] w) (hk : k + n ≤ t.L.length)
    (h1 : w.heap[bt]? = some (.cells #[.pointer (some ⟨p, 0, none⟩)] 89 (0, 0))) (h2 : w.heap[bp]? = some (.cells #[.int .i64 (k : Int)] 3 (0, 0))) (h3 : w.heap[bn]? = some (.cells #[.int .i64 (n : Int)] 3 (0, 0)))
    (b1 : bt < base) (b2 : bp < base) (b3 : bn < base) :
    Calls Tryz.prog 243 #[.func (.func 252) #[] #[.pointer (some ⟨N, 0, none⟩)], .pointer (some ⟨bt, 0, none⟩), .pointer (some ⟨bp, 0, none⟩), .pointer (some ⟨bn, 0, none⟩)] w
      (Left (JF base N) G (Tp.clip 0 (k : Int) (Tp.group t.L) ++ Tp.clip ((k + n : Nat) : Int) (t.L.length : Int) (Tp.group t.L)) w) := by
  have hlen := h.ok.len
  have hm := h.le
  have hps := Tp.group_len t.L
  have c1 := cell0 h1
  have c2 := cell0 h2
  have HP1 := Lib.hid (part_lay h 0 (k : Int) (by omega) (by omega) base N G [] hF hbase hJ (by simp))
  rw [List.nil_append] at HP1
  have HBX := Lib.hid (And.intro h1 (And.intro h2 (And.intro h3 (And.intro b1 (And.intro b2 b3)))))
  have HJB := Lib.hid (JL.lt hJ)
  obtain ⟨C1, hC1⟩ : ∃ C, C = Tp.clip 0 (k : Int) (Tp.group t.L) := ⟨_, rfl⟩
  have hC1l : C1.length ≤ 1073741824 := by rw [hC1]; have := len_clip (Tp.group t.L) 0 (k : Int); omega
  rw [← hC1] at HP1 ⊢
  have HP2 := Lib.hid (fun w2 (hb : Below base w w2) G2 (hj : JF base N G2 C1 w2) => part_lay (h.below hb hF) ((k + n : Nat) : Int) (t.L.length : Int) (by omega) (by omega) base N G2 C1 hF (Nat.le_trans hbase hb.size) hj (by omega))
  have HL := Lib.hid (fun w2 (hb : Below base w w2) => len_tb (h.below hb hF))
  obtain ⟨K, hK⟩ : ∃ K, K = t.L.length := ⟨_, rfl⟩
  rw [← hK] at HP2 HL hk hlen ⊢
  have hkb : k ≤ 1073741824 := by omega
  have hnb : n ≤ 1073741824 := by omega
  have hw : IntKind.i64.wrap ((k : Int) + (n : Int)) = (k : Int) + (n : Int) := by simp [IntKind.wrap, IntKind.bits, IntKind.signed]; omega
  rw [Int.natCast_add] at HP2
  clear hC1 h h1 h2 h3 hJ hF hK hps
  go_enter Tryz.func243, Tryz.ntmps243
  go_wp2_with fail
  refine HP1.out.mono ?_
  rintro e w3 ⟨rfl, ht3, G3, hJ3, hG3⟩
  have hb3 : Below base w w3 := ht3.new hbase (fun b hb => (HJB.out b hb).1)
  have hjl3 := hG3
  have HB3 := Lib.hid (And.intro hb3 (And.intro ht3 hjl3))
  have e1 := cell0 (below_old hb3 HBX.out.1 HBX.out.2.2.2.1)
  have e2 := cell0 (below_old hb3 HBX.out.2.1 HBX.out.2.2.2.2.1)
  have e3 := cell0 (below_old hb3 HBX.out.2.2.1 HBX.out.2.2.2.2.2)
  have z3 := hb3.size
  have HL3 := Lib.hid (HL.out w3.drew hb3.drew)
  have HP3 := Lib.hid (fun wL (hb : Below w3.drew.heap.size w3.drew wL) => HP2.out wL ((hb3.drew).trans (hb.mono (Nat.le_trans hbase z3))) G3 (JL.grow hJ3 (below_drew hb)))
  have HS3 := Lib.hid (fun wL (hb : Below w3.drew.heap.size w3.drew wL) => And.intro ((hb.cell (p := ⟨bt, 0, none⟩) (Nat.lt_of_lt_of_le b1 (Nat.le_trans hbase z3))).trans e1) (And.intro ((hb.cell (p := ⟨bp, 0, none⟩) (Nat.lt_of_lt_of_le b2 (Nat.le_trans hbase z3))).trans e2) ((hb.cell (p := ⟨bn, 0, none⟩) (Nat.lt_of_lt_of_le b3 (Nat.le_trans hbase z3))).trans e3)))
  have HS4 := Lib.hid (fun wL wP (hb : Below w3.drew.heap.size w3.drew wL) (ht : Tn G3 wL wP) => ht.new (B := base) (Nat.le_trans hbase (Nat.le_trans z3 hb.size)) (fun b hb => (hjl3 b hb).elim (fun h => (HJB.out b h).1) (fun h => Nat.le_trans hbase h)))
  clear hb3 hjl3 ht3 hG3 hJ3 z3 HP2 HL HP1 c1 c2
  go_wp2_with fail
  go_region_held3 (fun w' => w'.cell? ⟨bt, 0, none⟩ = some (.pointer (some ⟨p, 0, none⟩)) ∧ w'.cell? ⟨bp, 0, none⟩ = some (.int .i64 (k : Int)) ∧ w'.cell? ⟨bn, 0, none⟩ = some (.int .i64 (n : Int)))
    (first | go_keep | (go_split_ands; exact HS3.out _ hbL) | (go_split_ands; exact ⟨((HS4.out _ _ hbL htP).cell (p := ⟨bt, 0, none⟩) b1).trans (HS3.out _ hbL).1, ((HS4.out _ _ hbL htP).cell (p := ⟨bp, 0, none⟩) b2).trans (HS3.out _ hbL).2.1, ((HS4.out _ _ hbL htP).cell (p := ⟨bn, 0, none⟩) b3).trans (HS3.out _ hbL).2.2⟩))
    (first | (go_at_call 89; refine HL3.out.mono ?_; rintro e wL ⟨rfl, hbL⟩) | (go_at_call 230; refine (HP3.out _ hbL).mono ?_; rintro e wP ⟨rfl, htP, GP, hJP, hGP⟩))
  all_goals
    refine ⟨rfl, _, results_none (by kernel_rfl) _ _ _, rfl, ?_⟩
    obtain ⟨hb3, ht03, hjl3⟩ := HB3.out
    have z3 : w.heap.size ≤ wL.heap.size := Nat.le_trans hb3.size hbL.size
    rw [Int.natCast_add]
    refine ⟨(ht03.trans (Tn.of G (below_drew hbL)) (fun b h1 h2 => h2)).trans htP (fun b h1 h2 => (hjl3 b h2).elim id (fun h => by omega)), GP, hJP, fun b hb => ?_⟩
    rcases hGP b hb with h | h
    · exact hjl3 b h
    · exact Or.inr (by omega)
end Go.Proofs.YtldmnkakpmplnaaGreat.Tbl
namespace Go.Proofs.YtldmnkakpmplnaaGreat.Tbl
open Go.RowKit
open Tp (Pc Plc Tab)
def Tp.insT (t : Tab) (pos : Int) (l : List Int) : Tab := if Tp.reachE t.L.length pos 0 = 0 then t.ins pos.toNat l else t
def Tp.delT (t : Tab) (pos n : Int) : Tab := if Tp.reachE t.L.length pos n = 0 then t.del pos.toNat n.toNat else t
theorem Tp.reach_ok {len : Nat} {pos n : Int} (h : Tp.reachE len pos n = 0) : 0 ≤ pos ∧ 0 ≤ n ∧ n ≤ (len : Int) - pos := by
  unfold Tp.reachE at h
  split at h
  · cases h
  · omega
theorem Tp.reach_cases (len : Nat) (pos n : Int) : Tp.reachE len pos n = 0 ∨ Tp.reachE len pos n = 30 := by
  unfold Tp.reachE; split <;> simp
theorem Tp.ins_nil (t : Tab) (k : Nat) : t.ins k [] = t := by
  show (⟨t.fst, t.snd ++ [], t.L.take k ++ Tp.places ⟨true, t.snd.length, 0⟩ ++ t.L.drop k⟩ : Tab) = t
  rw [List.append_nil, show Tp.places ⟨true, t.snd.length, 0⟩ = [] from rfl, List.append_nil, List.take_append_drop]
theorem Tp.del_zero (t : Tab) (k : Nat) : t.del k 0 = t := by
  show (⟨t.fst, t.snd, t.L.take k ++ t.L.drop (k + 0)⟩ : Tab) = t
  rw [Nat.add_zero, List.take_append_drop]
theorem Did.same {w w' : World} {F : Nat → Prop} {p : Nat} {t : Tab} {m k : Nat} (h : Tb w F p t m) (hb : Below w.heap.size w w') (hk : m ≤ k) (hk2 : k ≤ 1073741824) : Did w F p t k w' :=
  ⟨F, (h.then_ hb).mono hk hk2, Tn.of F hb, fun _ hb => Or.inl hb, fun _ hb => hb⟩
theorem Did.after {w w1 w2 : World} {F F1 : Nat → Prop} {p : Nat} {t : Tab} {m : Nat} (ht : Tn F w w1) (hF : ∀ b, F1 b → F b ∨ w.heap.size ≤ b) (hF2 : ∀ b, F b → F1 b) (h : Did w1 F1 p t m w2) : Did w F p t m w2 := by
  obtain ⟨F2, h1, h2, h3, h4⟩ := h
  have hz := ht.size
  refine ⟨F2, h1, ht.trans h2 (fun b hb h => (hF b h).elim id (fun h => by omega)), fun b hb => (h3 b hb).elim (fun h => hF b h) (fun h => Or.inr (by omega)), fun b hb => h4 b (hF2 b hb)⟩
theorem callIns (args : Array Value) (w : World) : (callFunc 242 args).run Tryz.prog w = .ok (.enter 242 args) w := by simp [go_sem]
theorem callDel (args : Array Value) (w : World) : (callFunc 243 args).run Tryz.prog w = .ok (.enter 243 args) w := by simp [go_sem]
theorem renew_ins {w : World} {F : Nat → Prop} {p : Nat} {t : Tab} {m : Nat} {l : List Int} {k n bt bp bc : Nat} (h : Tb w F p (t.grow l) (m + n)) (hok : t.Ok m) (hl : l.length = n) (hn : 1 ≤ n) (hk : k ≤ t.L.length)
    (h1 : w.heap[bt]? = some (.cells #[.pointer (some ⟨p, 0, none⟩)] 89 (0, 0))) (h2 : w.heap[bp]? = some (.cells #[.int .i64 (k : Int)] 3 (0, 0))) (h3 : w.heap[bc]? = some (.cells #[.bool true, .int .i64 ((t.snd.length : Nat) : Int), .int .i64 (n : Int)] 193 (0, 0))) :
    Calls Tryz.prog 241 #[.pointer (some ⟨p, 0, none⟩), .func (.func 242) #[] #[.pointer (some ⟨bt, 0, none⟩), .pointer (some ⟨bp, 0, none⟩), .pointer (some ⟨bc, 0, none⟩)]] w fun e w' => e = .returned (.tuple #[]) ∧ Did w F p (t.ins k l) (m + n) w' := by
  have hin := hok.ins k l hk
  rw [hl] at hin
  have hm := h.le
  have hs := hok.2.2
  refine renew_any h 242 #[.pointer (some ⟨bt, 0, none⟩), .pointer (some ⟨bp, 0, none⟩), .pointer (some ⟨bc, 0, none⟩)] (t.ins k l).L hin callIns ?_
  intro N G w1 hb hJ
  refine (insClos (h.then_ hb) w.heap.size N bt bp bc k G ⟨true, t.snd.length, n⟩ (fun b hb => h.lt b hb) hb.size hJ hk (by simp only; omega) (below_old hb h1 (lt_of_block h1)) (below_old hb h2 (lt_of_block h2)) (below_old hb h3 (lt_of_block h3)) (lt_of_block h1) (lt_of_block h2) (lt_of_block h3)).mono fun e w2 hL => ?_
  obtain ⟨e1, e2, G', hJ', hG'⟩ := hL
  refine ⟨e1, e2, G', ?_, hG'⟩
  unfold JF at hJ'
  have := Tp.ins_group t k l (by omega)
  rw [hl] at this
  rw [← this]
  exact hJ'
theorem renew_del {w : World} {F : Nat → Prop} {p : Nat} {t : Tab} {m k n bt bp bn : Nat} (h : Tb w F p t m) (hk : k + n ≤ t.L.length)
    (h1 : w.heap[bt]? = some (.cells #[.pointer (some ⟨p, 0, none⟩)] 89 (0, 0))) (h2 : w.heap[bp]? = some (.cells #[.int .i64 (k : Int)] 3 (0, 0))) (h3 : w.heap[bn]? = some (.cells #[.int .i64 (n : Int)] 3 (0, 0))) :
    Calls Tryz.prog 241 #[.pointer (some ⟨p, 0, none⟩), .func (.func 243) #[] #[.pointer (some ⟨bt, 0, none⟩), .pointer (some ⟨bp, 0, none⟩), .pointer (some ⟨bn, 0, none⟩)]] w fun e w' => e = .returned (.tuple #[]) ∧ Did w F p (t.del k n) m w' := by
  have hin := h.ok.del k n
  refine renew_any h 243 #[.pointer (some ⟨bt, 0, none⟩), .pointer (some ⟨bp, 0, none⟩), .pointer (some ⟨bn, 0, none⟩)] (t.del k n).L hin callDel ?_
  intro N G w1 hb hJ
  refine (delClos (h.then_ hb) w.heap.size N bt bp bn k n G (fun b hb => h.lt b hb) hb.size hJ hk (below_old hb h1 (lt_of_block h1)) (below_old hb h2 (lt_of_block h2)) (below_old hb h3 (lt_of_block h3)) (lt_of_block h1) (lt_of_block h2) (lt_of_block h3)).mono fun e w2 hL => ?_
  obtain ⟨e1, e2, G', hJ', hG'⟩ := hL
  refine ⟨e1, e2, G', ?_, hG'⟩
  unfold JF at hJ'
  rw [← Tp.del_group t k n]
  exact hJ'
set_option maxHeartbeats 1000000 in
theorem ins_tb {w : World} {F : Nat → Prop} {p : Nat} {t : Tab} {m : Nat} (h : Tb w F p t m) (pos : Int) (hpos : Tp.I pos) (A : Option Addr) (n c : Nat) (l : List Int) (hl : Crs w w.heap.size A n c l) (hm2 : m + n ≤ 1073741824) :
    Calls Tryz.prog 216 #[.pointer (some ⟨p, 0, none⟩), .int .i64 pos, .slice A n c] w fun e w' => e = .returned (.int .i64 (Tp.reachE t.L.length pos 0)) ∧ Did w F p (Tp.insT t pos l) (m + n) w' := by
  obtain ⟨W, hW⟩ : ∃ W, W = (w.alloc (.cells #[.pointer (some ⟨p, 0, none⟩)] 89)).alloc (.cells #[.int .i64 pos] 3) := ⟨_, rfl⟩
  have hb : Below w.heap.size w W := by rw [hW]; exact below_alloc (below_alloc (Below.refl _ w) _) _
  have hzW : W.heap.size = w.heap.size + 2 := by rw [hW]; simp
  have k1 : W.heap[w.heap.size]? = some (.cells #[.pointer (some ⟨p, 0, none⟩)] 89 (0, 0)) := by rw [hW, Below.heap_alloc _ _ _ (by simp)]; exact heap_alloc_new w _
  have k2 : W.heap[w.heap.size + 1]? = some (.cells #[.int .i64 pos] 3 (0, 0)) := by rw [hW]; exact heap_new (by simp)
  have hT := h.then_ hb
  have HR := Lib.hid (reach_tb hT pos 0 hpos)
  have HW := Lib.hid (And.intro hW (And.intro hb (And.intro hzW (And.intro k1 k2))))
  have HTB := Lib.hid h
  have HT := Lib.hid hT
  have HL := Lib.hid hl
  have hnl := hl.len
  have hlen := h.ok.len
  have hm := h.le
  obtain ⟨R, hR⟩ : ∃ R, R = Tp.reachE t.L.length pos 0 := ⟨_, rfl⟩
  rw [← hR] at HR ⊢
  have HRE := Lib.hid hR
  rcases Tp.reach_cases t.L.length pos 0 with h0 | h0
  · have hin : Tp.insT t pos l = t.ins pos.toNat l := by unfold Tp.insT; rw [if_pos h0]
    rw [hin]
    have hr := Tp.reach_ok h0
    rw [← hR] at h0
    subst h0
    obtain ⟨k, rfl⟩ : ∃ k : Nat, pos = (k : Int) := ⟨pos.toNat, by omega⟩
    have HK := Lib.hid (show k ≤ t.L.length by omega)
    rw [Int.toNat_natCast]
    clear hr hin hR hW hb hzW k1 k2 hT h hl hlen hpos
    by_cases hn0 : n = 0
    · subst hn0
      have HLN := Lib.hid (List.eq_nil_of_length_eq_zero hnl)
      clear hnl
      go_enter Tryz.func216, Tryz.ntmps216
      go_wp2_with fail
      rw [← HW.out.1]
      refine HR.out.mono ?_
      rintro e w2 ⟨rfl, hb2⟩
      have HD := Lib.hid (show Did w F p (t.ins k l) (m + 0) w2 by
        rw [HLN.out, Tp.ins_nil]
        exact Did.same HTB.out (below_then HW.out.2.1 hb2) (by omega) (by omega))
      clear hb2
      go_wp2_with fail
      go_ret
      exact ⟨rfl, HD.out⟩
    · have hn1 : ¬ ((n : Int) = 0) := by omega
      have HN := Lib.hid (And.intro hnl (show 1 ≤ n by omega))
      clear hnl hn0
      go_enter Tryz.func216, Tryz.ntmps216
      go_wp2_with fail
      rw [← HW.out.1]
      refine HR.out.mono ?_
      rintro e w2 ⟨rfl, hb2⟩
      have hb02 := below_then HW.out.2.1 hb2
      have HA := Lib.hid (add_tb (HT.out.then_ hb2) A n c l (HL.out.then_ hb02) hm2)
      rw [aggP_eq] at HA
      have q1 := below_old hb2 HW.out.2.2.2.1 (lt_of_block HW.out.2.2.2.1)
      have q2 := below_old hb2 HW.out.2.2.2.2 (lt_of_block HW.out.2.2.2.2)
      have d1 := cell0 q1
      have HQ := Lib.hid (And.intro q1 (And.intro q2 hb02))
      clear hb2 hb02 q1 q2 HR
      go_wp2_with fail
      refine HA.out.mono ?_
      rintro e w3 ⟨rfl, F3, hT3, ht3, hF3, hF3'⟩
      have hnF : ∀ b, w.heap.size ≤ b → ¬ F b := fun b hb h => by have := HTB.out.lt b h; omega
      have q1 := ht3.old HQ.out.1 (hnF _ (Nat.le_refl _))
      have q2 := ht3.old HQ.out.2.1 (hnF _ (by omega))
      obtain ⟨V, hV⟩ : ∃ V, V = w3.alloc (.cells #[.bool true, .int .i64 ((t.snd.length : Nat) : Int), .int .i64 (n : Int)] 193) := ⟨_, rfl⟩
      have hbV : Below w3.heap.size w3 V := by rw [hV]; exact (Below.refl _ _).alloc (Nat.le_refl _) _
      have hT4 := hT3.then_ hbV
      have HRN := Lib.hid (renew_ins hT4 HTB.out.ok HN.out.1 HN.out.2 HK.out (below_old hbV q1 (lt_of_block q1)) (below_old hbV q2 (lt_of_block q2)) (by rw [hV]; exact heap_alloc_new w3 _))
      have d2 : V.cell? ⟨w.heap.size, 0, none⟩ = some (.pointer (some ⟨p, 0, none⟩)) := cell0 (below_old hbV q1 (lt_of_block q1))
      have HV := Lib.hid hV
      have HTT := Lib.hid (show Tn F w V ∧ (∀ b, F3 b → F b ∨ w.heap.size ≤ b) ∧ ∀ b, F b → F3 b from
        ⟨((Tn.of F HQ.out.2.2).trans ht3 (fun b h1 h2 => h2)).trans (Tn.of F hbV) (fun b h1 h2 => h2), fun b hb => (hF3 b hb).elim Or.inl (fun h => Or.inr (by have := HQ.out.2.2.size; omega)), hF3'⟩)
      rw [hV] at d2
      clear hT3 ht3 hF3 hF3' hnF q1 q2 hV hbV hT4 HA d1
      go_wp2_with fail
      rw [← HV.out]
      refine HRN.out.mono ?_
      rintro e w5 ⟨rfl, hD5⟩
      have HD := Lib.hid (Did.after HTT.out.1 HTT.out.2.1 HTT.out.2.2 hD5)
      clear hD5 HRN
      go_wp2_with fail
      go_ret
      exact ⟨rfl, HD.out⟩
  · have hin : Tp.insT t pos l = t := by unfold Tp.insT; rw [if_neg (by rw [h0]; decide)]
    rw [hin]
    rw [← hR] at h0
    subst h0
    clear hin hR hW hb hzW k1 k2 hT h hl hlen hpos hnl
    go_enter Tryz.func216, Tryz.ntmps216
    go_wp2_with fail
    rw [← HW.out.1]
    refine HR.out.mono ?_
    rintro e w2 ⟨rfl, hb2⟩
    have HD := Lib.hid (Did.same HTB.out (below_then HW.out.2.1 hb2) (show m ≤ m + n by omega) hm2)
    clear hb2
    go_wp2_with fail
    go_ret
    exact ⟨rfl, HD.out⟩
end Go.Proofs.YtldmnkakpmplnaaGreat.Tbl
