/-
  Contracts of piece's closures in Insert and Delete, of Insert and of Delete. Conditions: the table is one, or none; the buffers have at most 2^30 code points.
-/
import Derived.Test.YtogmddneimhpeaaPceG
namespace Go.Proofs.Ytogmddneimhpeaa
open Go.RowKit
open Pl (Pc Plc Tab)

theorem len_lay (out : List Pc) (p : Pc) : (Pl.lay out p).length ≤ out.length + 1 := by
  unfold Pl.lay
  split
  · rw [List.length_set]; omega
  · simp
theorem len_lays : ∀ (acc out : List Pc), (acc.foldl Pl.lay out).length ≤ out.length + acc.length
  | [], out => by simp
  | p :: acc, out => by
    have h1 := len_lays acc (Pl.lay out p)
    have h2 := len_lay out p
    simp only [List.foldl_cons, List.length_cons]
    omega
theorem len_clip (ps : List Pc) : ∀ (f u : Int), (Pl.clip f u ps).length ≤ ps.length := by
  induction ps with
  | nil => intro f u; simp [Pl.clip]
  | cons y l ih =>
    intro f u
    have h1 : (Pl.clip1 f u y).length ≤ 1 := by unfold Pl.clip1; split <;> simp
    have := ih (f - y.len) (u - y.len)
    rw [Pl.clip, List.length_append, List.length_cons]; omega
/-- what the closure that joins has laid of acc -/
def JF (base N : Nat) (G : Nat → Prop) (acc : List Pc) (w : World) : Prop := JL base N G (acc.foldl Pl.lay []) w
theorem jf_keeps (base N : Nat) : Keeps base (JF base N) := ⟨fun _ _ _ _ h hb => JL.grow h hb, fun _ _ _ h => JL.lt h⟩
theorem jf_lay {base N : Nat} {G : Nat → Prop} {acc : List Pc} {x : Pc} {w : World} (h : JF base N G acc w) (hx : x.at_ + x.len ≤ 1073741824) (hl : acc.length ≤ 8589934592) (hb : base ≤ w.heap.size) :
    Calls Try.prog 61 #[aggP x, .pointer (some ⟨N, 0, none⟩)] w (Left (JF base N) G (acc ++ [x]) w) :=
  (lay_any base N G (acc.foldl Pl.lay []) x w h hx (by have := len_lays acc []; simp at this; omega) hb).mono fun e w' ⟨h1, h2, h3⟩ =>
    ⟨h1, h3, More G w w', by unfold JF; rw [List.foldl_append]; exact h2, fun b (hb : More G w w' b) => hb.elim Or.inl (fun h => Or.inr h.1)⟩
theorem part_lay {w : World} {F : Nat → Prop} {p : Nat} {t : Tab} {m : Nat} (h : Tb w F p t m) (f0 u0 : Int) (hf0 : 0 ≤ f0 ∧ f0 ≤ 1073741824) (hu0 : 0 ≤ u0 ∧ u0 ≤ 1073741824) (base N : Nat) (G0 : Nat → Prop) (acc : List Pc)
    (hF : ∀ b, F b → b < base) (hbase : base ≤ w.heap.size) (hJ : JF base N G0 acc w) (hacc : acc.length ≤ 4294967296) :
    Calls Try.prog 46 #[.pointer (some ⟨p, 0, none⟩), .int .i64 f0, .int .i64 u0, .func (.func 61) #[] #[.pointer (some ⟨N, 0, none⟩)]] w (Left (JF base N) G0 (acc ++ Pl.clip f0 u0 (Pl.group t.L)) w) := by
  refine part_any h f0 u0 hf0 hu0 61 #[.pointer (some ⟨N, 0, none⟩)] base (JF base N) G0 acc callLay hF hbase hJ (jf_keeps base N) ?_
  intro G acc2 x w1 hJ1 hb1 hx1 hx2 hl
  have hl : acc2.length ≤ (Pl.group t.L).length := by
    obtain ⟨r, hr⟩ := hl
    have h1 := len_clip (Pl.group t.L) f0 u0
    rw [hr, List.length_append, List.length_append] at h1
    omega
  have hlen := h.ok.len
  have hps := Pl.group_len t.L
  have hm := h.le
  have hbuf : (t.buf x.s).length ≤ 1073741824 := by have := h.ok.2.2; unfold Tab.buf; split <;> omega
  have := jf_lay (x := x) hJ1 (by omega) (by rw [List.length_append]; omega) (Nat.le_trans hbase hb1.size)
  rw [List.append_assoc] at this
  exact this

set_option maxRecDepth 100000 in
set_option maxHeartbeats 1000000 in
theorem insClos {w : World} {F : Nat → Prop} {p : Nat} {t : Tab} {m : Nat} (h : Tb w F p t m) (base N bt bp bc k : Nat) (G : Nat → Prop) (x : Pc) (hF : ∀ b, F b → b < base) (hbase : base ≤ w.heap.size) (hJ : JL base N G [] w) (hk : k ≤ t.L.length) (hx : x.at_ + x.len ≤ 1073741824)
    (h1 : w.heap[bt]? = some (.cells #[.pointer (some ⟨p, 0, none⟩)] 25 (0, 0))) (h2 : w.heap[bp]? = some (.cells #[.int .i64 (k : Int)] 3 (0, 0))) (h3 : w.heap[bc]? = some (.cells #[.bool x.s, .int .i64 (x.at_ : Int), .int .i64 (x.len : Int)] 59 (0, 0)))
    (b1 : bt < base) (b2 : bp < base) (b3 : bc < base) :
    Calls Try.prog 45 #[.func (.func 61) #[] #[.pointer (some ⟨N, 0, none⟩)], .pointer (some ⟨bt, 0, none⟩), .pointer (some ⟨bp, 0, none⟩), .pointer (some ⟨bc, 0, none⟩)] w
      (Left (JF base N) G ((Pl.clip 0 (k : Int) (Pl.group t.L) ++ [x]) ++ Pl.clip (k : Int) (t.L.length : Int) (Pl.group t.L)) w) := by
  have hlen := h.ok.len
  have hm := h.le
  have hps := Pl.group_len t.L
  have c1 := cell0 h1
  have c2 := cell0 h2
  have HP1 := Lib.hid (part_lay h 0 (k : Int) (by omega) (by omega) base N G [] hF hbase hJ (by simp))
  rw [List.nil_append] at HP1
  have HTB := Lib.hid (fun w2 (hb : Below base w w2) => h.below hb hF)
  have HBX := Lib.hid (And.intro h1 (And.intro h2 (And.intro h3 (And.intro b1 (And.intro b2 b3)))))
  have HJB := Lib.hid (JL.lt hJ)
  obtain ⟨C1, hC1⟩ : ∃ C, C = Pl.clip 0 (k : Int) (Pl.group t.L) := ⟨_, rfl⟩
  have hC1l : C1.length ≤ 1073741824 := by rw [hC1]; have := len_clip (Pl.group t.L) 0 (k : Int); omega
  rw [← hC1] at HP1 ⊢
  have HLY := Lib.hid (fun G2 w2 (hj : JF base N G2 C1 w2) (hb : base ≤ w2.heap.size) => jf_lay (x := x) hj hx (by omega) hb)
  have HP2 := Lib.hid (fun w2 (hb : Below base w w2) G2 (hj : JF base N G2 (C1 ++ [x]) w2) => part_lay (h.below hb hF) (k : Int) (t.L.length : Int) (by omega) (by omega) base N G2 (C1 ++ [x]) hF (Nat.le_trans hbase hb.size) hj (by simp; omega))
  have HL := Lib.hid (fun w2 (hb : Below base w w2) => len_tb (h.below hb hF))
  obtain ⟨K, hK⟩ : ∃ K, K = t.L.length := ⟨_, rfl⟩
  rw [← hK] at HP2 HL hk hlen ⊢
  clear hC1 h h1 h2 h3 hJ hF hK hps
  go_enter Try.func45, Try.ntmps45
  go_wp2_with fail
  refine HP1.out.mono ?_
  rintro e w2 ⟨rfl, ht2, G2, hJ2, hG2⟩
  have hb2 : Below base w w2 := ht2.new hbase (fun b hb => (HJB.out b hb).1)
  have HB2 := Lib.hid (And.intro hb2 (And.intro ht2 hG2))
  have n3 := below_old hb2 HBX.out.2.2.1 HBX.out.2.2.2.2.2
  have d0 := cell0 n3
  have d1 := cell1 n3
  have d2 := cell2 n3
  have HC := Lib.hid (HLY.out G2 w2 hJ2 (Nat.le_trans hbase hb2.size))
  rw [aggP_eq] at HC
  clear hb2 ht2 hG2 hJ2 n3 HP1 HLY c1 c2
  go_wp2_with fail
  refine HC.out.mono ?_
  rintro e w3 ⟨rfl, ht3, G3, hJ3, hG3⟩
  have hjl : ∀ b, G2 b → base ≤ b := fun b hb => (HB2.out.2.2 b hb).elim (fun h => (HJB.out b h).1) (fun h => Nat.le_trans hbase h)
  have hb3 : Below base w w3 := HB2.out.1.trans (ht3.new (Nat.le_trans hbase HB2.out.1.size) hjl)
  have hjl3 : ∀ b, G3 b → G b ∨ w.heap.size ≤ b := fun b hb => (hG3 b hb).elim (fun h => HB2.out.2.2 b h) (fun h => Or.inr (Nat.le_trans HB2.out.1.size h))
  have ht03 : Tn G w w3 := HB2.out.2.1.trans ht3 (fun b h1 h2 => (HB2.out.2.2 b h2).elim id (fun h => by omega))
  have HB3 := Lib.hid (And.intro hb3 (And.intro ht03 hjl3))
  have e1 := cell0 (below_old hb3 HBX.out.1 HBX.out.2.2.2.1)
  have e2 := cell0 (below_old hb3 HBX.out.2.1 HBX.out.2.2.2.2.1)
  have z3 := hb3.size
  have HL3 := Lib.hid (HL.out w3.drew hb3.drew)
  have HP3 := Lib.hid (fun wL (hb : Below w3.drew.heap.size w3.drew wL) => HP2.out wL ((hb3.drew).trans (hb.mono (Nat.le_trans hbase z3))) G3 (JL.grow hJ3 (below_drew hb)))
  have HS3 := Lib.hid (fun wL (hb : Below w3.drew.heap.size w3.drew wL) => And.intro ((hb.cell (p := ⟨bt, 0, none⟩) (Nat.lt_of_lt_of_le b1 (Nat.le_trans hbase z3))).trans e1) ((hb.cell (p := ⟨bp, 0, none⟩) (Nat.lt_of_lt_of_le b2 (Nat.le_trans hbase z3))).trans e2))
  have HS4 := Lib.hid (fun wL wP (hb : Below w3.drew.heap.size w3.drew wL) (ht : Tn G3 wL wP) => (And.intro ((ht.new (B := base) (Nat.le_trans hbase (Nat.le_trans z3 hb.size)) (fun b hb => (hjl3 b hb).elim (fun h => (HJB.out b h).1) (fun h => Nat.le_trans hbase h))).cell (p := ⟨bt, 0, none⟩) b1) ((ht.new (B := base) (Nat.le_trans hbase (Nat.le_trans z3 hb.size)) (fun b hb => (hjl3 b hb).elim (fun h => (HJB.out b h).1) (fun h => Nat.le_trans hbase h))).cell (p := ⟨bp, 0, none⟩) b2)))
  clear d0 d1 d2 HC hb3 hjl hjl3 ht03 ht3 hG3 hJ3 z3 HP2 HL
  go_wp2_with fail
  go_region_held3 (fun w' => w'.cell? ⟨bt, 0, none⟩ = some (.pointer (some ⟨p, 0, none⟩)) ∧ w'.cell? ⟨bp, 0, none⟩ = some (.int .i64 (k : Int)))
    (first | go_keep | (go_split_ands; exact HS3.out _ hbL) | (go_split_ands; exact ⟨(HS4.out _ _ hbL htP).1.trans (HS3.out _ hbL).1, (HS4.out _ _ hbL htP).2.trans (HS3.out _ hbL).2⟩))
    (first | (go_at_call 24; refine HL3.out.mono ?_; rintro e wL ⟨rfl, hbL⟩) | (go_at_call 46; refine (HP3.out _ hbL).mono ?_; rintro e wP ⟨rfl, htP, GP, hJP, hGP⟩))
  all_goals
    refine ⟨rfl, _, results_none (by kernel_rfl) _ _ _, rfl, ?_⟩
    obtain ⟨hb3, ht03, hjl3⟩ := HB3.out
    have z3 : w.heap.size ≤ wL.heap.size := Nat.le_trans hb3.size hbL.size
    refine ⟨(ht03.trans (Tn.of G (below_drew hbL)) (fun b h1 h2 => h2)).trans htP (fun b h1 h2 => (hjl3 b h2).elim id (fun h => by omega)), GP, hJP, fun b hb => ?_⟩
    rcases hGP b hb with h | h
    · exact hjl3 b h
    · exact Or.inr (by omega)

set_option maxRecDepth 100000 in
set_option maxHeartbeats 1000000 in
theorem delClos {w : World} {F : Nat → Prop} {p : Nat} {t : Tab} {m : Nat} (h : Tb w F p t m) (base N bt bp bn k n : Nat) (G : Nat → Prop) (hF : ∀ b, F b → b < base) (hbase : base ≤ w.heap.size) (hJ : JL base N G [] w) (hk : k + n ≤ t.L.length)
    (h1 : w.heap[bt]? = some (.cells #[.pointer (some ⟨p, 0, none⟩)] 25 (0, 0))) (h2 : w.heap[bp]? = some (.cells #[.int .i64 (k : Int)] 3 (0, 0))) (h3 : w.heap[bn]? = some (.cells #[.int .i64 (n : Int)] 3 (0, 0)))
    (b1 : bt < base) (b2 : bp < base) (b3 : bn < base) :
    Calls Try.prog 47 #[.func (.func 61) #[] #[.pointer (some ⟨N, 0, none⟩)], .pointer (some ⟨bt, 0, none⟩), .pointer (some ⟨bp, 0, none⟩), .pointer (some ⟨bn, 0, none⟩)] w
      (Left (JF base N) G (Pl.clip 0 (k : Int) (Pl.group t.L) ++ Pl.clip ((k + n : Nat) : Int) (t.L.length : Int) (Pl.group t.L)) w) := by
  have hlen := h.ok.len
  have hm := h.le
  have hps := Pl.group_len t.L
  have c1 := cell0 h1
  have c2 := cell0 h2
  have HP1 := Lib.hid (part_lay h 0 (k : Int) (by omega) (by omega) base N G [] hF hbase hJ (by simp))
  rw [List.nil_append] at HP1
  have HBX := Lib.hid (And.intro h1 (And.intro h2 (And.intro h3 (And.intro b1 (And.intro b2 b3)))))
  have HJB := Lib.hid (JL.lt hJ)
  obtain ⟨C1, hC1⟩ : ∃ C, C = Pl.clip 0 (k : Int) (Pl.group t.L) := ⟨_, rfl⟩
  have hC1l : C1.length ≤ 1073741824 := by rw [hC1]; have := len_clip (Pl.group t.L) 0 (k : Int); omega
  rw [← hC1] at HP1 ⊢
  have HP2 := Lib.hid (fun w2 (hb : Below base w w2) G2 (hj : JF base N G2 C1 w2) => part_lay (h.below hb hF) ((k + n : Nat) : Int) (t.L.length : Int) (by omega) (by omega) base N G2 C1 hF (Nat.le_trans hbase hb.size) hj (by omega))
  have HL := Lib.hid (fun w2 (hb : Below base w w2) => len_tb (h.below hb hF))
  obtain ⟨K, hK⟩ : ∃ K, K = t.L.length := ⟨_, rfl⟩
  rw [← hK] at HP2 HL hk hlen ⊢
  have hkb : k ≤ 1073741824 := by omega
  have hnb : n ≤ 1073741824 := by omega
  have hw : IntKind.i64.wrap ((k : Int) + (n : Int)) = (k : Int) + (n : Int) := by simp [IntKind.wrap, IntKind.bits, IntKind.signed]; omega
  rw [Int.natCast_add] at HP2
  clear hC1 h h1 h2 h3 hJ hF hK hps
  go_enter Try.func47, Try.ntmps47
  go_wp2_with fail
  refine HP1.out.mono ?_
  rintro e w3 ⟨rfl, ht3, G3, hJ3, hG3⟩
  have hb3 : Below base w w3 := ht3.new hbase (fun b hb => (HJB.out b hb).1)
  have hjl3 := hG3
  have HB3 := Lib.hid (And.intro hb3 (And.intro ht3 hjl3))
  have e1 := cell0 (below_old hb3 HBX.out.1 HBX.out.2.2.2.1)
  have e2 := cell0 (below_old hb3 HBX.out.2.1 HBX.out.2.2.2.2.1)
  have e3 := cell0 (below_old hb3 HBX.out.2.2.1 HBX.out.2.2.2.2.2)
  have z3 := hb3.size
  have HL3 := Lib.hid (HL.out w3.drew hb3.drew)
  have HP3 := Lib.hid (fun wL (hb : Below w3.drew.heap.size w3.drew wL) => HP2.out wL ((hb3.drew).trans (hb.mono (Nat.le_trans hbase z3))) G3 (JL.grow hJ3 (below_drew hb)))
  have HS3 := Lib.hid (fun wL (hb : Below w3.drew.heap.size w3.drew wL) => And.intro ((hb.cell (p := ⟨bt, 0, none⟩) (Nat.lt_of_lt_of_le b1 (Nat.le_trans hbase z3))).trans e1) (And.intro ((hb.cell (p := ⟨bp, 0, none⟩) (Nat.lt_of_lt_of_le b2 (Nat.le_trans hbase z3))).trans e2) ((hb.cell (p := ⟨bn, 0, none⟩) (Nat.lt_of_lt_of_le b3 (Nat.le_trans hbase z3))).trans e3)))
  have HS4 := Lib.hid (fun wL wP (hb : Below w3.drew.heap.size w3.drew wL) (ht : Tn G3 wL wP) => ht.new (B := base) (Nat.le_trans hbase (Nat.le_trans z3 hb.size)) (fun b hb => (hjl3 b hb).elim (fun h => (HJB.out b h).1) (fun h => Nat.le_trans hbase h)))
  clear hb3 hjl3 ht3 hG3 hJ3 z3 HP2 HL HP1 c1 c2
  go_wp2_with fail
  go_region_held3 (fun w' => w'.cell? ⟨bt, 0, none⟩ = some (.pointer (some ⟨p, 0, none⟩)) ∧ w'.cell? ⟨bp, 0, none⟩ = some (.int .i64 (k : Int)) ∧ w'.cell? ⟨bn, 0, none⟩ = some (.int .i64 (n : Int)))
    (first | go_keep | (go_split_ands; exact HS3.out _ hbL) | (go_split_ands; exact ⟨((HS4.out _ _ hbL htP).cell (p := ⟨bt, 0, none⟩) b1).trans (HS3.out _ hbL).1, ((HS4.out _ _ hbL htP).cell (p := ⟨bp, 0, none⟩) b2).trans (HS3.out _ hbL).2.1, ((HS4.out _ _ hbL htP).cell (p := ⟨bn, 0, none⟩) b3).trans (HS3.out _ hbL).2.2⟩))
    (first | (go_at_call 24; refine HL3.out.mono ?_; rintro e wL ⟨rfl, hbL⟩) | (go_at_call 46; refine (HP3.out _ hbL).mono ?_; rintro e wP ⟨rfl, htP, GP, hJP, hGP⟩))
  all_goals
    refine ⟨rfl, _, results_none (by kernel_rfl) _ _ _, rfl, ?_⟩
    obtain ⟨hb3, ht03, hjl3⟩ := HB3.out
    have z3 : w.heap.size ≤ wL.heap.size := Nat.le_trans hb3.size hbL.size
    rw [Int.natCast_add]
    refine ⟨(ht03.trans (Tn.of G (below_drew hbL)) (fun b h1 h2 => h2)).trans htP (fun b h1 h2 => (hjl3 b h2).elim id (fun h => by omega)), GP, hJP, fun b hb => ?_⟩
    rcases hGP b hb with h | h
    · exact hjl3 b h
    · exact Or.inr (by omega)
end Go.Proofs.Ytogmddneimhpeaa
