/-
  Contracts of piece's Insert and Delete. Conditions: the table is one, or none; the buffers have at most 2^30 code points.
-/
import Derived.Test.YtogmddneimhpeaaPceH
namespace Go.Proofs.Ytogmddneimhpeaa
open Go.RowKit
open Pl (Pc Plc Tab)

/-- what Insert makes of a table -/
def Pl.insT (t : Tab) (pos : Int) (l : List Int) : Tab := if Pl.reachE t.L.length pos 0 = 0 then t.ins pos.toNat l else t
def Pl.delT (t : Tab) (pos n : Int) : Tab := if Pl.reachE t.L.length pos n = 0 then t.del pos.toNat n.toNat else t
theorem Pl.reach_ok {len : Nat} {pos n : Int} (h : Pl.reachE len pos n = 0) : 0 ≤ pos ∧ 0 ≤ n ∧ n ≤ (len : Int) - pos := by
  unfold Pl.reachE at h
  split at h
  · cases h
  · omega
theorem Pl.reach_cases (len : Nat) (pos n : Int) : Pl.reachE len pos n = 0 ∨ Pl.reachE len pos n = 30 := by
  unfold Pl.reachE; split <;> simp
theorem Pl.ins_nil (t : Tab) (k : Nat) : t.ins k [] = t := by
  show (⟨t.fst, t.snd ++ [], t.L.take k ++ Pl.places ⟨true, t.snd.length, 0⟩ ++ t.L.drop k⟩ : Tab) = t
  rw [List.append_nil, show Pl.places ⟨true, t.snd.length, 0⟩ = [] from rfl, List.append_nil, List.take_append_drop]
theorem Pl.del_zero (t : Tab) (k : Nat) : t.del k 0 = t := by
  show (⟨t.fst, t.snd, t.L.take k ++ t.L.drop (k + 0)⟩ : Tab) = t
  rw [Nat.add_zero, List.take_append_drop]
theorem Did.same {w w' : World} {F : Nat → Prop} {p : Nat} {t : Tab} {m k : Nat} (h : Tb w F p t m) (hb : Below w.heap.size w w') (hk : m ≤ k) (hk2 : k ≤ 1073741824) : Did w F p t k w' :=
  ⟨F, (h.then_ hb).mono hk hk2, Tn.of F hb, fun _ hb => Or.inl hb, fun _ hb => hb⟩
/-- Did behind memory that only grew, with memory that only grows behind it -/
theorem Did.after {w w1 w2 : World} {F F1 : Nat → Prop} {p : Nat} {t : Tab} {m : Nat} (ht : Tn F w w1) (hF : ∀ b, F1 b → F b ∨ w.heap.size ≤ b) (hF2 : ∀ b, F b → F1 b) (h : Did w1 F1 p t m w2) : Did w F p t m w2 := by
  obtain ⟨F2, h1, h2, h3, h4⟩ := h
  have hz := ht.size
  refine ⟨F2, h1, ht.trans h2 (fun b hb h => (hF b h).elim id (fun h => by omega)), fun b hb => (h3 b hb).elim (fun h => hF b h) (fun h => Or.inr (by omega)), fun b hb => h4 b (hF2 b hb)⟩
theorem callIns (args : Array Value) (w : World) : (callFunc 45 args).run Try.prog w = .ok (.enter 45 args) w := by simp [go_sem]
theorem callDel (args : Array Value) (w : World) : (callFunc 47 args).run Try.prog w = .ok (.enter 47 args) w := by simp [go_sem]
theorem renew_ins {w : World} {F : Nat → Prop} {p : Nat} {t : Tab} {m : Nat} {l : List Int} {k n bt bp bc : Nat} (h : Tb w F p (t.grow l) (m + n)) (hok : t.Ok m) (hl : l.length = n) (hn : 1 ≤ n) (hk : k ≤ t.L.length)
    (h1 : w.heap[bt]? = some (.cells #[.pointer (some ⟨p, 0, none⟩)] 25 (0, 0))) (h2 : w.heap[bp]? = some (.cells #[.int .i64 (k : Int)] 3 (0, 0))) (h3 : w.heap[bc]? = some (.cells #[.bool true, .int .i64 ((t.snd.length : Nat) : Int), .int .i64 (n : Int)] 59 (0, 0))) :
    Calls Try.prog 44 #[.pointer (some ⟨p, 0, none⟩), .func (.func 45) #[] #[.pointer (some ⟨bt, 0, none⟩), .pointer (some ⟨bp, 0, none⟩), .pointer (some ⟨bc, 0, none⟩)]] w fun e w' => e = .returned (.tuple #[]) ∧ Did w F p (t.ins k l) (m + n) w' := by
  have hin := hok.ins k l hk
  rw [hl] at hin
  have hm := h.le
  have hs := hok.2.2
  refine renew_any h 45 #[.pointer (some ⟨bt, 0, none⟩), .pointer (some ⟨bp, 0, none⟩), .pointer (some ⟨bc, 0, none⟩)] (t.ins k l).L hin callIns ?_
  intro N G w1 hb hJ
  refine (insClos (h.then_ hb) w.heap.size N bt bp bc k G ⟨true, t.snd.length, n⟩ (fun b hb => h.lt b hb) hb.size hJ hk (by simp only; omega) (below_old hb h1 (lt_of_block h1)) (below_old hb h2 (lt_of_block h2)) (below_old hb h3 (lt_of_block h3)) (lt_of_block h1) (lt_of_block h2) (lt_of_block h3)).mono fun e w2 hL => ?_
  obtain ⟨e1, e2, G', hJ', hG'⟩ := hL
  refine ⟨e1, e2, G', ?_, hG'⟩
  unfold JF at hJ'
  have := Pl.ins_group t k l (by omega)
  rw [hl] at this
  rw [← this]
  exact hJ'
theorem renew_del {w : World} {F : Nat → Prop} {p : Nat} {t : Tab} {m k n bt bp bn : Nat} (h : Tb w F p t m) (hk : k + n ≤ t.L.length)
    (h1 : w.heap[bt]? = some (.cells #[.pointer (some ⟨p, 0, none⟩)] 25 (0, 0))) (h2 : w.heap[bp]? = some (.cells #[.int .i64 (k : Int)] 3 (0, 0))) (h3 : w.heap[bn]? = some (.cells #[.int .i64 (n : Int)] 3 (0, 0))) :
    Calls Try.prog 44 #[.pointer (some ⟨p, 0, none⟩), .func (.func 47) #[] #[.pointer (some ⟨bt, 0, none⟩), .pointer (some ⟨bp, 0, none⟩), .pointer (some ⟨bn, 0, none⟩)]] w fun e w' => e = .returned (.tuple #[]) ∧ Did w F p (t.del k n) m w' := by
  have hin := h.ok.del k n
  refine renew_any h 47 #[.pointer (some ⟨bt, 0, none⟩), .pointer (some ⟨bp, 0, none⟩), .pointer (some ⟨bn, 0, none⟩)] (t.del k n).L hin callDel ?_
  intro N G w1 hb hJ
  refine (delClos (h.then_ hb) w.heap.size N bt bp bn k n G (fun b hb => h.lt b hb) hb.size hJ hk (below_old hb h1 (lt_of_block h1)) (below_old hb h2 (lt_of_block h2)) (below_old hb h3 (lt_of_block h3)) (lt_of_block h1) (lt_of_block h2) (lt_of_block h3)).mono fun e w2 hL => ?_
  obtain ⟨e1, e2, G', hJ', hG'⟩ := hL
  refine ⟨e1, e2, G', ?_, hG'⟩
  unfold JF at hJ'
  rw [← Pl.del_group t k n]
  exact hJ'

set_option maxRecDepth 100000 in
set_option maxHeartbeats 1000000 in
theorem ins_no {w : World} {P : Option Addr} (h : NoTb w P) (pos : Int) (A : Option Addr) (n c : Nat) :
    Calls Try.prog 13 #[.pointer P, .int .i64 pos, .slice A n c] w fun e w' => e = .returned (.int .i64 2) ∧ Below w.heap.size w w' := by
  obtain ⟨W, hW⟩ : ∃ W, W = (w.alloc (.cells #[.pointer P] 25)).alloc (.cells #[.int .i64 pos] 3) := ⟨_, rfl⟩
  have hb : Below w.heap.size w W := by rw [hW]; exact below_alloc (below_alloc (Below.refl _ w) _) _
  have hno : NoTb W P := by
    rcases h with h | ⟨p, a, c, d, e, h1⟩
    · exact Or.inl h
    · exact Or.inr ⟨p, a, c, d, e, below_old hb h1 (lt_of_block h1)⟩
  have HR := Lib.hid (reach_no pos 0 hno)
  have HW := Lib.hid (And.intro hW hb)
  clear h hno hW hb
  go_enter Try.func13, Try.ntmps13
  go_wp2_with fail
  rw [← HW.out.1]
  refine HR.out.mono ?_
  rintro e w' ⟨rfl, rfl⟩
  go_wp2_with fail
  go_ret
  exact ⟨rfl, HW.out.2⟩

set_option maxRecDepth 100000 in
set_option maxHeartbeats 1000000 in
theorem ins_tb {w : World} {F : Nat → Prop} {p : Nat} {t : Tab} {m : Nat} (h : Tb w F p t m) (pos : Int) (hpos : Pl.I pos) (A : Option Addr) (n c : Nat) (l : List Int) (hl : Crs w w.heap.size A n c l) (hm2 : m + n ≤ 1073741824) :
    Calls Try.prog 13 #[.pointer (some ⟨p, 0, none⟩), .int .i64 pos, .slice A n c] w fun e w' => e = .returned (.int .i64 (Pl.reachE t.L.length pos 0)) ∧ Did w F p (Pl.insT t pos l) (m + n) w' := by
  obtain ⟨W, hW⟩ : ∃ W, W = (w.alloc (.cells #[.pointer (some ⟨p, 0, none⟩)] 25)).alloc (.cells #[.int .i64 pos] 3) := ⟨_, rfl⟩
  have hb : Below w.heap.size w W := by rw [hW]; exact below_alloc (below_alloc (Below.refl _ w) _) _
  have hzW : W.heap.size = w.heap.size + 2 := by rw [hW]; simp
  have k1 : W.heap[w.heap.size]? = some (.cells #[.pointer (some ⟨p, 0, none⟩)] 25 (0, 0)) := by rw [hW, Below.heap_alloc _ _ _ (by simp)]; exact heap_alloc_new w _
  have k2 : W.heap[w.heap.size + 1]? = some (.cells #[.int .i64 pos] 3 (0, 0)) := by rw [hW]; exact heap_new (by simp)
  have hT := h.then_ hb
  have HR := Lib.hid (reach_tb hT pos 0 hpos)
  have HW := Lib.hid (And.intro hW (And.intro hb (And.intro hzW (And.intro k1 k2))))
  have HTB := Lib.hid h
  have HT := Lib.hid hT
  have HL := Lib.hid hl
  have hnl := hl.len
  have hlen := h.ok.len
  have hm := h.le
  obtain ⟨R, hR⟩ : ∃ R, R = Pl.reachE t.L.length pos 0 := ⟨_, rfl⟩
  rw [← hR] at HR ⊢
  have HRE := Lib.hid hR
  rcases Pl.reach_cases t.L.length pos 0 with h0 | h0
  · have hin : Pl.insT t pos l = t.ins pos.toNat l := by unfold Pl.insT; rw [if_pos h0]
    rw [hin]
    have hr := Pl.reach_ok h0
    rw [← hR] at h0
    subst h0
    obtain ⟨k, rfl⟩ : ∃ k : Nat, pos = (k : Int) := ⟨pos.toNat, by omega⟩
    have HK := Lib.hid (show k ≤ t.L.length by omega)
    rw [Int.toNat_natCast]
    clear hr hin hR hW hb hzW k1 k2 hT h hl hlen hpos
    by_cases hn0 : n = 0
    · subst hn0
      have HLN := Lib.hid (List.eq_nil_of_length_eq_zero hnl)
      clear hnl
      go_enter Try.func13, Try.ntmps13
      go_wp2_with fail
      rw [← HW.out.1]
      refine HR.out.mono ?_
      rintro e w2 ⟨rfl, hb2⟩
      have HD := Lib.hid (show Did w F p (t.ins k l) (m + 0) w2 by
        rw [HLN.out, Pl.ins_nil]
        exact Did.same HTB.out (below_then HW.out.2.1 hb2) (by omega) (by omega))
      clear hb2
      go_wp2_with fail
      go_ret
      exact ⟨rfl, HD.out⟩
    · have hn1 : ¬ ((n : Int) = 0) := by omega
      have HN := Lib.hid (And.intro hnl (show 1 ≤ n by omega))
      clear hnl hn0
      go_enter Try.func13, Try.ntmps13
      go_wp2_with fail
      rw [← HW.out.1]
      refine HR.out.mono ?_
      rintro e w2 ⟨rfl, hb2⟩
      have hb02 := below_then HW.out.2.1 hb2
      have HA := Lib.hid (add_tb (HT.out.then_ hb2) A n c l (HL.out.then_ hb02) hm2)
      rw [aggP_eq] at HA
      have q1 := below_old hb2 HW.out.2.2.2.1 (lt_of_block HW.out.2.2.2.1)
      have q2 := below_old hb2 HW.out.2.2.2.2 (lt_of_block HW.out.2.2.2.2)
      have d1 := cell0 q1
      have HQ := Lib.hid (And.intro q1 (And.intro q2 hb02))
      clear hb2 hb02 q1 q2 HR
      go_wp2_with fail
      refine HA.out.mono ?_
      rintro e w3 ⟨rfl, F3, hT3, ht3, hF3, hF3'⟩
      have hnF : ∀ b, w.heap.size ≤ b → ¬ F b := fun b hb h => by have := HTB.out.lt b h; omega
      have q1 := ht3.old HQ.out.1 (hnF _ (Nat.le_refl _))
      have q2 := ht3.old HQ.out.2.1 (hnF _ (by omega))
      obtain ⟨V, hV⟩ : ∃ V, V = w3.alloc (.cells #[.bool true, .int .i64 ((t.snd.length : Nat) : Int), .int .i64 (n : Int)] 59) := ⟨_, rfl⟩
      have hbV : Below w3.heap.size w3 V := by rw [hV]; exact (Below.refl _ _).alloc (Nat.le_refl _) _
      have hT4 := hT3.then_ hbV
      have HRN := Lib.hid (renew_ins hT4 HTB.out.ok HN.out.1 HN.out.2 HK.out (below_old hbV q1 (lt_of_block q1)) (below_old hbV q2 (lt_of_block q2)) (by rw [hV]; exact heap_alloc_new w3 _))
      have d2 : V.cell? ⟨w.heap.size, 0, none⟩ = some (.pointer (some ⟨p, 0, none⟩)) := cell0 (below_old hbV q1 (lt_of_block q1))
      have HV := Lib.hid hV
      have HTT := Lib.hid (show Tn F w V ∧ (∀ b, F3 b → F b ∨ w.heap.size ≤ b) ∧ ∀ b, F b → F3 b from
        ⟨((Tn.of F HQ.out.2.2).trans ht3 (fun b h1 h2 => h2)).trans (Tn.of F hbV) (fun b h1 h2 => h2), fun b hb => (hF3 b hb).elim Or.inl (fun h => Or.inr (by have := HQ.out.2.2.size; omega)), hF3'⟩)
      rw [hV] at d2
      clear hT3 ht3 hF3 hF3' hnF q1 q2 hV hbV hT4 HA d1
      go_wp2_with fail
      rw [← HV.out]
      refine HRN.out.mono ?_
      rintro e w5 ⟨rfl, hD5⟩
      have HD := Lib.hid (Did.after HTT.out.1 HTT.out.2.1 HTT.out.2.2 hD5)
      clear hD5 HRN
      go_wp2_with fail
      go_ret
      exact ⟨rfl, HD.out⟩
  · have hin : Pl.insT t pos l = t := by unfold Pl.insT; rw [if_neg (by rw [h0]; decide)]
    rw [hin]
    rw [← hR] at h0
    subst h0
    clear hin hR hW hb hzW k1 k2 hT h hl hlen hpos hnl
    go_enter Try.func13, Try.ntmps13
    go_wp2_with fail
    rw [← HW.out.1]
    refine HR.out.mono ?_
    rintro e w2 ⟨rfl, hb2⟩
    have HD := Lib.hid (Did.same HTB.out (below_then HW.out.2.1 hb2) (show m ≤ m + n by omega) hm2)
    clear hb2
    go_wp2_with fail
    go_ret
    exact ⟨rfl, HD.out⟩
end Go.Proofs.Ytogmddneimhpeaa
