/-
  PieceApart's closure (does) at a table and a call that is laid in memory; pointers told apart. Conditions: the table is one; the buffers have at most 2^30 code points.
-/
import Derived.Test.YtpebkjejjogkkaaPceS
import Derived.LaidEqlPtr
namespace Go.Proofs.Ytpebkjejjogkkaa.pieceApart
open Go.RowKit
open Pl (Pc Plc Tab)

def doT (what pos n : Int) (l : List Int) (t : Tab) : Tab := if what = 1 then Pl.delT t pos n else Pl.insT t pos l
def doE (what pos n : Int) (t : Tab) : Int := if what = 1 then Pl.reachE t.L.length pos n else Pl.reachE t.L.length pos 0
theorem infoTbl : (Try.prog.info? 69).map (fun i => decide (i.size = 0)) = some false := by kernel_rfl
theorem neq_eq (w : World) (p : Nat) : (binOp .neq 25 (.pointer (some ⟨p, 0, none⟩)) (.pointer (some ⟨p, 0, none⟩))).run Try.prog w = .ok (.bool false) w := by
  obtain ⟨j, hj, _⟩ := Option.map_eq_some_iff.1 infoTbl
  have h : ∀ d : Nat, (Op.equalIn (d + 1) 25 (.pointer (some ⟨p, 0, none⟩)) (.pointer (some ⟨p, 0, none⟩))).run Try.prog w = .ok true w := fun d => by
    simp [Op.equalIn, run_underlying Try.underlying25, sizeOf, typeInfo, hj, run_sameAddr_same]
  simp only [binOp]
  simp [Op.equal, Op.maxDepth, h 9999]
theorem neq_ne {w : World} {F G : Nat → Prop} {p q m k : Nat} {t u : Tab} (h1 : Tb w F p t m) (h2 : Tb w G q u k) (hne : p ≠ q) : (binOp .neq 25 (.pointer (some ⟨q, 0, none⟩)) (.pointer (some ⟨p, 0, none⟩))).run Try.prog w = .ok (.bool true) w := by
  obtain ⟨j, hj, hsz⟩ := Option.map_eq_some_iff.1 infoTbl
  have hsz : j.size ≠ 0 := of_decide_eq_false hsz
  obtain ⟨_, _, _, _, A1, c1, q1, A2, c2, A3, c3, r1, _⟩ := h1
  obtain ⟨_, _, _, _, B1, d1, q2, B2, d2, B3, d3, r2, _⟩ := h2
  have h : ∀ d : Nat, (Op.equalIn (d + 1) 25 (.pointer (some ⟨q, 0, none⟩)) (.pointer (some ⟨p, 0, none⟩))).run Try.prog w = .ok false w := fun d => by
    simp [Op.equalIn, run_underlying Try.underlying25, sizeOf, typeInfo, hj, hsz, run_sameAddr_other w (a := ⟨q, 0, none⟩) (b := ⟨p, 0, none⟩) (fun e => hne (by cases e; rfl)) r2 r1]
  simp only [binOp]
  simp [Op.equal, Op.maxDepth, h 9999]
theorem callDoes (args : Array Value) (w : World) : (callFunc 33 args).run Try.prog w = .ok (.enter 33 args) w := by simp [go_sem]

set_option maxRecDepth 100000 in
set_option maxHeartbeats 1000000 in
theorem does_any {w : World} {F : Nat → Prop} {p : Nat} {t : Tab} {m : Nat} (h : Tb w F p t m) (ab : Nat) (what pos n : Int) (hpos : Pl.I pos) (A : Option Addr) (k c : Nat) (l : List Int) (hl : Crs w w.heap.size A k c l) (hm : m + k ≤ 1073741824)
    (hq : w.heap[ab]? = some (.cells #[.int .i64 what, .int .i64 pos, .int .i64 n, .slice A k c] 31 (0, 0))) :
    Calls Try.prog 33 #[.pointer (some ⟨p, 0, none⟩), .pointer (some ⟨ab, 0, none⟩)] w fun e w' => e = .returned (.int .i64 (doE what pos n t)) ∧ Did w F p (doT what pos n l t) (m + k) w' := by
  have d0 := cell0 hq
  have d1 := cell1 hq
  have d2 := cell2 hq
  have d3 := cell3 hq
  by_cases k1 : what = 1
  · subst k1
    have HI := Lib.hid ((del_tb h pos n hpos).mono fun e w' ⟨he, hd⟩ => (⟨he, hd.mono (Nat.le_add_right m k) hm⟩ : _ ∧ Did w F p (Pl.delT t pos n) (m + k) w'))
    have hE : doE 1 pos n t = Pl.reachE t.L.length pos n := if_pos rfl
    have hT : doT 1 pos n l t = Pl.delT t pos n := if_pos rfl
    rw [hE, hT]
    obtain ⟨R, hR⟩ : ∃ R, R = Pl.reachE t.L.length pos n := ⟨_, rfl⟩
    rw [← hR] at HI ⊢
    clear h hl hm hq hE hT hR
    go_enter Try.func33, Try.ntmps33
    go_wp2_with fail
    refine HI.out.mono ?_
    rintro e w' ⟨rfl, hd⟩
    have HD := Lib.hid hd
    clear hd HI
    go_wp2_with fail
    go_ret
    exact ⟨rfl, HD.out⟩
  · have hk : (what == 1) = false := by rw [beq_eq_false_iff_ne]; exact k1
    have HI := Lib.hid (ins_tb h pos hpos A k c l hl hm)
    have hE : doE what pos n t = Pl.reachE t.L.length pos 0 := if_neg k1
    have hT : doT what pos n l t = Pl.insT t pos l := if_neg k1
    rw [hE, hT]
    obtain ⟨R, hR⟩ : ∃ R, R = Pl.reachE t.L.length pos 0 := ⟨_, rfl⟩
    rw [← hR] at HI ⊢
    clear h hl hm hq hE hT hR
    go_enter Try.func33, Try.ntmps33
    go_wp2_with fail
    refine HI.out.mono ?_
    rintro e w' ⟨rfl, hd⟩
    have HD := Lib.hid hd
    clear hd HI
    go_wp2_with fail
    go_ret
    exact ⟨rfl, HD.out⟩
end Go.Proofs.Ytpebkjejjogkkaa.pieceApart
