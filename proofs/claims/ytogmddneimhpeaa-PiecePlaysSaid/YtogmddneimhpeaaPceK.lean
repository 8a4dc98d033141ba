/-
  Contracts of piece's Read, Text, Pieces, Flatten. Conditions: the table is one, or none; the buffers have at most 2^30 code points.
-/
import Derived.Test.YtogmddneimhpeaaPceJ
namespace Go.Proofs.Ytogmddneimhpeaa
open Go.RowKit
open Pl (Pc Plc Tab)

/-- what Read tells -/
def Pl.readT (t : Tab) (pos n : Int) : List Int := if Pl.reachE t.L.length pos n = 0 then (t.text.drop pos.toNat).take n.toNat else []
/-- what a Read leaves -/
def RetRead (w : World) (cs : List Int) (er : Int) (e : Ending) (w' : World) : Prop := ∃ A c, e = .returned (.tuple #[.slice A cs.length c, .int .i64 er]) ∧ OwnC w' w.heap.size (.slice A cs.length c) cs ∧ Below w.heap.size w w'

set_option maxRecDepth 100000 in
set_option maxHeartbeats 1000000 in
theorem read_no {w : World} {P : Option Addr} (h : NoTb w P) (pos n : Int) :
    Calls Try.prog 17 #[.pointer P, .int .i64 pos, .int .i64 n] w (RetRead w [] 2) := by
  obtain ⟨W, hW⟩ : ∃ W, W = w.alloc (.cells #[.pointer P] 25) := ⟨_, rfl⟩
  have hb : Below w.heap.size w W := by rw [hW]; exact below_alloc (Below.refl _ w) _
  have hno : NoTb W P := by
    rcases h with h | ⟨p, a, c, d, e, h1⟩
    · exact Or.inl h
    · exact Or.inr ⟨p, a, c, d, e, below_old hb h1 (lt_of_block h1)⟩
  have HR := Lib.hid (reach_no pos n hno)
  have HW := Lib.hid (And.intro hW hb)
  clear h hno hW hb
  go_enter Try.func17, Try.ntmps17
  go_wp2_with fail
  rw [← HW.out.1]
  refine HR.out.mono ?_
  rintro e w' ⟨rfl, rfl⟩
  go_wp2_with fail
  go_ret2
  exact ⟨none, 0, rfl, OwnC.nil_ _ _, HW.out.2⟩

set_option maxRecDepth 100000 in
set_option maxHeartbeats 1000000 in
theorem read_tb {w : World} {F : Nat → Prop} {p : Nat} {t : Tab} {m : Nat} (h : Tb w F p t m) (pos n : Int) (hpos : Pl.I pos) :
    Calls Try.prog 17 #[.pointer (some ⟨p, 0, none⟩), .int .i64 pos, .int .i64 n] w (RetRead w (Pl.readT t pos n) (Pl.reachE t.L.length pos n)) := by
  obtain ⟨W, hW⟩ : ∃ W, W = w.alloc (.cells #[.pointer (some ⟨p, 0, none⟩)] 25) := ⟨_, rfl⟩
  have hb : Below w.heap.size w W := by rw [hW]; exact below_alloc (Below.refl _ w) _
  have k1 : W.heap[w.heap.size]? = some (.cells #[.pointer (some ⟨p, 0, none⟩)] 25 (0, 0)) := by rw [hW]; exact heap_alloc_new w _
  have hT := h.then_ hb
  have HR := Lib.hid (reach_tb hT pos n hpos)
  have HW := Lib.hid (And.intro hW (And.intro hb k1))
  have HTB := Lib.hid h
  have HT := Lib.hid hT
  have hlen := h.ok.len
  have hm := h.le
  obtain ⟨R, hR⟩ : ∃ R, R = Pl.reachE t.L.length pos n := ⟨_, rfl⟩
  rw [← hR] at HR ⊢
  rcases Pl.reach_cases t.L.length pos n with h0 | h0
  · have hin : Pl.readT t pos n = (t.text.drop pos.toNat).take n.toNat := by unfold Pl.readT; rw [if_pos h0]
    rw [hin]
    have hr := Pl.reach_ok h0
    rw [← hR] at h0
    subst h0
    obtain ⟨k, rfl⟩ : ∃ k : Nat, pos = (k : Int) := ⟨pos.toNat, by omega⟩
    obtain ⟨n, rfl⟩ : ∃ k : Nat, n = (k : Int) := ⟨n.toNat, by omega⟩
    have hkn : k + n ≤ t.L.length := by omega
    have HK := Lib.hid hkn
    have hkb : k ≤ 1073741824 := by omega
    have hnb : n ≤ 1073741824 := by omega
    have hw : IntKind.i64.wrap ((k : Int) + (n : Int)) = (k : Int) + (n : Int) := by simp [IntKind.wrap, IntKind.bits, IntKind.signed]; omega
    rw [Int.toNat_natCast, Int.toNat_natCast]
    obtain ⟨X, hX⟩ : ∃ X, X = (t.text.drop k).take n := ⟨_, rfl⟩
    have HX := Lib.hid hX
    rw [← hX]
    clear hX
    obtain ⟨i0, hi, hz0, hz1, hz2⟩ := info_parts infoChar
    have HI := Lib.hid (And.intro hi (And.intro hz0 (And.intro hz1 (show i0.bytes * n ≤ 281474976710656 by rw [hz2]; omega))))
    clear hr hin hR hW hb k1 hT h hlen hpos hkn hi hz0 hz1 hz2
    go_enter Try.func17, Try.ntmps17
    go_wp2_with fail
    rw [← HW.out.1]
    refine HR.out.mono ?_
    rintro e w2 ⟨rfl, hb2⟩
    have HB2 := Lib.hid (below_then HW.out.2.1 hb2)
    have HQ := Lib.hid (below_old hb2 HW.out.2.2 (lt_of_block HW.out.2.2))
    have HT2 := Lib.hid (HT.out.then_ hb2)
    clear hb2 HR
    go_wp2_with (at_make; refine wpList_make_own w2 rfl (.const (.int .i64 0)) (.tmp 17) 22 rfl w2.heap.size 29 i0 _ 1 Try.underlying22 HI.out.1 HI.out.2.1 HI.out.2.2.1 .i64 .i64 _ n (by rfl) (by rfl) (by omega) HI.out.2.2.2 (by unfold maxLen; omega) (Nat.le_refl _) ?_)
    intro w3 ho3 hg3
    have hb3 : Below w2.heap.size w2 w3 := (Below.refl _ w2).grown hg3 (Nat.le_refl _) (fun k e => by cases e)
    obtain ⟨V, hV⟩ : ∃ V, V = w3.alloc (.cells #[.slice (some ⟨w2.heap.size, 0, none⟩) 0 n] 22) := ⟨_, rfl⟩
    have hbV : Below w2.heap.size w2 V := by rw [hV]; exact below_alloc hb3 _
    have hJ0 : JR t w2.heap.size w3.heap.size (fun b => b = w2.heap.size ∨ b = w3.heap.size) [] V := by
      have hz := hb3.size
      have hl := (World.ownsRow.lt ho3 w2.heap.size rfl).2
      have hzV : V.heap.size = w3.heap.size + 1 := by rw [hV]; simp
      refine ⟨some ⟨w2.heap.size, 0, none⟩, n, by rw [hV]; exact heap_alloc_new w3 _, ⟨by rw [hV]; exact World.ownsRow.alloc ho3 _, fun x hx => by cases hx⟩, fun g hg => ?_, ⟨Or.inr rfl, fun b hb => ?_⟩⟩
      · have e : g = w2.heap.size := by cases hg; rfl
        subst e
        exact ⟨Or.inl rfl, by omega⟩
      · rcases hb with rfl | rfl <;> omega
    have HC := Lib.hid (part_read (HT2.out.then_ hbV) k n HK.out w2.heap.size w3.heap.size w.heap.size _ (fun b hb => HT2.out.lt b hb) hbV.size hJ0 (below_old hbV HQ.out (lt_of_block HQ.out)) (lt_of_block HQ.out))
    rw [Int.natCast_add] at HC
    have d1 : V.cell? ⟨w.heap.size, 0, none⟩ = some (.pointer (some ⟨p, 0, none⟩)) := cell0 (below_old hbV HQ.out (lt_of_block HQ.out))
    rw [hV] at d1
    have HV := Lib.hid (And.intro hV (And.intro hbV hb3))
    clear ho3 hg3 hb3 hbV hJ0 hV
    go_wp2_with fail
    rw [← HV.out.1]
    refine HC.out.mono ?_
    rintro e w5 ⟨rfl, ht5, G5, hJ5, hG5⟩
    have hb5 : Below w2.heap.size w2 w5 := ht5.below HV.out.2.1 HV.out.2.1.size (fun b hb => by have := HV.out.2.2.size; rcases hb with rfl | rfl <;> omega)
    obtain ⟨A, c, j1, j2, j3, j4⟩ := hJ5
    have htx := Pl.text_clip HTB.out.ok k n
    rw [Int.natCast_add] at htx
    rw [htx, ← HX.out] at j1 j2
    have n0 := cell0 j1
    have HD := Lib.hid (show RetRead w X 0 (.returned (.tuple #[.slice A X.length c, .int .i64 0])) w5 from ⟨A, c, rfl, j2.lower HB2.out.size, below_then HB2.out hb5⟩)
    clear htx j1 j2 j3 j4 hG5 ht5 hb5 HC
    go_wp2_with fail
    go_ret2
    exact HD.out
  · have hin : Pl.readT t pos n = [] := by unfold Pl.readT; rw [if_neg (by rw [h0]; decide)]
    rw [hin]
    rw [← hR] at h0
    subst h0
    clear hin hR hW hb k1 hT h hlen hpos
    go_enter Try.func17, Try.ntmps17
    go_wp2_with fail
    rw [← HW.out.1]
    refine HR.out.mono ?_
    rintro e w2 ⟨rfl, hb2⟩
    have HB2 := Lib.hid (below_then HW.out.2.1 hb2)
    clear hb2
    go_wp2_with fail
    go_ret2
    exact ⟨none, 0, rfl, OwnC.nil_ _ _, HB2.out⟩

set_option maxRecDepth 100000 in
set_option maxHeartbeats 400000 in
theorem len_no {w : World} {P : Option Addr} (h : NoTb w P) : Calls Try.prog 24 #[.pointer P] w fun e w' => e = .returned (.int .i64 0) ∧ w = w' := by
  have HN := Lib.hid (none_no h)
  clear h
  go_enter Try.func24, Try.ntmps24
  go_wp2_with fail
  refine HN.out.mono ?_
  rintro e w' ⟨rfl, rfl⟩
  go_wp2_with fail
  go_ret
  exact ⟨rfl, rfl⟩
set_option maxRecDepth 100000 in
set_option maxHeartbeats 400000 in
theorem text_no {w : World} {P : Option Addr} (h : NoTb w P) : Calls Try.prog 25 #[.pointer P] w (RetC w []) := by
  have HL := Lib.hid (len_no h)
  have HR := Lib.hid (read_no h 0 0)
  clear h
  go_enter Try.func25, Try.ntmps25
  go_wp2_with fail
  refine HL.out.mono ?_
  rintro e w' ⟨rfl, rfl⟩
  go_wp2_with fail
  refine HR.out.mono ?_
  rintro e w2 ⟨A, c, rfl, hO, hb⟩
  have H := Lib.hid (And.intro hO hb)
  clear hO hb
  go_wp2_with fail
  go_ret
  exact ⟨A, c, rfl, H.out.1, H.out.2⟩
set_option maxRecDepth 100000 in
set_option maxHeartbeats 400000 in
theorem text_tb {w : World} {F : Nat → Prop} {p : Nat} {t : Tab} {m : Nat} (h : Tb w F p t m) : Calls Try.prog 25 #[.pointer (some ⟨p, 0, none⟩)] w (RetC w t.text) := by
  have HL := Lib.hid (len_tb h)
  have HR := Lib.hid (fun w2 (hb : Below w.heap.size w w2) => read_tb (h.then_ hb) 0 (t.L.length : Int) (Pl.I.mk (by omega)))
  have hre : Pl.reachE t.L.length 0 (t.L.length : Int) = 0 := by unfold Pl.reachE; rw [if_neg (by omega)]
  have htx : Pl.readT t 0 (t.L.length : Int) = t.text := by
    unfold Pl.readT
    rw [if_pos hre, Int.toNat_zero, List.drop_zero, Int.toNat_natCast, ← Pl.len_text, List.take_length]
  rw [hre, htx] at HR
  obtain ⟨K, hK⟩ : ∃ K, K = t.L.length := ⟨_, rfl⟩
  rw [← hK] at HL HR
  clear h hre htx hK
  go_enter Try.func25, Try.ntmps25
  go_wp2_with fail
  refine HL.out.mono ?_
  rintro e w2 ⟨rfl, hb2⟩
  have HR2 := Lib.hid (HR.out w2 hb2)
  have HB2 := Lib.hid hb2
  clear hb2 HL HR
  go_wp2_with fail
  refine HR2.out.mono ?_
  rintro e w3 ⟨A, c, rfl, hO, hb⟩
  have H := Lib.hid (And.intro (hO.lower HB2.out.size) (below_then HB2.out hb))
  clear hO hb
  go_wp2_with fail
  go_ret
  exact ⟨A, c, rfl, H.out.1, H.out.2⟩
set_option maxRecDepth 100000 in
set_option maxHeartbeats 400000 in
theorem pieces_no {w : World} {P : Option Addr} (h : NoTb w P) : Calls Try.prog 27 #[.pointer P] w (RetP w []) := by
  have HN := Lib.hid (none_no h)
  clear h
  go_enter Try.func27, Try.ntmps27
  go_wp2_with fail
  refine HN.out.mono ?_
  rintro e w' ⟨rfl, rfl⟩
  go_wp2_with fail
  go_ret
  exact ⟨none, 0, rfl, OwnR.nil_ _ _ _ _ _, Below.refl _ _⟩
set_option maxRecDepth 100000 in
set_option maxHeartbeats 400000 in
theorem pieces_tb {w : World} {F : Nat → Prop} {p : Nat} {t : Tab} {m : Nat} (h : Tb w F p t m) : Calls Try.prog 27 #[.pointer (some ⟨p, 0, none⟩)] w (RetP w (Pl.group t.L)) := by
  have HN := Lib.hid (none_tb h)
  have hlen := h.ok.len
  have hmm := h.le
  have hps := Pl.group_len t.L
  obtain ⟨hl, ho, hm, hp, A1, c1, q, A2, c2, A3, c3, h1, h2, h3, h4, h5, h6, h7, h8, h9, h10⟩ := h
  have d3 := cell3 h1
  have HC := Lib.hid (cloneP_any A3 (Pl.group t.L).length c3 (Pl.group t.L) w (OwnR.rws encP_len h5).2 (by omega))
  obtain ⟨k, hk⟩ : ∃ k, k = (Pl.group t.L).length := ⟨_, rfl⟩
  unfold RetP at HC ⊢
  rw [← hk] at d3 HC ⊢
  clear h1 h2 h3 h4 h5 h6 h7 h8 h9 h10 hl ho hp hk hps
  go_enter Try.func27, Try.ntmps27
  go_wp2_with fail
  refine HN.out.mono ?_
  rintro e w' ⟨rfl, rfl⟩
  go_wp2_with fail
  refine HC.out.mono ?_
  rintro e w2 ⟨A, c, rfl, hO, hb⟩
  have H := Lib.hid (And.intro hO hb)
  clear hO hb
  go_wp2_with fail
  go_ret
  exact ⟨A, c, rfl, H.out.1, H.out.2⟩
end Go.Proofs.Ytogmddneimhpeaa
