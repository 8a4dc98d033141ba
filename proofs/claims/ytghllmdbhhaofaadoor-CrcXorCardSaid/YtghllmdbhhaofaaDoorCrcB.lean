/-
  Contracts of crc.Sum (any parts; one part that is laid out at the call) and crc.lay: what each returns for every input; nothing that was there turned. Condition: the table stands in crc.steps.
-/
import Derived.Test.YtghllmdbhhaofaaDoorCrcA
import Derived.Test.YtghllmdbhhaofaaDoorBaseF
namespace Go.Proofs.YtghllmdbhhaofaaDoor
open Go.RowKit

/-- the slice value '.slice A n c' of slices reads as the rows ps, all of it below block B -/
def Parts (w : World) (B : Nat) (A : Option Addr) (n c : Nat) (ps : List (List Nat)) : Prop :=
  ps.length = n ∧ n ≤ c ∧ c ≤ maxLen ∧ (0 < n → ∃ g o, A = some ⟨g, o, none⟩ ∧ g < B ∧ ∀ i, i < n → ∃ A' m c', w.cell? ⟨g, o + i, none⟩ = some (.slice A' m c') ∧ Bys w B A' m c' (ps.getD i []))
section
variable {w w' : World} {B B' : Nat} {A : Option Addr} {n c : Nat} {ps : List (List Nat)}
theorem Parts.len (h : Parts w B A n c ps) : ps.length = n := h.1
theorem Parts.le (h : Parts w B A n c ps) : n ≤ c := h.2.1
theorem Parts.cap (h : Parts w B A n c ps) : c ≤ maxLen := h.2.2.1
theorem Parts.at_ (h : Parts w B A n c ps) {i : Nat} (hi : i < n) : ∃ g o, A = some ⟨g, o, none⟩ ∧ g < B ∧ ∀ i, i < n → ∃ A' m c', w.cell? ⟨g, o + i, none⟩ = some (.slice A' m c') ∧ Bys w B A' m c' (ps.getD i []) := h.2.2.2 (by omega)
theorem Parts.none_ (w : World) (B : Nat) : Parts w B none 0 0 [] := ⟨rfl, Nat.le_refl _, Nat.zero_le _, fun h => absurd h (by omega)⟩
theorem Parts.below (h : Parts w B A n c ps) (hb : Below B' w w') (hB : B ≤ B') : Parts w' B A n c ps :=
  ⟨h.1, h.2.1, h.2.2.1, fun hn => by
    obtain ⟨g, o, e, hg, hc⟩ := h.2.2.2 hn
    refine ⟨g, o, e, hg, fun i hi => ?_⟩
    obtain ⟨A', m, c', h1, h2⟩ := hc i hi
    exact ⟨A', m, c', (hb.cell (p := ⟨g, o + i, none⟩) (Nat.lt_of_lt_of_le hg hB)).trans h1, h2.below hb hB⟩⟩
theorem Parts.more (h : Parts w B A n c ps) (hB : B ≤ B') : Parts w B' A n c ps :=
  ⟨h.1, h.2.1, h.2.2.1, fun hn => by
    obtain ⟨g, o, e, hg, hc⟩ := h.2.2.2 hn
    refine ⟨g, o, e, by omega, fun i hi => ?_⟩
    obtain ⟨A', m, c', h1, h2⟩ := hc i hi
    exact ⟨A', m, c', h1, h2.more hB⟩⟩
theorem Parts.oct (h : Parts w B A n c ps) : ∀ p ∈ ps, Pl.Oct p := by
  intro p hp
  obtain ⟨i, hi, rfl⟩ := List.getElem_of_mem hp
  have hl := h.len
  obtain ⟨g, o, _, _, hc⟩ := h.at_ (i := i) (by omega)
  obtain ⟨A', m, c', _, h2⟩ := hc i (by omega)
  have := h2.oct
  rwa [List.getD_eq_getElem?_getD, List.getElem?_eq_getElem hi] at this
theorem Parts.upto (h : Parts w B A n c ps) {k : Nat} (hk : k ≤ n) : Parts w B A k c (ps.take k) := by
  have hl := h.len
  refine ⟨by rw [List.length_take]; omega, Nat.le_trans hk h.le, h.cap, fun h0 => ?_⟩
  obtain ⟨g, o, e, hg, hc⟩ := h.at_ (i := 0) (by omega)
  refine ⟨g, o, e, hg, fun i hi => ?_⟩
  obtain ⟨A', m, c', h1, h2⟩ := hc i (by omega)
  refine ⟨A', m, c', h1, ?_⟩
  rw [List.getD_eq_getElem?_getD, List.getElem?_take, if_pos hi, ← List.getD_eq_getElem?_getD]; exact h2
end

theorem oct_flat {ps : List (List Nat)} (h : ∀ p ∈ ps, Pl.Oct p) : Pl.Oct ps.flatten := by
  intro x hx
  obtain ⟨p, hp, hxp⟩ := List.mem_flatten.1 hx
  exact h p hp x hxp
theorem flat_snoc (ps : List (List Nat)) (i : Nat) (h : i < ps.length) : (ps.take (i + 1)).flatten = (ps.take i).flatten ++ ps.getD i [] := by
  rw [List.take_succ_eq_append_getElem h, List.flatten_append, List.getD_eq_getElem?_getD, List.getElem?_eq_getElem h]
  simp
theorem oct_upto {ps : List (List Nat)} (h : ∀ p ∈ ps, Pl.Oct p) (j : Nat) : Pl.Oct (ps.take j).flatten := oct_flat fun p hp => h p (List.mem_of_mem_take hp)

/-- Sum's loop at its round j -/
def SRel (ps : List (List Nat)) (s i : Value) : Prop := ∃ (j y : Nat), j ≤ ps.length ∧ i = .int .i64 (j : Int) ∧ s = .int .u32 (y : Int) ∧ Pl.W y ∧ y = Pl.sum (ps.take j).flatten

set_option maxRecDepth 100000 in
set_option maxHeartbeats 400000 in
theorem sum_any (A : Option Addr) (n c : Nat) (ps : List (List Nat)) (w : World) (hT : Tab w) (hP : Parts w w.heap.size A n c ps) :
    Calls Tryd.prog 13 #[.slice A n c] w fun e w' => e = .returned (.int .u32 ((Pl.sum ps.flatten : Nat) : Int)) ∧ w = w' := by
  have hle := hP.le
  have hcap := hP.cap
  have HL := Lib.hid hP.len
  unfold maxLen at hcap
  go_enter Tryd.func13, Tryd.ntmps13
  go_wp2
  go_loop [3, 8] (fun s i => SRel ps s i) (fun _ i => n - (intOf i).toNat)
  case atStart => exact ⟨0, 0, Nat.zero_le _, rfl, rfl, Pl.W.mk (by omega), by rw [List.take_zero]; exact Pl.sum_nil.symm⟩
  case round =>
    obtain ⟨j, y, hj, rfl, rfl, hy, hr⟩ := hrel
    have HR := Lib.hid hr
    clear hr
    have hjn : j ≤ n := by have := HL.out; omega
    by_cases hlt : j < n
    · obtain ⟨g, o, rfl, hg, hc0⟩ := hP.at_ hlt
      obtain ⟨A', m, c', hc, hb⟩ := hc0 j hlt
      clear hc0
      have HS := Lib.hid (show Pl.sum (ps.take (j + 1)).flatten = Pl.more y (ps.getD j []) by
        rw [flat_snoc ps j (by have := HL.out; omega), Pl.sum_append _ _ (oct_upto hP.oct j), HR.out])
      obtain ⟨bs, hb0⟩ : ∃ b, b = ps.getD j [] := ⟨_, rfl⟩
      rw [← hb0] at hb HS
      clear hb0
      have HC := Lib.hid (more_any A' m c' y bs w hT hy hb)
      go_wp2_with fail
      refine HC.out.mono ?_
      rintro e w' ⟨rfl, rfl⟩
      go_wp2_with fail
      go_round
      case rel => exact ⟨j + 1, Pl.more y bs, by have := HL.out; omega, by go_num, rfl, Pl.more_W _ _, HS.out.symm⟩
      case measure => simp [intOf]; omega
    · have hjn : j = n := by omega
      have HJ := Lib.hid hjn
      clear hjn
      go_wp2_with fail
      go_ret
      refine ⟨ret_int ?_, rfl⟩
      rw [HR.out, List.take_of_length_le (by have := HL.out; have := HJ.out; omega)]

/-- the slice values vs read as the rows ps -/
def Slcs (w : World) (vs : List Value) (ps : List (List Nat)) : Prop := vs.length = ps.length ∧ ∀ i, i < vs.length → ∃ A m c, vs[i]? = some (.slice A m c) ∧ Bys w w.heap.size A m c (ps.getD i [])
theorem parts_lit (w : World) (vs : List Value) (ps : List (List Nat)) (h : Slcs w vs ps) (hl : vs.length ≤ maxLen) (t : TypeId) :
    Parts (w.alloc (.cells vs.toArray t)) (w.heap.size + 1) (some ⟨w.heap.size, 0, none⟩) vs.length vs.length ps := by
  refine ⟨h.1.symm, Nat.le_refl _, hl, fun _ => ⟨w.heap.size, 0, rfl, by omega, fun i hi => ?_⟩⟩
  obtain ⟨A, m, c, h1, h2⟩ := h.2 i hi
  refine ⟨A, m, c, ?_, (h2.below ((Below.refl _ _).alloc (Nat.le_refl _) _) (Nat.le_refl _)).more (by omega)⟩
  simp [go_sem, h1]
theorem slcs1 {w : World} {A : Option Addr} {n c : Nat} {bs : List Nat} (h : Bys w w.heap.size A n c bs) : Slcs w [.slice A n c] [bs] :=
  ⟨rfl, fun i hi => by
    obtain rfl : i = 0 := by simpa using hi
    exact ⟨A, n, c, rfl, h⟩⟩
theorem sum_lit (w : World) (vs : List Value) (ps : List (List Nat)) (hT : Tab w) (h : Slcs w vs ps) (hl : vs.length ≤ maxLen) :
    Calls Tryd.prog 13 #[.slice (some ⟨w.heap.size, 0, none⟩) vs.length vs.length] (w.alloc (.cells vs.toArray 23)) fun e w' => e = .returned (.int .u32 ((Pl.sum ps.flatten : Nat) : Int)) ∧ Below w.heap.size w w' :=
  (sum_any _ _ _ ps _ (hT.below ((Below.refl _ _).alloc (Nat.le_refl _) _) hT.pos) ((parts_lit w vs ps h hl _).more (by simp))).mono fun _ _ ⟨h1, h2⟩ => ⟨h1, h2 ▸ (Below.refl _ _).alloc (Nat.le_refl _) _⟩
theorem sum_one (w : World) (A : Option Addr) (n c : Nat) (bs : List Nat) (hT : Tab w) (h : Bys w w.heap.size A n c bs) :
    Calls Tryd.prog 13 #[.slice (some ⟨w.heap.size, 0, none⟩) 1 1] (w.alloc (.cells #[.slice A n c] 23)) fun e w' => e = .returned (.int .u32 ((Pl.sum bs : Nat) : Int)) ∧ Below w.heap.size w w' := by
  have := sum_lit w [.slice A n c] [bs] hT (slcs1 h) (by show 1 ≤ maxLen; decide)
  rw [List.flatten_cons, List.flatten_nil, List.append_nil] at this
  exact this

theorem lay4 (s : Nat) : Pl.lay 4 s = [s % 256, s / 256 % 256, s / 256 / 256 % 256, s / 256 / 256 / 256 % 256] := rfl
theorem lay_cells (s : Nat) (hs : Pl.W s) : (cellsOf (Pl.lay 4 s)).toArray = #[.int .u8 ((s : Int) % 256), .int .u8 ((s : Int) / 256 % 256), .int .u8 ((s : Int) / 65536 % 256), .int .u8 ((s : Int) / 16777216)] := by
  have h := hs.out
  rw [lay4]
  have e3 : (((s / 256 / 256 % 256 : Nat)) : Int) = (s : Int) / 65536 % 256 := by omega
  have e4 : (((s / 256 / 256 / 256 % 256 : Nat)) : Int) = (s : Int) / 16777216 := by omega
  simp only [cellsOf, List.map_cons, List.map_nil, e3, e4]
  rfl
/-- a sum's four bytes, as an array -/
def LayRet (w : World) (s : Nat) (e : Ending) (w' : World) : Prop := ∃ b0 b1 b2 b3 : Nat, Pl.lay 4 s = [b0, b1, b2, b3] ∧ e = .returned (.agg #[.int .u8 (b0 : Int), .int .u8 (b1 : Int), .int .u8 (b2 : Int), .int .u8 (b3 : Int)]) ∧ Below w.heap.size w w'
theorem arr4 {a b c d a' b' c' d' : Value} (h1 : a = a') (h2 : b = b') (h3 : c = c') (h4 : d = d') : Ending.returned (.agg #[a, b, c, d]) = .returned (.agg #[a', b', c', d']) := by rw [h1, h2, h3, h4]
theorem u8_eq {a b : Int} (h : a = b) : Value.int .u8 a = .int .u8 b := by rw [h]

set_option maxRecDepth 100000 in
set_option maxHeartbeats 400000 in
theorem lay_any (s : Nat) (w : World) (hs : Pl.W s) :
    Calls Tryd.prog 18 #[.int .u32 (s : Int)] w (LayRet w s) := by
  have h := hs.out
  go_enter Tryd.func18, Tryd.ntmps18
  go_wp2
  refine bodyPost_ret (v := .agg #[.int .u8 ((s : Int) % 256), .int .u8 ((s : Int) / 256 % 256), .int .u8 ((s : Int) / 65536 % 256), .int .u8 ((s : Int) / 16777216)]) (by simp [results, Tryd.results18, go_sem]) rfl ⟨_, _, _, _, lay4 s, ?_, (Below.refl _ _).alloc (Nat.le_refl _) _⟩
  exact arr4 (u8_eq (by omega)) (u8_eq (by omega)) (u8_eq (by omega)) (u8_eq (by omega))

/-- bytes that were laid out, whatever their block is called -/
theorem bys_cells (w : World) (bs : List Nat) (t : TypeId) (fr : Nat × Nat) (ho : Pl.Oct bs) (hl : bs.length ≤ maxLen) : Bys (w.alloc (.cells (cellsOf bs).toArray t fr)) (w.heap.size + 1) (some ⟨w.heap.size, 0, none⟩) bs.length bs.length bs := by
  refine ⟨rfl, Nat.le_refl _, hl, (fun e => by cases e), ho, fun _ => ⟨w.heap.size, 0, rfl, by omega, fun i hi => ?_⟩⟩
  have := cells_at bs i hi
  rw [Nat.zero_add, ← this]
  simp only [World.cell?, World.alloc, Array.getElem?_push, if_true]
  simp

set_option maxRecDepth 100000 in
set_option maxHeartbeats 400000 in
theorem mark_any (A : Option Addr) (n c : Nat) (bs : List Nat) (w : World) (hT : Tab w) (h1 : Bys w w.heap.size A n c bs) (hr : n ≤ 140737488351240) :
    Calls Tryd.prog 10 #[.slice A n c] w (RetRow w (Pl.mark bs)) := by
  obtain ⟨i0, hi, hz0, hz1, hz2⟩ := info_parts infoByte
  have HZ2 := Lib.hid hz2
  clear hz2
  have HI := Lib.hid (show i0.bytes * (n + 4) ≤ 281474976710656 by rw [HZ2.out]; omega)
  have HS := Lib.hid (sum_one w A n c bs hT h1)
  have hw := Pl.sum_W bs
  go_enter Tryd.func10, Tryd.ntmps10
  go_wp2_with fail
  refine HS.out.mono ?_
  rintro e w1 ⟨rfl, hb1⟩
  have HY := Lib.hid (lay_any (Pl.sum bs) w1 hw)
  go_wp2_with fail
  refine HY.out.mono ?_
  rintro e w2 ⟨b0, b1, b2, b3, hls, rfl, hb2⟩
  have HLL := Lib.hid hls
  clear hls
  go_wp2_with (at_make; refine wpList_make_own _ rfl (.const (.int .i64 0)) (.tmp 11) 23 rfl w.heap.size 5 i0 (.int .u8 0) 1 Tryd.underlying23 hi hz0 hz1 .i64 .i64 _ (n + 4) rfl rfl ?c1 ?c2 ?c3 ?c4 ?_)
  case c1 => go_num
  case c2 => exact HI.out
  case c3 => unfold maxLen; omega
  case c4 => have := hb1.size; have := hb2.size; simp; omega
  intro w3 o1 g1
  have hsz : w.heap.size ≤ w2.heap.size := Nat.le_trans hb1.size hb2.size
  have hbw2 : Below w.heap.size w w2 := hb1.trans (hb2.mono hb1.size)
  have ho4 : Pl.Oct [b0, b1, b2, b3] := by rw [← HLL.out]; exact Pl.oct_lay _ _
  have hq : Bys (w2.alloc (.cells #[.int .u8 (b0 : Int), .int .u8 (b1 : Int), .int .u8 (b2 : Int), .int .u8 (b3 : Int)] 41)) (w2.heap.size + 1) (some ⟨w2.heap.size, 0, none⟩) 4 4 [b0, b1, b2, b3] := bys_cells w2 [b0, b1, b2, b3] 41 (0, 0) ho4 (by show 4 ≤ maxLen; decide)
  have hb3 : Below (w2.heap.size + 1) (w2.alloc (.cells #[.int .u8 (b0 : Int), .int .u8 (b1 : Int), .int .u8 (b2 : Int), .int .u8 (b3 : Int)] 41)) w3 := (Below.refl _ _).grown g1 (by simp) (fun k e => by cases e)
  have hbw3 : Below w.heap.size w w3 := (hbw2.alloc hsz _).trans (hb3.mono (by omega))
  have hsz3 : w2.heap.size + 1 ≤ w3.heap.size := by have := hb3.size; simpa using this
  have s1 := (h1.below hbw3 (Nat.le_refl _)).src
  clear g1
  go_wp2_with (at_builtin; refine wpList_append_fits_any _ rfl (.tmp 13) (.tmp 14) 23 rfl w.heap.size 5 i0 1 Tryd.underlying23 hi hz1 (w2.heap.size + 1) 0 (n + 4) [] rfl o1 A n c (cellsOf bs) rfl ?c5 ?c6 ?c7 ?c8 ?c9 ?_)
  case c5 => rw [len_cells, h1.len, Nat.mul_one]
  case c6 => exact s1.1
  case c7 => exact s1.2
  case c8 => exact cells_one bs
  case c9 => omega
  intro w4 o2 g2
  have hb4 : Below (w2.heap.size + 1) w3 w4 := (Below.refl _ _).grown g2 hsz3 (fun k e => by cases e; exact Nat.le_refl _)
  have hq4 := (hq.below hb3 (Nat.le_refl _)).below hb4 (Nat.le_refl _)
  have s2 := hq4.src
  have hbw4 : Below w.heap.size w w4 := hbw3.trans (hb4.mono (by omega))
  clear s1 o1 g2
  go_wp2_with (at_builtin; refine wpList_append_fits_any _ rfl (.tmp 16) (.tmp 17) 23 rfl w.heap.size 5 i0 1 Tryd.underlying23 hi hz1 (w2.heap.size + 1) n (n + 4) (cellsOf bs) rfl o2 (some ⟨w2.heap.size, 0, none⟩) 4 4 (cellsOf [b0, b1, b2, b3]) rfl ?d5 ?d6 ?d7 ?d8 ?d9 ?_)
  case d5 => rfl
  case d6 => exact s2.1
  case d7 => exact s2.2
  case d8 => exact cells_one _
  case d9 => omega
  intro w5 o3 g3
  have hbw5 : Below w.heap.size w w5 := hbw4.grown g3 hbw4.size (fun k e => by cases e; omega)
  clear s2 o2 g3
  go_wp2
  go_ret
  refine ⟨w2.heap.size + 1, n + 4, ?_, ⟨?_, Pl.mark_oct h1.oct⟩, hbw5⟩
  · rw [Pl.mark_len, h1.len]; rfl
  · rw [Pl.mark_len, h1.len, Pl.mark, HLL.out, cells_append]; exact o3
end Go.Proofs.YtghllmdbhhaofaaDoor
