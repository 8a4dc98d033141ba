/-
  Contracts of the document's own answers for layer 2 that make bytes (copybookref02.Join, Mark, Strip): the same plain functions as crc's; new memory, nothing that was there turned. Conditions: what is made has at most 2^47 bytes.
-/
import Derived.Test.YtghllmdbhhaofaaDoorCrcV
import Derived.RegionTactic
import Derived.Deep.RegionWith
import Derived.ChangeAlike
namespace Go.Proofs.YtghllmdbhhaofaaDoor
open Go.RowKit

/-- a call's answer: the bytes bs of its own, nil if there are none, nothing that was there turned -/
def RetV (w : World) (bs : List Nat) (e : Ending) (w' : World) : Prop :=
  ∃ A cap, e = .returned (.slice A bs.length cap) ∧ OwnV w' w.heap.size (.slice A bs.length cap) bs ∧ Below w.heap.size w w'

/-- Join's loop at its round j -/
def JRel (w : World) (ps : List (List Nat)) (b i : Value) (wr : World) : Prop :=
  ∃ (j k c : Nat) (A : Option Addr), j ≤ ps.length ∧ i = .int .i64 (j : Int) ∧ b = .slice A k c ∧ OwnV wr w.heap.size (.slice A k c) (ps.take j).flatten ∧ Below w.heap.size w wr
theorem flat_le (ps : List (List Nat)) (i : Nat) (h : i < ps.length) : (ps.take i).flatten.length + (ps.getD i []).length ≤ ps.flatten.length := by
  have e := flat_snoc ps i h
  have e2 : ps.flatten = (ps.take (i + 1)).flatten ++ (ps.drop (i + 1)).flatten := by rw [← List.flatten_append, List.take_append_drop]
  rw [e2, e, List.length_append, List.length_append]; omega

set_option maxRecDepth 100000 in
set_option maxHeartbeats 1000000 in
theorem join_any (A : Option Addr) (n c : Nat) (ps : List (List Nat)) (w : World) (hP : Parts w w.heap.size A n c ps) (hr : ps.flatten.length ≤ 140737488355328) :
    Calls Tryd.prog 9 #[.slice A n c] w (RetV w ps.flatten) := by
  have hle := hP.le
  have hcap := hP.cap
  have HL := Lib.hid hP.len
  unfold maxLen at hcap
  go_enter Tryd.func9, Tryd.ntmps9
  go_wp2_with fail
  go_loopw [3, 4] (fun b i wr => JRel w ps b i wr) (fun _ i _ => n - (intOf i).toNat)
  case atStart => exact ⟨0, 0, 0, none, Nat.zero_le _, rfl, rfl, by rw [List.take_zero]; exact OwnV.nil_ _ _, Below.refl _ _⟩
  case round =>
    obtain ⟨j, k, cb, Ab, hj, rfl, rfl, hV, hb⟩ := hrel
    have hjn : j ≤ n := by have := HL.out; omega
    by_cases hlt : j < n
    · obtain ⟨g, o, rfl, hg, hc0⟩ := hP.at_ hlt
      obtain ⟨A', m, c', hc, hB⟩ := hc0 j hlt
      clear hc0
      have hc := (hb.cell (p := ⟨g, o + j, none⟩) hg).trans hc
      have HB := Lib.hid ((hB.below hb (Nat.le_refl _)).more hb.size)
      have HV := Lib.hid hV
      have HFS := Lib.hid (flat_snoc ps j (by have := HL.out; omega))
      have hfl := flat_le ps j (by have := HL.out; omega)
      have hk := hV.bys.1
      have hm := hB.len
      have hfit : k + m ≤ 140737488355328 := by omega
      clear hV hB hfl hk hm
      obtain ⟨row, hrow⟩ : ∃ r, r = ps.getD j [] := ⟨_, rfl⟩
      rw [← hrow] at HB HFS
      clear hrow
      obtain ⟨pre, hpre⟩ : ∃ r, r = (ps.take j).flatten := ⟨_, rfl⟩
      rw [← hpre] at HV HFS
      clear hpre
      go_wp2_with (at_builtin; refine wpList_append_bys _ rfl (.tmp 11) (.tmp 15) rfl w.heap.size _ _ _ _ rfl HV.out wr.heap.size _ _ _ _ rfl HB.out hfit hb.size ?_)
      intro A2 c2 w2 hV2 hg2 hx2 hn2
      have hb2 := below_append HV.out hg2 hb hb.size
      rw [← HFS.out] at hV2
      have HV2 := Lib.hid hV2
      clear hx2 hg2 hn2 hV2
      go_wp2_with fail
      go_roundw
      case rel => exact ⟨j + 1, k + m, c2, A2, by have := HL.out; omega, by go_num, rfl, HV2.out, hb2⟩
      case measure => simp [intOf]; omega
    · have hjn : j = n := by omega
      have HJ := Lib.hid hjn
      clear hjn
      go_wp2_with fail
      go_ret
      have e : (ps.take j).flatten = ps.flatten := by rw [List.take_of_length_le (by have := HL.out; have := HJ.out; omega)]
      rw [e] at hV
      have hk := hV.bys.1
      subst hk
      exact ⟨Ab, cb, rfl, hV, hb⟩

/-- ref.Mark's loop at its round j -/
def FRel (w : World) (bs : List Nat) (s0 : Nat) (s out i : Value) (wr : World) : Prop :=
  ∃ (j s' k c : Nat) (A : Option Addr), j ≤ 4 ∧ i = .int .i64 (j : Int) ∧ s = .int .u32 (s' : Int) ∧ s' = s0 / 256 ^ j ∧ Pl.W s' ∧ out = .slice A k c ∧ k = bs.length + j ∧ OwnV wr w.heap.size (.slice A k c) (bs ++ (Pl.lay 4 s0).take j) ∧ Below w.heap.size w wr

set_option maxRecDepth 100000 in
set_option maxHeartbeats 1000000 in
theorem rmark_any (A : Option Addr) (n c : Nat) (bs : List Nat) (w : World) (h1 : Bys w w.heap.size A n c bs) (hr : n ≤ 140737488351240) :
    Calls Tryd.prog 15 #[.slice A n c] w (RetRow w (Pl.mark bs)) := by
  have HB := Lib.hid h1
  have HV := Lib.hid (OwnV.nil_ w w.heap.size)
  have HS := Lib.hid (rsum_any A n c bs w h1)
  have HL := Lib.hid h1.len
  have hsW := Pl.sum_W bs
  have HMK := Lib.hid (show Pl.mark bs = bs ++ Pl.lay 4 (Pl.sum bs) from rfl)
  obtain ⟨s0, hs0⟩ : ∃ s, s = Pl.sum bs := ⟨_, rfl⟩
  rw [← hs0] at HS hsW HMK
  clear h1 hs0
  go_enter Tryd.func15, Tryd.ntmps15
  go_wp2_with fail
  refine HS.out.mono ?_
  rintro e w' ⟨rfl, rfl⟩
  go_wp2_with (at_builtin; refine wpList_append_bys _ rfl (.tmp 8) (.tmp 9) rfl w.heap.size _ _ _ [] rfl HV.out w.heap.size _ _ _ bs rfl HB.out (by omega) (Nat.le_refl _) ?_)
  intro A2 c2 w2 hV2 hg2 hx2
  have hb2 := below_append HV.out hg2 (Below.refl _ w) (Nat.le_refl _)
  clear hx2 hg2
  have hV2 : OwnV w2 w.heap.size (.slice A2 n c2) bs := by simpa using hV2
  go_wp2_with fail
  go_loopw [3, 4, 5] (fun s out i wr => FRel w bs s0 s out i wr) (fun _ _ i _ => 4 - (intOf i).toNat)
  case atStart => exact ⟨0, s0, n, c2, A2, by omega, rfl, rfl, by rw [Nat.pow_zero, Nat.div_one], hsW, rfl, by rw [HL.out]; rfl, by rw [List.take_zero, List.append_nil]; exact hV2, hb2⟩
  case round =>
    obtain ⟨j, s', k, cb, Ab, hj, rfl, rfl, hs', hsW', rfl, hkl, hV, hb⟩ := hrel
    have HS' := Lib.hid hs'
    have HKL := Lib.hid hkl
    have hk2 : k ≤ 140737488355320 := by have := HL.out; omega
    clear hs' hkl
    by_cases hlt : j < 4
    · have hs2 := hsW'.out
      have hW2 : Pl.W (s' / 256) := Pl.W.mk (by omega)
      obtain ⟨wb, hwb⟩ : ∃ wb, wb = wr.alloc (.cells #[.int .u8 ((s' : Int) % 256)] 5) := ⟨_, rfl⟩
      have HBy := Lib.hid (show Bys wb wb.heap.size (some ⟨wr.heap.size, 0, none⟩) 1 1 [s' % 256] by
        have e : (s' : Int) % 256 = ((s' % 256 : Nat) : Int) := by omega
        have := (bys_cells wr [s' % 256] 5 (0, 0) (fun y hy => by simp at hy; omega) (by show 1 ≤ maxLen; decide)).more (B' := (wr.alloc (.cells (cellsOf [s' % 256]).toArray 5 (0, 0))).heap.size) (by simp)
        rw [hwb, e]; exact this)
      have HVb := Lib.hid (show OwnV wb w.heap.size (.slice Ab k cb) (bs ++ (Pl.lay 4 s0).take j) by rw [hwb]; exact hV.alloc _)
      have hbb : Below w.heap.size w wb := by rw [hwb]; exact below_alloc hb _
      rw [hwb] at HBy HVb hbb
      clear hV hwb
      have HT := Lib.hid (show (Pl.lay 4 s0).take (j + 1) = (Pl.lay 4 s0).take j ++ [s' % 256] by
        rw [Pl.take_snoc _ _ (by rw [Pl.len_lay]; omega), Pl.lay_getD _ _ _ hlt, HS'.out])
      have hd1 : (s' : Int) / 256 % 4294967296 = ((s' / 256 : Nat) : Int) := by omega
      have hd2 : (s' : Int) % 256 % 4294967296 = (s' : Int) % 256 := by omega
      go_wp2_with (at_builtin; refine wpList_append_bys _ rfl (.tmp 15) (.tmp 19) rfl w.heap.size _ _ _ _ rfl HVb.out (wr.alloc (.cells #[.int .u8 ((s' : Int) % 256)] 5)).heap.size _ _ _ _ rfl HBy.out (by omega) hbb.size ?_)
      intro A3 c3 w3 hV3 hg3 hx3 _
      have hb3 := below_append HVb.out hg3 hbb hbb.size
      rw [← HT.out] at hV3
      have HV3 := Lib.hid hV3
      clear hx3 hg3 hV3 HBy HVb hbb
      go_wp2_with fail
      go_roundw
      case rel => exact ⟨j + 1, s' / 256, k + 1, c3, A3, by omega, by go_num, by go_num, by rw [HS'.out, Nat.div_div_eq_div_mul, Nat.pow_succ], hW2, rfl, by rw [HKL.out]; rfl, HV3.out, hb3⟩
      case measure => simp [intOf]; omega
    · obtain rfl : j = 4 := by omega
      go_wp2_with fail
      go_ret
      rw [List.take_of_length_le (by rw [Pl.len_lay]; exact Nat.le_refl _), ← HMK.out] at hV
      obtain ⟨g, rfl, hk, hO⟩ := hV.pos_ (by rw [Pl.mark_len]; omega)
      subst hk
      exact ⟨g, cb, rfl, hO, hb⟩

theorem str_beq {a b : List Nat} (ha : Pl.Oct a) (hb : Pl.Oct b) : ((strOfNums (ints a)).toList == (strOfNums (ints b)).toList) = decide (a = b) := by
  rw [Bool.eq_iff_iff, beq_iff_eq, decide_eq_true_iff, ByteArray.toList_eq, ByteArray.toList_eq]
  exact ⟨fun e => bytes_inj ha hb (WideShapes.bytes_inj e), fun e => by rw [e]⟩
/-- what ref.Strip answers of four bytes or more -/
def RStripRet (w : World) (cs : List Nat) (d : Bool) (e : Ending) (w' : World) : Prop :=
  Below w.heap.size w w' ∧ (d = false → e = .returned (.tuple #[.slice none 0 0, .int .i64 20])) ∧ (d = true → ∃ A cap, e = .returned (.tuple #[.slice A cs.length cap, .int .i64 0]) ∧ Bys w' w'.heap.size A cs.length cap cs)

set_option maxRecDepth 100000 in
set_option maxHeartbeats 1000000 in
theorem rstrip_any (A : Option Addr) (n c k : Nat) (bs : List Nat) (w : World) (h1 : Bys w w.heap.size A n c bs) (hk : n = k + 4) (hr : n ≤ 140737488351240) :
    Calls Tryd.prog 12 #[.slice A n c] w (RStripRet w (bs.take k) (decide (Pl.mark (bs.take k) = bs))) := by
  have hle := h1.le
  have hcap := h1.cap
  unfold maxLen at hcap
  have hkn : k ≤ n := by omega
  have hk4 : k + 4 ≤ n := by omega
  have h4 : ¬ n < 4 := by omega
  have e4 : (n : Int) - 4 = (k : Int) := by omega
  have HBk := Lib.hid (h1.upto hkn)
  have HB := Lib.hid h1
  have HV := Lib.hid (OwnV.nil_ w w.heap.size)
  have HLk := Lib.hid (h1.upto hkn).len
  have hst := str_beq (Pl.mark_oct (h1.upto hkn).oct) h1.oct
  clear h1 hk
  have z1 : (0 : Int) ≤ (k : Int) := by omega
  have z2 : (k : Int) ≤ (c : Int) := by omega
  obtain ⟨cs, hcs⟩ : ∃ cs, cs = bs.take k := ⟨_, rfl⟩
  rw [← hcs] at HBk HLk hst ⊢
  clear hcs
  obtain ⟨d, hd⟩ : ∃ d, d = decide (Pl.mark cs = bs) := ⟨_, rfl⟩
  rw [← hd] at hst ⊢
  clear hd
  go_enter Tryd.func12, Tryd.ntmps12
  go_wp2_with (at_builtin; refine wpList_append_bys _ rfl (.tmp 8) (.tmp 13) rfl w.heap.size _ _ _ [] rfl HV.out w.heap.size _ _ _ cs rfl HBk.out (by omega) (Nat.le_refl _) ?_)
  intro A2 c2 w2 hV2 hg2 hx2
  have hb2 := below_append HV.out hg2 (Below.refl _ w) (Nat.le_refl _)
  clear hx2 hg2
  have hV2 : OwnV w2 w.heap.size (.slice A2 k c2) cs := by simpa using hV2
  have HB2 := Lib.hid hV2.bys.2
  have hsb := fun (w' : World) (hk : Below w2.heap.size w2 w') => ((HB.out.below hb2 (Nat.le_refl _)).more hb2.size).str _ rfl w' (kb hk)
  obtain ⟨sb, hsb0⟩ : ∃ s, s = strOfNums (ints bs) := ⟨_, rfl⟩
  rw [← hsb0] at hst hsb
  clear hsb0 hV2
  have hks : Below w2.heap.size w2 w2.drew := below_drawn (Below.refl _ w2)
  have HM := Lib.hid (rmark_any A2 k c2 cs w2.drew HB2.out (by omega))
  go_wp2_with fail
  go_region_with (go_at_call 15; refine HM.out.mono ?_; rintro e wM ⟨gM, cM, rfl, hOM, hbM⟩; have hcv := hOM.bys.conv; have hbM' : Below w2.heap.size w2 wM := below_drew hbM)
  all_goals
    have hbw := below_then hb2 hbM'
    have HBM := Lib.hid ((HB2.out.below hbM' (Nat.le_refl _)).more hbM'.size)
    clear hsb hcv hbM hbM' hOM HM hks
    cases d
    · go_wp2_with fail
      refine bodyPost_ret (v := .tuple #[.slice none 0 0, .int .i64 20]) (by simp [results, Tryd.results12, go_sem]) rfl ⟨hbw, fun _ => rfl, (fun h => by cases h)⟩
    · go_wp2_with fail
      refine bodyPost_ret (v := .tuple #[.slice A2 k c2, .int .i64 0]) (by simp [results, Tryd.results12, go_sem]) rfl ⟨hbw, (fun h => by cases h), fun _ => ⟨A2, c2, ?_, ?_⟩⟩
      · rw [HLk.out]
      · rw [HLk.out]; exact HBM.out

set_option maxRecDepth 100000 in
set_option maxHeartbeats 400000 in
theorem rstrip_short (A : Option Addr) (n c : Nat) (w : World) (h4 : n < 4) :
    Calls Tryd.prog 12 #[.slice A n c] w fun e w' => e = .returned (.tuple #[.slice none 0 0, .int .i64 4]) ∧ w = w' := by
  have h5 : (n : Int) < 4 := by omega
  go_enter Tryd.func12, Tryd.ntmps12
  go_wp2_with fail
  refine bodyPost_ret (v := .tuple #[.slice none 0 0, .int .i64 4]) (by simp [results, Tryd.results12, go_sem]) rfl ⟨rfl, rfl⟩
end Go.Proofs.YtghllmdbhhaofaaDoor
