/-
  Marks.Go: rows that fit (the length is what the row leaves, each place goes by it), rows that do not (nothing turns). Conditions: rows of at most a thousand units, texts of at most a million code points; the row lies apart from the marks.
-/
import Derived.Test.YtfjnliebgndemaaMkV
namespace Go.Proofs.Ytfjnliebgndemaa
open Go.RowKit
open Pl (Un)

theorem make_sized (n : Nat) (w : World) : (Instr.makeMap 63 (some (.int .i64 (n : Int)))).run Try.prog w = .ok (.map (some w.heap.size)) (w.alloc (.map #[] 0)) := by
  simp [Instr.makeMap, run_underlying Try.underlying63, go_sem]
set_option maxRecDepth 100000 in
set_option maxHeartbeats 400000 in
theorem goM_bad {w : World} {p b : Nat} {N : Int} {M : Pl.Mks} (h : MarksW w p b N M) {B : Option Addr} {m d : Nat} {l : List Un} (hu : Uns w w.heap.size B m d l) (hm : m ≤ 1000) (hN : N ≤ 1000000) {e0 : Int} (hlo : Pl.longL l N = (0, e0)) (he : e0 ≠ 0) :
    Calls Try.prog 11 #[.pointer (some ⟨p, 0, none⟩), .slice B m d] w fun e w' => e = .returned (.int .i64 e0) ∧ Below w.heap.size w w' := by
  have HN := Lib.hid (none_marks h)
  have HLO := Lib.hid (long_any B m d l N w hu hm hN)
  rw [hlo] at HLO
  simp only at HLO
  obtain ⟨c0, c1⟩ := h.cells
  have z0 : (e0 == 0) = false := by simpa using he
  clear h hu hlo he
  go_enter Try.func11, Try.ntmps11
  go_wp2_with fail
  refine HN.out.mono ?_
  rintro e w' ⟨rfl, rfl⟩
  go_wp2_with fail
  refine HLO.out.mono ?_
  rintro e w' ⟨rfl, hb⟩
  go_wp2_with fail
  go_ret
  exact ⟨rfl, hb⟩
set_option maxRecDepth 100000 in
set_option maxHeartbeats 1000000 in
theorem goM_ok {w : World} {p b : Nat} {N N1 : Int} {M : Pl.Mks} (h : MarksW w p b N M) {B : Option Addr} {m d : Nat} {l : List Un} (hu : Uns w w.heap.size B m d l) (hm : m ≤ 1000) (hN : N ≤ 1000000) (hlo : Pl.longL l N = (N1, 0)) (hN1 : 0 ≤ N1 ∧ N1 < 9223372036854775808) :
    Calls Try.prog 11 #[.pointer (some ⟨p, 0, none⟩), .slice B m d] w fun e w' => ∃ b', e = .returned (.int .i64 0) ∧ w.heap.size ≤ b' ∧ MarksW w' p b' N1 (Pl.goM (fun v => Pl.placeR v l) M) ∧ Tn (fun i => i = p) w w' := by
  have HN := Lib.hid (none_marks h)
  have HLO := Lib.hid (long_any B m d l N w hu hm hN)
  rw [hlo] at HLO
  simp only at HLO
  have HH := Lib.hid h
  have HU := Lib.hid hu
  have hlen := hu.len
  obtain ⟨f, hf⟩ : ∃ f : Int → Int, f = fun v => Pl.placeR v l := ⟨_, rfl⟩
  have HK := Lib.hid (show ∀ v, 0 ≤ v → v ≤ N → 0 ≤ f v ∧ f v ≤ N1 from fun v h0 h1 => by
    rw [hf]
    have := Pl.placeR_keeps hlo h0 (Int.le_refl v) h1 (by omega)
    exact ⟨this.1, this.2.2⟩)
  have HF := Lib.hid hf
  have HN1 := Lib.hid hN1
  obtain ⟨c0, c1⟩ := h.cells
  rw [← hf]
  have hms := make_sized M.length
  clear h hu hlo hN1 hlen hf
  go_enter Try.func11, Try.ntmps11
  go_wp2_with fail
  refine HN.out.mono ?_
  rintro e w' ⟨rfl, hw⟩
  rw [hw]
  clear hw w'
  go_wp2_with fail
  refine HLO.out.mono ?_
  rintro e w2 ⟨rfl, hb⟩
  have H2 := Lib.hid (HH.out.then_ hb)
  have HB2 := Lib.hid hb
  clear hb c0 c1
  obtain ⟨c2, c3⟩ := H2.out.cells
  have hln := fun ty => H2.out.own.len Try.underlying63 ty
  simp only [size_dat] at hln
  obtain ⟨V, hV⟩ : ∃ V, V = w2.alloc (.map #[] 0) := ⟨_, rfl⟩
  obtain ⟨b2, hb2⟩ : ∃ b2, b2 = w2.heap.size := ⟨_, rfl⟩
  have hVB : Below w2.heap.size w2 V := by rw [hV]; exact below_box _ _
  have HVB := Lib.hid hVB
  have hVs : V.heap.size = b2 + 1 := by rw [hV, hb2]; simp
  have HVO := Lib.hid (show V.ownsMap Try.prog 32 (plainElem (H := Unit) Try.prog 3) b2 ([] : Pl.Mks).length (dat []) by rw [hV, hb2]; exact World.ownsMap_made w2 _ _ _)
  have HV1 := Lib.hid (H2.out.then_ hVB)
  have c4 : V.cell? ⟨p, 1, none⟩ = some (.map (some b)) := HV1.out.cells.2
  have hv2 := HV1.out.own
  have hbne : b ≠ b2 := by have := H2.out.own.lt; omega
  have hpne : p ≠ b2 := by have := H2.out.lt; omega
  have HNE := Lib.hid (show b ≠ b2 ∧ p ≠ b2 ∧ V.heap.size = b2 + 1 ∧ w.heap.size ≤ b2 from ⟨hbne, hpne, hVs, by rw [hb2]; exact HB2.out.size⟩)
  have HV := Lib.hid hV
  have HBB := Lib.hid hb2
  clear hV hVB hVs hbne hpne hb2
  rw [HV.out] at hv2 c4
  go_wp2_with (first | (at_range; refine wpList_range_own _ rfl _ 63 rfl 32 3 keyedC Try.underlying63 _ b _ _ rfl hv2 ?_; intro w0 hrg0 hg0 hs0) | fail)
  go_frame
  rw [← HV.out] at hrg0 hg0 hs0 ⊢
  rw [← HBB.out]
  have HR0 := Lib.hid hrg0
  have HG0 := Lib.hid hg0
  clear hrg0 hg0 hv2 c2 c3 c4 hs0 hln hms
  go_loopw [8, 9] (fun _ _ wr => ∃ (left : Lit → Bool) (cnt : Nat), wr.ranges Try.prog 32 (plainElem (H := Unit) Try.prog 3) b V.heap.size M.length (dat M) left cnt ∧ wr.ownsMap Try.prog 32 (plainElem (H := Unit) Try.prog 3) b2 (Pl.doneM f left M).length (dat (Pl.doneM f left M)) ∧ Tn (fun i => i = b2) V wr)
    (fun _ _ wr => wr.rangeLeft b V.heap.size)
  case atStart => exact ⟨_, _, HR0.out, by rw [Pl.done_start HH.out.ok.up f]; exact HVO.out.kept HG0.out (by simp), (Tn.refl (fun i => i = b2) V).grown HG0.out (fun k hk => by cases hk)⟩
  case round =>
    obtain ⟨left, cnt, hrg, how, hgw⟩ := hrel
    have HRG := Lib.hid hrg
    have HOW := Lib.hid how
    have HGW := Lib.hid hgw
    clear hrg how hgw
    go_wp2_with (first | (at_next; refine wpList_next_ranges_ii _ rfl _ rfl 32 3 .u32 .i64 keyedC Try.underlying32 Try.underlying3 b V.heap.size M.length _ _ _ rfl HRG.out ?_ ?_) | fail)
    · intro _ hl0
      have HM := Lib.hid (HV1.out.tn HGW.out HNE.out.2.1 HNE.out.1)
      have HE := Lib.hid (HM.out.relaid (b2 := b2) (N1 := N1) (M2 := Pl.goM f M) HNE.out.2.1 (by have := HOW.out; rw [Pl.done_end f hl0] at this; exact this) (HH.out.ok.go HK.out HN1.out))
      obtain ⟨c5, c6⟩ := HM.out.cells
      have f2 := frozen_of_row wr p 0 _ _ HM.out.blk
      have f3 := frozen_of_row wr p 1 _ _ HM.out.blk
      go_wp2_with fail
      go_ret
      exact ⟨b2, rfl, HNE.out.2.2.2, HE.out.1, (((Tn.of (fun i => i = p) HB2.out).trans (T' := fun _ => False) (Tn.of _ HVB.out) (fun _ _ x => x.elim)).trans HGW.out (fun i hi x => by have := HNE.out.2.2.2; omega)).trans HE.out.2 (fun _ _ x => x)⟩
    · intro x c w1 cnt1 hwx hwc hlx hat hrg1 hlt hg1 hs1 hen
      have bx := bounds_u32 hwx
      have hgx := at_get hat
      have hcm := HH.out.ok.place _ ((Pl.get_iff HH.out.ok.up).1 hgx)
      have hfc := HK.out c hcm.1 hcm.2
      have ht1 : Tn (fun i => i = b2) V w1 := HGW.out.grown hg1 (fun k hk => by cases hk; exact .inl (Nat.le_refl _))
      have how1 := HOW.out.kept hg1 (fun e => by have := HNE.out.2.2.1; cases e; omega)
      obtain ⟨left1, hl1⟩ : ∃ left1 : Lit → Bool, left1 = fun z => left z && !z.sameKey (.int .u32 x) := ⟨_, rfl⟩
      rw [← hl1] at hrg1
      have HST := Lib.hid (show ∀ w2, w2.ownsMap Try.prog 32 (plainElem (H := Unit) Try.prog 3) b2 (Pl.doneM f left M).length (dat (Pl.doneM f left M)) → ∃ w3, (Instr.mapUpdate 63 (.map (some b2)) (.int .u32 x) (.int .i64 (f c))).run Try.prog w2 = .ok () w3 ∧ w3.ownsMap Try.prog 32 (plainElem (H := Unit) Try.prog 3) b2 (Pl.doneM f left1 M).length (dat (Pl.doneM f left1 M)) ∧ Tn (fun i => i = b2) w2 w3 from
        fun w2 h2 => stepM h2 HH.out.ok.up HH.out.ok.len (by omega) hgx (by have := HN1.out; omega) hl1)
      have HPL := Lib.hid (show Calls Try.prog 15 #[.int .i64 c, .slice B m d] w1 fun e w3 => e = .returned (.int .i64 (f c)) ∧ Below w1.heap.size w1 w3 from by
        rw [HF.out]
        exact place_any c B m d l w1 (Rws.then_ HU.out ((((Tn.of (fun _ => False) HB2.out).trans (Tn.of _ HVB.out) (fun _ _ x => x)).trans ht1 (fun i hi x => by have := HNE.out.2.2.2; omega)).below (Below.refl _ _) (Nat.le_refl _) (fun _ x => x.elim))))
      have HT1 := Lib.hid ht1
      have HLT := Lib.hid (show cnt1 < wr.rangeLeft b V.heap.size by rw [HRG.out.left_eq]; exact hlt)
      have HR1 := Lib.hid hrg1
      have HO1 := Lib.hid how1
      clear hrg1 ht1 hl1 hfc hcm hgx hlx hat hwx hwc hs1 hg1 hlt how1
      go_wp2_with fail
      refine HPL.out.mono ?_
      rintro e w3 ⟨rfl, hb3⟩
      obtain ⟨w4, hst, how4, ht4⟩ := HST.out w3 (own_tn HO1.out (Tn.of (fun _ => False) hb3) (fun x => x))
      have htn := (Tn.of (fun i => i = b2) hb3).trans ht4 (fun _ _ x => x)
      have hrg4 := ranges_tn HR1.out htn (fun e => HNE.out.1 e) (fun e => by have := HNE.out.2.2.1; omega)
      have HTN := Lib.hid htn
      have HOW4 := Lib.hid how4
      clear hb3 how4 ht4 htn
      go_wp2_with fail
      go_roundw
      case rel => exact ⟨left1, cnt1, hrg4, HOW4.out, HT1.out.trans HTN.out (fun _ _ x => x)⟩
      case measure => rw [hrg4.left_eq]; exact HLT.out
end Go.Proofs.Ytfjnliebgndemaa
