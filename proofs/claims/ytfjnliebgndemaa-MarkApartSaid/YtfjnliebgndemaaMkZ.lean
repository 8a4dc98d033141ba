/-
  Marks.All: by clients, rising, in new memory. Conditions: none but the marks'.
-/
import Derived.Test.YtfjnliebgndemaaMkY
namespace Go.Proofs.Ytfjnliebgndemaa
open Go.RowKit
open Go.Shelf Go.Lib Go.Sort

/-- what is told: marks in new memory -/
def RetM (w : World) (M : Pl.Mks) (e : Ending) (w' : World) : Prop := ∃ A c, e = .returned (.slice A M.length c) ∧ Rws encMk w' w'.heap.size A M.length c M ∧ (∀ a, A = some a → w.heap.size ≤ a.block) ∧ Below w.heap.size w w'
theorem permIn_toList {d d' : Array (Int × Int)} (h : PermIn 0 d.size d d') : d'.size = d.size ∧ d'.toList.Perm d.toList := by
  refine ⟨h.1, ?_⟩
  have := h.2.2
  simp at this
  rwa [List.take_of_length_le (by simp [h.1])] at this
theorem sortedIn_pair {d : Array (Int × Int)} (h : SortedIn (ltOf cmpMk) 0 d.size d) : d.toList.Pairwise (fun a b => ¬ b.1 < a.1) := by
  rw [List.pairwise_iff_getElem]
  intro i j hi hj hij
  have hj' : j < d.size := by simpa using hj
  have := h i j (Nat.zero_le _) hij hj'
  rw [cmpMk_lt] at this
  have e1 : d[i]! = d[i] := by rw [getElem!_pos d i (by omega)]
  have e2 : d[j]! = d[j] := by rw [getElem!_pos d j (by omega)]
  rw [e1, e2] at this
  simpa using this
theorem mkEnter : ∀ args (w : World), (callFunc 31 args).run Try.prog w = .ok (.enter 31 args) w := enters_of Try.func31 (by kernel_rfl) rfl
/-- the sort of what was collected -/
theorem sortMk {w : World} {base : Nat} {A : Option Addr} {c : Nat} {Cs M : Pl.Mks} (h : OwnR encMk 2 61 w base (.slice A Cs.length c) Cs) (hM : Pl.Rising M) (hp : Cs.Perm M) (hl : Cs.length ≤ 5000000000) :
    Calls Try.prog 30 #[.slice A Cs.length c, .func (.func 31) #[] #[]] w fun e w' => e = .returned (.tuple #[]) ∧ Rws encMk w' w'.heap.size A M.length c M ∧ (∀ a, A = some a → base ≤ a.block) ∧ Tn (fun i => base ≤ i) w w' := by
  have hlen := hp.length_eq
  by_cases h0 : Cs.length = 0
  · have e1 := List.eq_nil_of_length_eq_zero h0
    subst e1
    have e2 := List.eq_nil_of_length_eq_zero (show M.length = 0 by rw [← hlen]; rfl)
    subst e2
    obtain ⟨A', c', e3, h2, h3⟩ := h.shape encMk_len
    injection e3 with e4 _ e5
    subst e4 e5
    refine (Try.slices_SortFunc_none (α := Int × Int) A c _ w).mono ?_
    rintro e w' ⟨rfl, rfl⟩
    exact ⟨rfl, h2, h3, Tn.refl _ _⟩
  · obtain ⟨hn, h2⟩ := h.rws encMk_len
    obtain ⟨A', c', e3, _, h3⟩ := h.shape encMk_len
    injection e3 with e4 _ e5
    subst e4 e5
    obtain ⟨g, rfl, hb, hg⟩ := h.pos_ (by omega)
    have hc : ∃ cs, w.heap[g]? = some (.cells cs 61 (0, 0)) := by
      rcases h.2 with ⟨e, _⟩ | ⟨g', cap, cur, e, _, hh, _⟩
      · cases e
      · cases e
        exact ⟨cur, hh⟩
    obtain ⟨hH, hg2⟩ := holds_of h2 (by omega) hc
    have hs := Try.slices_SortFunc 2 Try.isAgg61 Try.sizeOf61 encMk encMk_len encMk_one cmpMk cmpMk_swo 31 #[] g 0 c Cs.toArray w mkEnter (fun _ _ _ _ x y => closeMk x y _) hH hg2 (by simp only [List.size_toArray]; omega)
    simp only [List.size_toArray] at hs
    refine hs.mono ?_
    rintro e w' ⟨rfl, d', n, os, hP, hS, rfl⟩
    have hP2 := permIn_toList (d := Cs.toArray) (by simpa using hP)
    have hsz : d'.size = Cs.length := by simpa using hP2.1
    rw [← hsz] at hS
    have he : d'.toList = M := Pl.sorted_is hM (hP2.2.trans (by simpa using hp)) (sortedIn_pair hS)
    have hH2 := holdsK_sortWorldK encMk 2 w g 0 n Cs.toArray d' os hg2 hH (by simpa using hsz)
    have ht := sort_tn w g n d' os
    have hR := rows_of (c := c) hH2 (Nat.lt_of_lt_of_le hg2 ht.size) (by rw [hsz]; exact h2.le) h2.cap
    rw [he, hsz, hlen] at hR
    exact ⟨rfl, hR, h3, ht.more (fun i _ e => by rw [e]; exact hb)⟩
/-- what the range of All has done so far -/
def AlR (w0 wr : World) (b r : Nat) (M : Pl.Mks) (s : Value) : Prop := ∃ (left : Lit → Bool) (cnt : Nat) (Cs : Pl.Mks) (A : Option Addr) (c : Nat), s = .slice A Cs.length c ∧ wr.ranges Try.prog 32 (plainElem (H := Unit) Try.prog 3) b r M.length (dat M) left cnt ∧
  OwnR encMk 2 61 wr (r + 1) (.slice A Cs.length c) Cs ∧ Pl.Coll M left Cs ∧ Cs.length + cnt ≤ M.length ∧ Below w0.heap.size w0 wr
set_option maxRecDepth 100000 in
set_option maxHeartbeats 1000000 in
theorem allM {w : World} {p b : Nat} {N : Int} {M : Pl.Mks} (h : MarksW w p b N M) :
    Calls Try.prog 19 #[.pointer (some ⟨p, 0, none⟩)] w fun e w' => RetM w M e w' := by
  have HN := Lib.hid (none_marks h)
  obtain ⟨c0, c1⟩ := h.cells
  have HH := Lib.hid h
  have hml := Pl.rising_len h.ok.up h.ok.key (by omega)
  have hv2 := h.own
  clear h
  go_enter Try.func19, Try.ntmps19
  go_wp2_with fail
  refine HN.out.mono ?_
  rintro e w' ⟨rfl, rfl⟩
  go_wp2_with (first | (at_range; refine wpList_range_own _ rfl _ 63 rfl 32 3 keyedC Try.underlying63 _ b _ _ rfl hv2 ?_; intro w0 hrg0 hg0 hs0) | fail)
  go_frame
  have HR0 := Lib.hid hrg0
  have HG0 := Lib.hid hg0
  clear hrg0 hg0 hv2 c0 c1 hs0
  go_loopw [3, 4, 5] (fun s _ _ wr => AlR w' wr b w'.heap.size M s) (fun _ _ _ wr => wr.rangeLeft b w'.heap.size)
  case atStart => exact ⟨_, _, [], none, 0, rfl, HR0.out, OwnR.nil_ _ _ _ _ _, Pl.coll_start M HH.out.ok.up, by rw [size_dat]; simp, (Below.refl _ _).grown HG0.out (Nat.le_refl _) (fun j e => by cases e)⟩
  case round =>
    obtain ⟨left, cnt, Cs, A, c, rfl, hrg, ho, hco, hle, hb⟩ := hrel
    have HRG := Lib.hid hrg
    have HO := Lib.hid ho
    have HC := Lib.hid hco
    have HB := Lib.hid hb
    clear hrg ho hco hb
    go_wp2_with (first | (at_next; refine wpList_next_ranges_ii _ rfl _ rfl 32 3 .u32 .i64 keyedC Try.underlying32 Try.underlying3 b w'.heap.size M.length _ _ _ rfl HRG.out ?_ ?_) | fail)
    · intro _ hl0
      have HS := Lib.hid (sortMk HO.out HH.out.ok.up (Pl.coll_end HC.out HH.out.ok.up hl0) (by omega))
      go_wp2_with fail
      refine HS.out.mono ?_
      rintro e w5 ⟨rfl, hr5, ha5, ht5⟩
      go_wp2_with fail
      go_ret
      exact ⟨A, c, by rw [(Pl.coll_end HC.out HH.out.ok.up hl0).length_eq]; rfl, hr5, fun a e => by have := ha5 a e; omega, ht5.below HB.out HB.out.size (fun i hi => by omega)⟩
    · intro x v w1 cnt1 hwx hwc hlx hat hrg1 hlt hg1 hs1 hen
      have hgx := at_get hat
      have hbw : b < w'.heap.size := HH.out.own.lt
      have ho1 : OwnR encMk 2 61 w1 (w'.heap.size + 1) (.slice A Cs.length c) Cs := HO.out.tn ((Tn.refl (fun i => i = w'.heap.size) wr).grown hg1 (fun k e => by cases e; exact .inr rfl)) (fun g hg => by have := (HO.out.lt g hg).1; omega)
      have hb1 := HB.out.grown hg1 HB.out.size (fun j e => by cases e; exact Nat.le_refl _)
      have hr1 := hrg1.lt
      have HO1 := Lib.hid (ho1.alloc (.cells #[.int .u32 x, .int .i64 v] 61))
      have HSRC := Lib.hid (show Rws encMk (w1.alloc (.cells #[.int .u32 x, .int .i64 v] 61)) (w1.alloc (.cells #[.int .u32 x, .int .i64 v] 61)).heap.size (some ⟨w1.heap.size, 0, none⟩) 1 1 [(x, v)] from ((OwnR.lit (e := 61) encMk_len w1 [(x, v)] (by simp [maxLen])).rws encMk_len).2)
      have HRG1 := Lib.hid (hrg1.alloc (.cells #[.int .u32 x, .int .i64 v] 61))
      have HC1 := Lib.hid (Pl.coll_step HC.out HH.out.ok.up hlx hgx)
      have HB1 := Lib.hid (below_alloc hb1 (.cells #[.int .u32 x, .int .i64 v] 61))
      have HLT := Lib.hid (show cnt1 < wr.rangeLeft b w'.heap.size by rw [HRG.out.left_eq]; exact hlt)
      clear hrg1 ho1 hb1 hgx hlx hat hwx hwc hs1 hg1
      go_wp2_with (first | (at_builtin; refine wpList_append_mk _ rfl _ _ rfl (w'.heap.size + 1) _ _ _ Cs rfl HO1.out _ _ _ _ [(x, v)] rfl HSRC.out (by omega) (by simp; omega) ?_; intro A2 c2 w3 ho3 hg3) | fail)
      have hown : ∀ g, Value.ownBlock (.slice A Cs.length c) = some g → w'.heap.size + 1 ≤ g := fun g hg => (HO1.out.lt g hg).1
      have hrg3 := HRG1.out.kept hg3 (fun e => by have := hown b e.symm; omega) (fun e => by have := hown _ e.symm; omega)
      go_roundw
      case rel => exact ⟨_, cnt1, Cs ++ [(x, v)], A2, c2, by simp, hrg3, by simpa using ho3, HC1.out, by simp; omega, HB1.out.grown hg3 HB1.out.size (fun j e => by have := hown j e; omega)⟩
      case measure => rw [hrg3.left_eq]; exact HLT.out
end Go.Proofs.Ytfjnliebgndemaa
