/-
  slices.reverseRangeOrdered, order2Ordered, medianOrdered, choosePivotOrdered at uint32. Conditions: rows of at most a million; below fifty for the pivot.
  slices.medianOrdered, choosePivotOrdered at uint32. Conditions: rows of at most a million; fewer than fifty for the pivot.
  slices.partialInsertionSortOrdered at uint32. Conditions: fewer than fifty.
-/
import Derived.Test.YtlgdcelgkiipaaaGreatOc19
set_option maxRecDepth 100000
set_option linter.unusedVariables false
namespace Go.Proofs.YtlgdcelgkiipaaaGreat.Ls
open Go.RowKit Go.Sort
structure Cnt (w0:World) (base g n c:Nat) (d:Array Int) (k s:Nat) (w:World):Prop where
 row:Sr w0 base g n c d w
 blk:w.heap[k]?=some (.cells #[.int .i64 (s:Int)] 3 (0,0))
 new:w0.heap.size≤k
 ne:k≠g
section
variable {w0 w w':World} {base g n c k s:Nat} {d:Array Int}
theorem Cnt.cell (h:Cnt w0 base g n c d k s w):w.cell? ⟨k,0,none⟩=some (.int .i64 (s:Int)):=cell0 (r:=[]) h.blk
theorem Cnt.fro (h:Cnt w0 base g n c d k s w):w.frozen? ⟨k,0,none⟩=false:=frozen_of_row w k 0 _ _ h.blk
theorem Cnt.then_ (h:Cnt w0 base g n c d k s w) (hb:Below w.heap.size w w'):Cnt w0 base g n c d k s w':=⟨h.row.then_ hb,below_old hb h.blk (lt_of_block h.blk),h.new,h.ne⟩
theorem Cnt.drewN (h:Cnt w0 base g n c d k s w) (q:Nat):Cnt w0 base g n c d k s (w.drewN q):=h.then_ ⟨rfl,rfl,rfl,Nat.le_refl _,fun _ _=>rfl⟩
theorem Cnt.bump (h:Cnt w0 base g n c d k s w) (t:Nat):Cnt w0 base g n c d k t (w.setCell ⟨k,0,none⟩ (.int .i64 (t:Int))) :=
 ⟨h.row.tn_ (T:=fun i=>i=k) ((Tn.refl (fun i=>i=k) w).set_ (p:=⟨k,0,none⟩) (Or.inr rfl) _) (fun b hb e=>by have:=h.new;omega) (fun e=>h.ne e.symm),blk_set h.blk _,h.new,h.ne⟩
end
set_option maxHeartbeats 4000000 in
theorem order2_u {w0 w:World} {base g n c k s a b:Nat} {d:Array Int} (h:Cnt w0 base g n c d k s w) (ha:a<n) (hb:b<n) (hs:s<1000000) :
  Calls Tryz.prog 278 #[.slice (some ⟨g,0,none⟩) n c,.int .i64 (a:Int),.int .i64 (b:Int),.pointer (some ⟨k,0,none⟩)] w fun e w'=>e=.returned (.tuple #[.int .i64 ((order2 ltInt d a b s).1:Int),.int .i64 ((order2 ltInt d a b s).2.1:Int)])∧Cnt w0 base g n c d k (order2 ltInt d a b s).2.2 w':=by
 have HS:=Lib.hid h
 have l1:(a:Int)<(n:Int):=Int.ofNat_lt.2 ha
 have l2:(b:Int)<(n:Int):=Int.ofNat_lt.2 hb
 have c1:=HS.out.row.cell ha
 have c2:=HS.out.row.cell hb
 obtain ⟨x,hx⟩ : ∃ x,x=d[a]!:=⟨_,rfl⟩
 obtain ⟨y,hy⟩ : ∃ y,y=d[b]!:=⟨_,rfl⟩
 rw [← hx] at c1
 rw [← hy] at c2
 cases hl:ltInt y x with
 | true =>
  have HO:=Lib.hid (show order2 ltInt d a b s=(b,a,s + 1) by unfold order2;rw [← hx,← hy,hl];rfl)
  have HL:=fun w=>Lib.hid (less_u hl w)
  clear h hl hx hy ha hb
  go_enter Tryz.func278,Tryz.ntmps278
  go_wp2_with fail
  go_quiet ((go_at_call 267;exact quiet_u (HL _).out))
  have hs3:=HS.out.drewN nq
  generalize w.drewN nq=W at hs3 ⊢
  have HS3:=Lib.hid hs3
  have c5:=hs3.cell
  have f5:=hs3.fro
  clear hs3 c1 c2 HL
  go_wp2_with fail
  go_returns
  rw [HO.out]
  exact ⟨rfl,by have:=HS3.out.bump (s + 1);simpa using this⟩
 | false =>
  have HO:=Lib.hid (show order2 ltInt d a b s=(a,b,s) by unfold order2;rw [← hx,← hy,hl];rfl)
  have HL:=fun w=>Lib.hid (less_u hl w)
  clear h hl hx hy ha hb
  go_enter Tryz.func278,Tryz.ntmps278
  go_wp2_with fail
  go_quiet ((go_at_call 267;exact quiet_u (HL _).out))
  have hs3:=HS.out.drewN nq
  generalize w.drewN nq=W at hs3 ⊢
  have HS3:=Lib.hid hs3
  clear hs3 c1 c2 HL
  go_wp2_with fail
  go_returns
  rw [HO.out]
  exact ⟨rfl,HS3.out⟩
open Go.RowKit Go.Sort
theorem order2_in (d:Array Int) {a b s n:Nat} (ha:a<n) (hb:b<n):(order2 ltInt d a b s).1<n∧(order2 ltInt d a b s).2.1<n∧(order2 ltInt d a b s).2.2≤s + 1:=by
 unfold order2
 split <;> simp [ha,hb]
set_option maxHeartbeats 4000000 in
theorem median_u {w0 w:World} {base g n c k s a b m:Nat} {d:Array Int} (h:Cnt w0 base g n c d k s w) (ha:a<n) (hb:b<n) (hm:m<n) (hs:s<900000) :
  Calls Tryz.prog 276 #[.slice (some ⟨g,0,none⟩) n c,.int .i64 (a:Int),.int .i64 (b:Int),.int .i64 (m:Int),.pointer (some ⟨k,0,none⟩)] w fun e w'=>e=.returned (.int .i64 ((median ltInt d a b m s).1:Int))∧Cnt w0 base g n c d k (median ltInt d a b m s).2 w'∧(median ltInt d a b m s).1<n∧(median ltInt d a b m s).2≤s + 3:=by
 have i1:=order2_in d (s:=s) ha hb
 have H1:=Lib.hid (order2_u h ha hb (by omega))
 obtain ⟨⟨p1,q1,s1⟩,hr1⟩ : ∃ r,r=order2 ltInt d a b s:=⟨_,rfl⟩
 rw [← hr1] at i1 H1
 have i2:=order2_in d (s:=s1) i1.2.1 hm
 obtain ⟨⟨p2,q2,s2⟩,hr2⟩ : ∃ r,r=order2 ltInt d q1 m s1:=⟨_,rfl⟩
 rw [← hr2] at i2
 have i3:=order2_in d (s:=s2) i1.1 i2.1
 obtain ⟨⟨p3,q3,s3⟩,hr3⟩ : ∃ r,r=order2 ltInt d p1 p2 s2:=⟨_,rfl⟩
 rw [← hr3] at i3
 have HM:=Lib.hid (show median ltInt d a b m s=(q3,s3) by unfold median;simp only [← hr1,← hr2,← hr3])
 simp only at i1 i2 i3 H1
 have HB:=Lib.hid (show q3<n∧s3≤s + 3 by omega)
 have H2:=fun w (h:Cnt w0 base g n c d k s1 w)=>Lib.hid (order2_u h i1.2.1 hm (by omega))
 have H3:=fun w (h:Cnt w0 base g n c d k s2 w)=>Lib.hid (order2_u h i1.1 i2.1 (by omega))
 rw [← hr2] at H2
 rw [← hr3] at H3
 clear h ha hb hm hs i1 i2 i3 hr1 hr2 hr3
 go_enter Tryz.func276,Tryz.ntmps276
 go_wp2_with fail
 refine H1.out.mono ?_
 rintro e w1 ⟨rfl,hc1⟩
 have HC1:=Lib.hid (H2 w1 hc1)
 clear hc1 H1 H2
 go_wp2_with fail
 refine HC1.out.out.mono ?_
 rintro e w2 ⟨rfl,hc2⟩
 have HC2:=Lib.hid (H3 w2 hc2)
 clear hc2 HC1 H3
 go_wp2_with fail
 refine HC2.out.out.mono ?_
 rintro e w3 ⟨rfl,hc3⟩
 have HC3:=Lib.hid hc3
 clear hc3 HC2
 go_wp2_with fail
 go_ret
 rw [HM.out]
 exact ⟨rfl,HC3.out,HB.out⟩
def hintN:Hint→Int
 | .unknown=>0
 | .increasing=>1
 | .decreasing=>2
theorem wr1 {a q:Nat} (ha:a<1000000) (hq:q<13):wrap64 ((a:Int) + wrap64 (wrap64 (q:Int)))=((a + q:Nat):Int):=by unfold wrap64;omega
theorem wr2 {a q:Nat} (ha:a<1000000) (hq:q<13):wrap64 ((a:Int) + wrap64 (wrap64 (q:Int) * 2))=((a + q * 2:Nat):Int):=by unfold wrap64;omega
theorem wr3 {a q:Nat} (ha:a<1000000) (hq:q<13):wrap64 ((a:Int) + wrap64 (wrap64 (q:Int) * 3))=((a + q * 3:Nat):Int):=by unfold wrap64;omega
theorem wr4 {a b L:Nat} (hq:L<1000001) (e:b=a + L):wrap64 ((b:Int) - (a:Int))=(L:Int):=by unfold wrap64;omega
theorem wr6 {a b L:Nat} (hq:L<1000001) (e:b=a + L):IntKind.i64.wrap ((b:Int) - (a:Int))=(L:Int):=by rw [IntKind.wrap_i64];omega
theorem wr5 {L q:Nat} (e:q=L / 4):(L:Int).tdiv 4=(q:Int):=by rw [Int.tdiv_eq_ediv_of_nonneg (by omega)];omega
set_option maxHeartbeats 4000000 in
theorem pivot_u {w0 w:World} {base g n c a b:Nat} {d:Array Int} (h:Sr w0 base g n c d w) (hw:w0.heap.size≤w.heap.size) (hab:a + 8≤b) (hb:b≤n) (hn:n≤1000000) (hl:b - a<50) :
  Calls Tryz.prog 264 #[.slice (some ⟨g,0,none⟩) n c,.int .i64 (a:Int),.int .i64 (b:Int)] w fun e w'=>e=.returned (.tuple #[.int .i64 ((choosePivot ltInt d a b).1:Int),.int .i64 (hintN (choosePivot ltInt d a b).2)])∧(choosePivot ltInt d a b).2≠.decreasing∧Sr w0 base g n c d w':=by
 obtain ⟨L,rfl⟩ : ∃ L,b=a + L:=⟨b - a,by omega⟩
 obtain ⟨q,hq⟩ : ∃ q,q=L / 4:=⟨_,rfl⟩
 have hq1:a + q<n∧a + q * 2<n∧a + q * 3<n∧q<13:=by omega
 have hc:=Cnt.mk (h.alloc (.cells #[.int .i64 0] 3 (0,0))) (k:=w.heap.size) (s:=0) (heap_new rfl) hw (by have:=h.at_.2;omega)
 have H1:=Lib.hid (median_u hc hq1.1 hq1.2.1 hq1.2.2.1 (by omega))
 obtain ⟨⟨p,s⟩,hr⟩ : ∃ r,r=median ltInt d (a + q) (a + q * 2) (a + q * 3) 0:=⟨_,rfl⟩
 rw [← hr] at H1
 have HP:=Lib.hid (show choosePivot ltInt d a (a + L)=(p,if s=0 then .increasing else if s=12 then .decreasing else .unknown) by
  unfold choosePivot
  simp only [Nat.add_sub_cancel_left,← hq,Nat.mul_one]
  rw [if_pos (by omega),if_neg (by omega),← hr])
 obtain ⟨b,hbb⟩ : ∃ b,b=a + L:=⟨_,rfl⟩
 rw [← hbb] at HP ⊢
 have g1:decide ((L:Int)≥8)=true:=decide_eq_true (by omega)
 have g2:decide ((L:Int)≥50)=false:=decide_eq_false (by omega)
 have g3:decide ((8:Int)≤(L:Int))=true:=decide_eq_true (by omega)
 have g4:decide ((50:Int)≤(L:Int))=false:=decide_eq_false (by omega)
 have g5:decide (8≤L)=true:=decide_eq_true (by omega)
 have g6:decide (50≤L)=false:=decide_eq_false (by omega)
 have HH:=Lib.hid h
 have HA9:=Lib.hid (show a<1000000∧L<50 by omega)
 have e1:=wr4 (Nat.lt_trans HA9.out.2 (by decide)) hbb
 have e2:=wr5 hq
 have X1:=Lib.hid (wr1 HA9.out.1 hq1.2.2.2)
 have X2:=Lib.hid (wr2 HA9.out.1 hq1.2.2.2)
 have X3:=Lib.hid (wr3 HA9.out.1 hq1.2.2.2)
 clear h hab hb hl hbb hq hq1 hr hc
 go_enter Tryz.func264,Tryz.ntmps264
 go_wp2_with fail
 rw [X1.out,X2.out,X3.out]
 refine H1.out.mono ?_
 rintro e w1 ⟨rfl,hc1,hp,hs⟩
 have HC1:=Lib.hid hc1
 have c5:=hc1.cell
 have HS:=Lib.hid hs
 have HPN:=Lib.hid hp
 clear hc1 H1 hs hp
 by_cases h0:s=0
 ·have k1:((s:Int) == 0)=true:=by simp [h0]
  have k2:((s:Int) == 12)=false:=by simp [h0]
  rw [if_pos h0] at HP
  clear h0
  go_wp2_with fail
  go_returns
  rw [HP.out]
  exact ⟨rfl,(fun h=>by cases h),HC1.out.row⟩
 ·have k1:((s:Int) == 0)=false:=by simp [h0]
  have k2:((s:Int) == 12)=false:=by simp;have:=HS.out;omega
  rw [if_neg h0,if_neg (by have:=HS.out;omega)] at HP
  clear h0
  go_wp2_with fail
  go_returns
  rw [HP.out]
  exact ⟨rfl,(fun h=>by cases h),HC1.out.row⟩
open Go.RowKit Go.Sort
section
variable {i b:Nat} {d:Array Int}
theorem scan_go (h:i<b) (hl:ltInt d[i]! d[i - 1]! = false):scanSorted ltInt d b i=scanSorted ltInt d b (i + 1):=by rw [scanSorted,if_pos (by simp [h,hl])]
theorem scan_stop (h:¬ i<b∨ltInt d[i]! d[i - 1]! = true):scanSorted ltInt d b i=i:=by
 rw [scanSorted,if_neg]
 rcases h with h | h <;> simp [h]
end
theorem partial_is {a b:Nat} {d:Array Int} (hl:b - a<50):partialInsertionSort ltInt d a b=(d,decide (scanSorted ltInt d b (a + 1)=b)):=by
 unfold partialInsertionSort
 rw [partialIns]
 simp only
 by_cases h:scanSorted ltInt d b (a + 1)=b
 ·rw [if_pos h,decide_eq_true h]
 ·rw [if_neg h,if_pos hl,decide_eq_false h]
def ScI (w0:World) (base g n c a b R:Nat) (d:Array Int) (v:Value) (w:World):Prop:=∃ i:Nat,v=.int .i64 (i:Int)∧a<i∧i≤b∧Sr w0 base g n c d w∧scanSorted ltInt d b i=R
def ScO (w0:World) (base g n c a:Nat) (d:Array Int) (v7 v8:Value) (w:World):Prop:=v7=.int .i64 ((a + 1:Nat):Int)∧v8=.int .i64 0∧Sr w0 base g n c d w
set_option maxHeartbeats 4000000 in
theorem partial_u {w0 w:World} {base g n c a b:Nat} {d:Array Int} (h:Sr w0 base g n c d w) (hab:a<b) (hb:b≤n) (hn:n≤1000000) (hl:b - a<50) :
  Calls Tryz.prog 266 #[.slice (some ⟨g,0,none⟩) n c,.int .i64 (a:Int),.int .i64 (b:Int)] w fun e w'=>e=.returned (.bool (partialInsertionSort ltInt d a b).2)∧(partialInsertionSort ltInt d a b).1=d∧Sr w0 base g n c d w':=by
 rw [partial_is hl]
 simp only
 obtain ⟨R,hR⟩ : ∃ R,R=scanSorted ltInt d b (a + 1):=⟨_,rfl⟩
 rw [← hR]
 have HR:=Lib.hid hR
 have HS:=Lib.hid h
 have HAB:=Lib.hid hab
 have ha9:a<1000000:=by omega
 have HB:=Lib.hid (show b≤n∧n≤1000000 from ⟨hb,hn⟩)
 obtain ⟨L,hL⟩ : ∃ L,L=b - a:=⟨_,rfl⟩
 have e1:=wr4 (a:=a) (b:=b) (L:=L) (by omega) (by omega)
 have z5:decide ((L:Int)<50)=true:=decide_eq_true (by omega)
 have z6:decide (L<50)=true:=decide_eq_true (by omega)
 clear h hab hb hn hl hR hL
 go_enter Tryz.func266,Tryz.ntmps266
 go_wp2_with fail
 go_loopw [7,8] (fun v7 v8 wr=>ScO w0 base g n c a d v7 v8 wr) (fun v7 v8 _=>0)
 case atStart=>exact ⟨by go_num,rfl,HS.out⟩
 case round =>
  obtain ⟨rfl,rfl,hs⟩:=hrel
  have HS1:=Lib.hid hs
  clear hs
  go_wp2_with fail
  go_loopw [7] (fun v wr2=>ScI w0 base g n c a b R d v wr2) (fun v _=>b - (intOf v).toNat)
  case atStart=>exact ⟨a + 1,by first | rfl | go_num,Nat.lt_succ_self _,HAB.out,HS1.out,HR.out.symm⟩
  case round =>
   obtain ⟨i,rfl,hai,hib,hs,he⟩:=hrel
   have HE:=Lib.hid he
   have HS2:=Lib.hid hs
   clear he hs
   by_cases hlt:i<b
   ·have hi9:i<1000000:=by have:=HB.out;omega
    have hi0:0<i:=by omega
    obtain ⟨im,him⟩ : ∃ q,q=i - 1:=⟨_,rfl⟩
    have HI:=Lib.hid (show i<b∧a<i + 1∧i + 1≤b∧b - (i + 1)<b - i∧im=i - 1 by omega)
    have hin:i<n:=by have:=HB.out;omega
    have him2:im<n:=by omega
    have c1:=HS2.out.cell hin
    have c2:=HS2.out.cell him2
    have z1:decide ((i:Int)<(b:Int))=true:=decide_eq_true (by omega)
    have z2:decide (i<b)=true:=decide_eq_true hlt
    have hne:=Lib.hid (show ((i:Int) == (b:Int))=false by simp;omega)
    have l2:(i:Int)<(n:Int):=Int.ofNat_lt.2 hin
    have l4:(im:Int)<(n:Int):=Int.ofNat_lt.2 him2
    have hm:wrap64 ((i:Int) - 1)=(im:Int):=wr4 (L:=im) (a:=1) (by omega) (by omega)
    have hm2:IntKind.i64.wrap ((i:Int) - 1)=(im:Int):=wr6 (L:=im) (a:=1) (by omega) (by omega)
    obtain ⟨x,hx⟩ : ∃ x,x=d[i]!:=⟨_,rfl⟩
    obtain ⟨y,hy⟩ : ∃ y,y=d[im]!:=⟨_,rfl⟩
    rw [← hx] at c1
    rw [← hy] at c2
    have HX:=Lib.hid hx
    have HY:=Lib.hid hy
    clear him hx hy hin him2 hlt hai hib
    cases hl:ltInt x y with
    | true =>
     have HL:=fun w=>Lib.hid (less_u hl w)
     have HST:=Lib.hid (show i=R by rw [← HE.out,scan_stop (.inr (by rw [← HI.out.2.2.2.2,← HX.out,← HY.out];exact hl))])
     clear hl
     go_wp2_with fail
     go_quiet ((go_at_call 267;exact quiet_u (HL _).out))
     have hs3:=HS2.out.drewN nq
     generalize wr.drewN nq=W at hs3 ⊢
     have HS3:=Lib.hid hs3
     have zne:=hne.out
     clear hs3 c1 c2 HL z1 z2
     go_wp2_with fail
     go_ret
     exact ⟨by rw [decide_eq_false (by rw [← HST.out];have:=HI.out;omega)] <;> rfl,trivial,HS3.out⟩
    | false =>
     have HL:=fun w=>Lib.hid (less_u hl w)
     have HST:=Lib.hid (show scanSorted ltInt d b (i + 1)=R by rw [← HE.out,scan_go HI.out.1 (by rw [← HI.out.2.2.2.2,← HX.out,← HY.out];exact hl)])
     clear hl
     go_wp2_with fail
     go_quiet ((go_at_call 267;exact quiet_u (HL _).out))
     have hs3:=HS2.out.drewN nq
     generalize wr.drewN nq=W at hs3 ⊢
     have HS3:=Lib.hid hs3
     clear hs3 c1 c2 HL z1 z2 hm hm2
     go_wp2_with fail
     go_roundw
     case rel=>exact ⟨i + 1,by go_num,HI.out.2.1,HI.out.2.2.1,HS3.out,HST.out⟩
     case measure=>simp [intOf];(have:=HI.out;omega)
   ·have hib2:i=b:=by omega
    subst hib2
    have z1:decide ((i:Int)<(i:Int))=false:=by simp
    have zq:((i:Int) == (i:Int))=true:=by simp
    have HST:=Lib.hid (show i=R by rw [← HE.out,scan_stop (.inl hlt)])
    clear hlt hib hai
    go_wp2_with fail
    go_quiet (fail)
    have hs3:=HS2.out.drewN nq
    generalize wr.drewN nq=W at hs3 ⊢
    have HS3:=Lib.hid hs3
    clear hs3
    go_wp2_with fail
    go_ret
    exact ⟨by rw [decide_eq_true HST.out.symm] <;> rfl,trivial,HS3.out⟩
end Go.Proofs.YtlgdcelgkiipaaaGreat.Ls
